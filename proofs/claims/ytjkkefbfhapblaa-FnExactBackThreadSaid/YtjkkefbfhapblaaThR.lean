/- Rows of vectors turned around (slices.Reverse), and threads that go back: both sides. -/
import Derived.Test.YtjkkefbfhapblaaThM
import Derived.Test.YtjkkefbfhapblaaThGr
import Derived.Test.YtjkkefbfhapblaaShelfV
namespace Go.Proofs.Ytjkkefbfhapblaa
set_option linter.unusedSimpArgs false
set_option linter.unusedVariables false
open Go.RowKit Go.Sort
set_option maxRecDepth 20000
namespace Th
open Fl Rate

/-- The vectors the other way round. -/
def revC (n : Nat) (c : Nat → Option Nat) : Nat → Option Nat := fun j => c ((n - 1 - j / 3) * 3 + j % 3)

theorem revC_0 (n k : Nat) (c : Nat → Option Nat) : revC n c (k * 3) = c ((n - 1 - k) * 3) := by
  unfold revC
  rw [show k * 3 / 3 = k by omega, show k * 3 % 3 = 0 by omega]
  rfl

theorem revC_1 (n k : Nat) (c : Nat → Option Nat) : revC n c (k * 3 + 1) = c ((n - 1 - k) * 3 + 1) := by
  unfold revC
  rw [show (k * 3 + 1) / 3 = k by omega, show (k * 3 + 1) % 3 = 1 by omega]

theorem revC_2 (n k : Nat) (c : Nat → Option Nat) : revC n c (k * 3 + 2) = c ((n - 1 - k) * 3 + 2) := by
  unfold revC
  rw [show (k * 3 + 2) / 3 = k by omega, show (k * 3 + 2) % 3 = 2 by omega]

def encV (p : Nat × Nat × Nat) : List Value := [.float .f32 p.1, .float .f32 p.2.1, .float .f32 p.2.2]

def triples (X : Nat → Nat) (n : Nat) : Array (Nat × Nat × Nat) := (Array.range n).map fun k => (X (k * 3), X (k * 3 + 1), X (k * 3 + 2))

theorem triples_size (X : Nat → Nat) (n : Nat) : (triples X n).size = n := by simp [triples]

theorem triples_get {X : Nat → Nat} {n k : Nat} (hk : k < n) : (triples X n)[k]! = (X (k * 3), X (k * 3 + 1), X (k * 3 + 2)) := by simp [triples, hk]

theorem enc_at (X : Nat → Nat) (k j : Nat) (hj : j < 3) : (encV (X (k * 3), X (k * 3 + 1), X (k * 3 + 2)))[j]! = .float .f32 (X (k * 3 + j)) := by
  match j, hj with
  | 0, _ => rfl
  | 1, _ => rfl
  | 2, _ => rfl

theorem flat_get {X : Nat → Nat} {n j : Nat} (hj : j < n * 3) : (flatK encV 3 (triples X n))[j]! = .float .f32 (X j) := by
  rw [get_flatK _ _ _ _ (by rw [triples_size]; exact hj), triples_get (by omega), enc_at _ _ _ (by omega)]
  congr 2; omega

theorem flat_rev {X : Nat → Nat} {n j : Nat} (hj : j < n * 3) : (flatK encV 3 (triples X n).reverse)[j]! = .float .f32 (X ((n - 1 - j / 3) * 3 + j % 3)) := by
  have hs := triples_size X n
  rw [get_flatK _ _ _ _ (by simpa [hs] using hj)]
  have e : (triples X n).reverse[j / 3]! = (triples X n)[n - 1 - j / 3]! := by
    rw [getElem!_pos _ _ (by simp [hs]; omega), Array.getElem_reverse, getElem!_pos _ _ (by rw [hs]; omega)]
    congr 1; omega
  rw [e, triples_get (by omega), enc_at _ _ _ (by omega)]

theorem put_block {w : World} {g : Nat} {cur F : Array Value} {T : TypeId} (h : w.heap[g]? = some (.cells cur T)) : (putRow id w g 0 F).heap[g]? = some (.cells (putCells id 0 F cur) T) := by
  simp [putRow, mapBlock, onCells, Array.getElem?_modify, h]

theorem put_other (w : World) {g b : Nat} {F : Array Value} (h : b ≠ g) : (putRow id w g 0 F).heap[b]? = w.heap[b]? := by
  simp [putRow, mapBlock, Array.getElem?_modify]
  intro e; exact absurd e.symm h

theorem put_cell {cur F : Array Value} {j : Nat} (hF : j < F.size) (hj : j < cur.size) : (putCells id 0 F cur)[j]? = some F[j]! := by
  simp [putCells, Array.getElem?_mapIdx, hj, hF]

theorem one_cell (p : Nat × Nat × Nat) : ∀ v ∈ encV p, v.oneCell' = true := by
  intro v hv
  simp [encV] at hv
  rcases hv with rfl | rfl | rfl <;> rfl

theorem rev_run (g n cap : Nat) (cur : Array Value) (c : Nat → Option Nat) (w : World) (hg : w.heap[g]? = some (.cells cur 28)) (hs : n * 3 ≤ cur.size) (hd : Done (n * 3) c cur) (hn : n ≤ 32) :
    Calls Try.prog 56 #[.slice (some ⟨g, 0, none⟩) n cap] w fun e w' => e = .returned (.tuple #[]) ∧ ∃ cur' : Array Value, w'.heap[g]? = some (.cells cur' 28) ∧ cur'.size = cur.size ∧ Done (n * 3) (revC n c) cur' ∧ (∀ b, b ≠ g → w'.heap[b]? = w.heap[b]?) ∧ Below g w w' := by
  obtain ⟨X, hX⟩ := Deep.choose_lt hd
  have hH : HoldsK encV 3 w g 0 (triples X n) := by
    intro j hj
    rw [size_flatK, triples_size] at hj
    refine ⟨?_, free_of hg _⟩
    rw [flat_get hj, cells_of hg, Nat.zero_add, (hX j hj).1]
    rfl
  have hcon := AnyQ.slices_Reverse Try.reverseV 3 Try.isAgg28 Try.sizeOf28 encV (fun _ => rfl) one_cell g 0 cap (triples X n) w hH (by rw [triples_size]; omega)
  rw [triples_size] at hcon
  change Calls Try.prog 56 _ _ _ at hcon
  refine hcon.mono ?_
  rintro e w' ⟨he, m, rfl⟩
  have hga : (Sort.ahead w m).heap[g]? = some (.cells cur 28) := hg
  have hFs : (flatK encV 3 (triples X n).reverse).size = n * 3 := by simp [triples_size]
  refine ⟨he, _, put_block hga, by simp [putCells], fun j hj => ⟨_, (put_cell (by rw [hFs]; exact hj) (by omega)).trans (by rw [flat_rev hj]), (hX _ (by omega)).2⟩, fun b hb => put_other (Sort.ahead w m) hb, ⟨rfl, rfl, rfl, by simp [putRowK], fun k hk => put_other (Sort.ahead w m) (by omega)⟩⟩

set_option maxHeartbeats 3200000 in
theorem impl_BackT (a : Option Addr) (n cap s : Nat) (cs : Option Nat) (c : Nat → Option Nat) (w : World) (h : IsV w a n cap c) (fs : Fr .f32 s cs) (R : Bool) (hR : okT n cs c = R) :
    Calls Try.prog 20 #[tV a n cap s] w (RetG R s n (revC n c) w) := by
  have HI := Lib.hid (fun w' (hb : Below w.heap.size w w') => impl_is a n cap s cs c w' (h.later hb) fs R hR)
  cases R
  · clear hR h
    go_enter Try.func20, Try.ntmps20
    go_wp2_with fail
    refine (HI.out _ (by (repeat' first | exact Below.refl _ _ | (refine Below.setCell ?_ (by first | omega | (simp; omega) | simp) _) | (refine below_drewN ?_ _) | (refine Below.alloc ?_ (by first | omega | (simp; omega) | simp) _) | (refine Below.trans ?_ (Below.mono (by assumption) (by first | omega | (simp; omega) | simp)))))).mono ?_
    rintro e w1 ⟨rfl, hb1⟩
    have hz1 := hb1.size
    try simp only [World.size_alloc, World.size_setCell, World.heap_drewN, World.size_drew] at hz1
    obtain ⟨hc1, hf1⟩ := Fl.bcell hb1
    try simp only [World.heap_drewN, World.cell?_drewN, World.frozen?_drewN] at hc1 hf1
    have g1_0 : w.heap.size < w1.heap.size := by omega
    have g1' : w.heap.size + 1 < w1.heap.size := by omega
    go_wp2
    refine bodyPost_ret ?ohr rfl (retG_no ?obel)
    case ohr => simp [results, Try.results20, go_sem, *]
    case obel => (repeat' first | exact Below.refl _ _ | (refine Below.setCell ?_ (by first | omega | (simp; omega) | simp) _) | (refine below_drewN ?_ _) | (refine Below.alloc ?_ (by first | omega | (simp; omega) | simp) _) | (refine Below.trans ?_ (Below.mono (by assumption) (by first | omega | (simp; omega) | simp))))
  · obtain ⟨hn3, hn32, _, _⟩ := okT_of hR
    have HY := Lib.hid h
    show Calls _ _ _ w (RetB true s n _ w)
    clear hR h
    go_enter Try.func20, Try.ntmps20
    go_wp2_with fail
    refine (HI.out _ (by (repeat' first | exact Below.refl _ _ | (refine Below.setCell ?_ (by first | omega | (simp; omega) | simp) _) | (refine below_drewN ?_ _) | (refine Below.alloc ?_ (by first | omega | (simp; omega) | simp) _) | (refine Below.trans ?_ (Below.mono (by assumption) (by first | omega | (simp; omega) | simp)))))).mono ?_
    rintro e w1 ⟨rfl, hb1⟩
    have hz1 := hb1.size
    simp only [World.size_alloc] at hz1
    have qp := keep_block hb1 (alloc_block (o' := .cells #[.slice none 0 0, .float .f32 0] 33) (new_block w (.cells #[.slice a n cap, .float .f32 s] 33)))
    have q4 : w1.heap[w.heap.size + 1]? = some (.cells #[.slice none 0 0, .float .f32 0] 33) := keep_block hb1 (by simpa using new_block (w.alloc (.cells #[.slice a n cap, .float .f32 s] 33)) (.cells #[.slice none 0 0, .float .f32 0] 33))
    have e20 := (cells_of (i := 0) qp).trans (show _ = some (.slice a n cap) from rfl)
    have e21 := (cells_of (i := 1) qp).trans (show _ = some (.float .f32 s) from rfl)
    have hbw : Below w.heap.size w w1 := by (repeat' first | exact Below.refl _ _ | (refine Below.setCell ?_ (by first | omega | (simp; omega) | simp) _) | (refine below_drewN ?_ _) | (refine Below.alloc ?_ (by first | omega | (simp; omega) | simp) _) | (refine Below.trans ?_ (Below.mono (by assumption) (by first | omega | (simp; omega) | simp))))
    have HBW := Lib.hid hbw
    have lP := block_lt qp
    have l4 := block_lt q4
    have c40 := (cells_of (i := 0) q4).trans (show _ = some (.slice none 0 0) from rfl)
    have c41 := (cells_of (i := 1) q4).trans (show _ = some (.float .f32 0) from rfl)
    have f40 := free_of q4 0
    have f41 := free_of q4 1
    have Q4 := Lib.hid q4
    clear qp q4 hbw hb1
    go_wp2_with fail
    refine (clone_run w.heap.size _ n cap s c _ e20 e21 (HY.out.later HBW.out) ⟨hn3, hn32⟩).mono ?_
    rintro e w2 ⟨a2, cap2, rfl, ho2, hb2⟩
    obtain ⟨k2, k3, g, cur0, k5, k6, k7⟩ := ho2
    obtain ⟨rfl, hgB, hgL, hgh⟩ := k5 (by omega)
    have hz2 := hb2.size
    have HQ := Lib.hid (keep_block hb2 Q4.out)
    have HB2 := Lib.hid (HBW.out.trans (hb2.mono (by omega)))
    clear e20 e21 hb2 c40 c41 f40 f41 l4
    go_wp2_with fail
    refine (rev_run g n cap2 cur0 c _ (alloc_block hgh) k6 k7 hn32).mono ?_
    rintro e w3 ⟨rfl, cur1, hg1, hs1, hd1, hk1, hb3⟩
    have q8 := (hk1 w2.heap.size (by omega)).trans (new_block _ _)
    have e80 := (cells_of (i := 0) q8).trans (show _ = some (.slice (some ⟨g, 0, none⟩) n cap2) from rfl)
    have e81 := (cells_of (i := 1) q8).trans (show _ = some (.float .f32 s) from rfl)
    have q4 := (hk1 (w.heap.size + 1) (by omega)).trans (alloc_block HQ.out)
    have c40 := (cells_of (i := 0) q4).trans (show _ = some (.slice none 0 0) from rfl)
    have c41 := (cells_of (i := 1) q4).trans (show _ = some (.float .f32 0) from rfl)
    have f40 := free_of q4 0
    have f41 := free_of q4 1
    have l8 := block_lt q8
    have l4 := block_lt q4
    have hz3 := hb3.size
    simp only [World.size_alloc] at hz3
    have HG1 := Lib.hid hg1
    have HD1 := Lib.hid (And.intro hs1 hd1)
    have HB3 := Lib.hid (show Below w.heap.size w w3 from (HB2.out.alloc (by omega) _).trans (hb3.mono (by omega)))
    have K6 := Lib.hid k6
    clear hg1 hs1 hd1 hk1 hb3 q8 q4 hgh k5 k6 k7
    go_wp2
    refine bodyPost_ret ?ohr rfl ⟨some ⟨g, 0, none⟩, cap2, rfl, ?oio, ?obel⟩
    case ohr => simp [results, Try.results20, go_sem, *]
    case oio => exact ⟨k2, k3, g, cur1, fun _ => ⟨rfl, by omega, by simp; omega, by rw [set_keep _ _ _ (by omega), set_keep _ _ _ (by omega)]; exact HG1.out⟩, by rw [HD1.out.1]; exact K6.out, HD1.out.2⟩
    case obel => exact Below.setCell (Below.setCell HB3.out (by simp) _) (by simp) _

end Th
end Go.Proofs.Ytjkkefbfhapblaa
