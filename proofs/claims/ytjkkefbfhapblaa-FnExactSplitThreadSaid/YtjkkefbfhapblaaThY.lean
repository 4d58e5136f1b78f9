/- Lists of vectors by the classes of their numbers: in memory of whatever make, and in a row of the call's own; copies, comparison, marks. -/
import Derived.Test.YtjkkefbfhapblaaRows
import Derived.Test.YtjkkefbfhapblaaNums
import Derived.Test.YtjkkefbfhapblaaMk
import Derived.Test.YtjkkefbfhapblaaRate
import Derived.Test.YtjkkefbfhapblaaVec
import Derived.LoopTactic
import Derived.OwnWalk
namespace Go.Proofs.Ytjkkefbfhapblaa
set_option linter.unusedSimpArgs false
set_option linter.unusedVariables false
open Go.RowKit
set_option maxRecDepth 20000
namespace Th
open Fl Rate

/-- Vectors whose numbers, three of each, are of these classes. -/
def IsV (w : World) (a : Option Addr) (n cap : Nat) (c : Nat → Option Nat) : Prop :=
  n ≤ cap ∧ cap ≤ maxLen ∧ ∃ b off, (0 < n → a = some ⟨b, off, none⟩) ∧ ∀ i, i < n * 3 → ∃ x, w.cell? ⟨b, off + i, none⟩ = some (.float .f32 x) ∧ Fr .f32 x (c i)

/-- The first m cells are of these classes. -/
def Done (m : Nat) (c : Nat → Option Nat) (cur : Array Value) : Prop := ∀ i, i < m → ∃ x, cur[i]? = some (.float .f32 x) ∧ Fr .f32 x (c i)

/-- Such vectors in a row of its own, whose block lies from B on and below L. -/
def IsR (B L : Nat) (w : World) (a : Option Addr) (n cap : Nat) (c : Nat → Option Nat) : Prop :=
  n ≤ cap ∧ cap ≤ maxLen ∧ ∃ (g : Nat) (cur : Array Value), (0 < n → a = some ⟨g, 0, none⟩ ∧ B ≤ g ∧ g < L ∧ w.heap[g]? = some (.cells cur 28)) ∧ n * 3 ≤ cur.size ∧ Done (n * 3) c cur

theorem cells_of {w : World} {g : Nat} {c : Array Value} {t : TypeId} {i : Nat} (h : w.heap[g]? = some (.cells c t)) : w.cell? ⟨g, i, none⟩ = c[i]? := by
  simp [World.cell?, h]

theorem free_of {w : World} {g : Nat} {c : Array Value} {t : TypeId} (h : w.heap[g]? = some (.cells c t)) (i : Nat) : w.frozen? ⟨g, i, none⟩ = false := by
  simp [World.frozen?, h]

theorem setCell_block {w : World} {g : Nat} {c : Array Value} {t : TypeId} (h : w.heap[g]? = some (.cells c t)) (i : Nat) (v : Value) : (w.setCell ⟨g, i, none⟩ v).heap[g]? = some (.cells (c.setIfInBounds i v) t) := by
  simp [World.setCell, Array.getElem?_modify, h]

theorem set_keep (w : World) {g b : Nat} (i : Nat) (v : Value) (h : b ≠ g) : (w.setCell ⟨g, i, none⟩ v).heap[b]? = w.heap[b]? := by
  simp [World.setCell, Array.getElem?_modify]
  intro e; exact absurd e.symm h

theorem new_block (w : World) (o : Obj) : (w.alloc o).heap[w.heap.size]? = some o := by
  show (w.heap.push o)[w.heap.size]? = some o
  simp

theorem block_lt {w : World} {g : Nat} {o : Obj} (h : w.heap[g]? = some o) : g < w.heap.size := (Array.getElem?_eq_some_iff.1 h).1

theorem keep_block {p w : World} {g : Nat} {o : Obj} (hb : Below p.heap.size p w) (h : p.heap[g]? = some o) : w.heap[g]? = some o := by
  rw [hb.block g (block_lt h)]; exact h

theorem alloc_block {w : World} {g : Nat} {o o' : Obj} (h : w.heap[g]? = some o) : (w.alloc o').heap[g]? = some o := by
  rw [Below.heap_alloc _ _ _ (block_lt h)]; exact h

theorem Done.next {k : Nat} {f : Nat → Option Nat} {cur : Array Value} (h : Done k f cur) {r : Nat} (hr : Fr .f32 r (f k)) (hk : k < cur.size) : Done (k + 1) f (cur.setIfInBounds k (.float .f32 r)) := by
  intro j hj
  by_cases e : j = k
  · subst e
    exact ⟨r, Array.getElem?_setIfInBounds_self_of_lt hk, hr⟩
  · obtain ⟨x, h1, h2⟩ := h j (by omega)
    exact ⟨x, by rw [Array.getElem?_setIfInBounds_ne (fun e' => e e'.symm)]; exact h1, h2⟩

/-- One vector more. -/
theorem Done.three {k : Nat} {f : Nat → Option Nat} {cur : Array Value} (h : Done (k * 3) f cur) (hk : k * 3 + 2 < cur.size) {x y z : Nat} (fx : Fr .f32 x (f (k * 3))) (fy : Fr .f32 y (f (k * 3 + 1))) (fz : Fr .f32 z (f (k * 3 + 2))) :
    Done ((k + 1) * 3) f (((cur.setIfInBounds (k * 3) (.float .f32 x)).setIfInBounds (k * 3 + 1) (.float .f32 y)).setIfInBounds (k * 3 + 2) (.float .f32 z)) := by
  have e : (k + 1) * 3 = k * 3 + 1 + 1 + 1 := by omega
  rw [e]
  exact ((h.next fx (by omega)).next fy (by simp; omega)).next fz (by simp; omega)

theorem IsV.later {w w' : World} {a : Option Addr} {n cap : Nat} {c : Nat → Option Nat} (h : IsV w a n cap c) (hb : Below w.heap.size w w') : IsV w' a n cap c := by
  obtain ⟨h2, h3, b, off, h5, h6⟩ := h
  refine ⟨h2, h3, b, off, h5, fun i hi => ?_⟩
  obtain ⟨x, h7, h8⟩ := h6 i hi
  exact ⟨x, by rw [hb.cell (block_lt_of_cell h7)]; exact h7, h8⟩

theorem IsV.congr {w : World} {a : Option Addr} {n cap : Nat} {c d : Nat → Option Nat} (h : IsV w a n cap c) (hc : ∀ i, i < n * 3 → c i = d i) : IsV w a n cap d := by
  obtain ⟨h2, h3, b, off, h5, h6⟩ := h
  refine ⟨h2, h3, b, off, h5, fun i hi => ?_⟩
  obtain ⟨x, h7, h8⟩ := h6 i hi
  exact ⟨x, h7, by rw [← hc i hi]; exact h8⟩

theorem IsR.v {B L : Nat} {w : World} {a : Option Addr} {n cap : Nat} {c : Nat → Option Nat} (h : IsR B L w a n cap c) : IsV w a n cap c := by
  obtain ⟨h2, h3, g, cur, h5, h6, h7⟩ := h
  refine ⟨h2, h3, g, 0, fun h0 => (h5 h0).1, fun i hi => ?_⟩
  obtain ⟨x, k1, k2⟩ := h7 i hi
  exact ⟨x, by rw [Nat.zero_add, cells_of (h5 (by omega)).2.2.2]; exact k1, k2⟩

theorem IsR.keep {B L : Nat} {w w' : World} {a : Option Addr} {n cap : Nat} {c : Nat → Option Nat} (h : IsR B L w a n cap c) (hk : ∀ g, B ≤ g → g < L → g < w.heap.size → w'.heap[g]? = w.heap[g]?) : IsR B L w' a n cap c := by
  obtain ⟨h2, h3, g, cur, h5, h6, h7⟩ := h
  refine ⟨h2, h3, g, cur, fun h0 => ?_, h6, h7⟩
  obtain ⟨k1, k2, k3, k4⟩ := h5 h0
  exact ⟨k1, k2, k3, by rw [hk g k2 k3 (block_lt k4)]; exact k4⟩

theorem IsR.later {B L : Nat} {w w' : World} {a : Option Addr} {n cap : Nat} {c : Nat → Option Nat} (h : IsR B L w a n cap c) (hb : Below w.heap.size w w') : IsR B L w' a n cap c := h.keep fun g _ _ hg => hb.block g hg

theorem IsR.alloc {B L : Nat} {w : World} {a : Option Addr} {n cap : Nat} {c : Nat → Option Nat} (h : IsR B L w a n cap c) (o : Obj) : IsR B L (w.alloc o) a n cap c := h.later ((Below.refl _ _).alloc (Nat.le_refl _) _)

theorem IsV.alloc {w : World} {a : Option Addr} {n cap : Nat} {c : Nat → Option Nat} (h : IsV w a n cap c) (o : Obj) : IsV (w.alloc o) a n cap c := h.later ((Below.refl _ _).alloc (Nat.le_refl _) _)

theorem IsR.wider {B B' L L' : Nat} {w : World} {a : Option Addr} {n cap : Nat} {c : Nat → Option Nat} (h : IsR B L w a n cap c) (hB : B' ≤ B) (hL : L ≤ L') : IsR B' L' w a n cap c := by
  obtain ⟨h2, h3, g, cur, h5, h6, h7⟩ := h
  exact ⟨h2, h3, g, cur, fun h0 => ⟨(h5 h0).1, Nat.le_trans hB (h5 h0).2.1, Nat.lt_of_lt_of_le (h5 h0).2.2.1 hL, (h5 h0).2.2.2⟩, h6, h7⟩

theorem IsR.congr {B L : Nat} {w : World} {a : Option Addr} {n cap : Nat} {c d : Nat → Option Nat} (h : IsR B L w a n cap c) (hc : ∀ i, i < n * 3 → c i = d i) : IsR B L w a n cap d := by
  obtain ⟨h2, h3, g, cur, h5, h6, h7⟩ := h
  refine ⟨h2, h3, g, cur, h5, h6, fun i hi => ?_⟩
  obtain ⟨x, k1, k2⟩ := h7 i hi
  exact ⟨x, k1, by rw [← hc i hi]; exact k2⟩

theorem isR_nil (B L : Nat) (w : World) (c : Nat → Option Nat) : IsR B L w none 0 0 c := ⟨Nat.le_refl _, Nat.zero_le _, 0, #[], fun h => absurd h (Nat.lt_irrefl _), Nat.zero_le _, fun i hi => absurd hi (by omega)⟩

/-- What a walk's round needs of vector k. -/
theorem at_v {w wr : World} {b off n k : Nat} {c : Nat → Option Nat} (h6 : ∀ i, i < n * 3 → ∃ x, w.cell? ⟨b, off + i, none⟩ = some (.float .f32 x) ∧ Fr .f32 x (c i)) (hk : k < n) (hb : Below w.heap.size w wr) :
    ∃ x y z, wr.cell? ⟨b, off + k * 3, none⟩ = some (.float .f32 x) ∧ wr.cell? ⟨b, off + k * 3 + 1, none⟩ = some (.float .f32 y) ∧ wr.cell? ⟨b, off + k * 3 + 2, none⟩ = some (.float .f32 z) ∧ Fr .f32 x (c (k * 3)) ∧ Fr .f32 y (c (k * 3 + 1)) ∧ Fr .f32 z (c (k * 3 + 2)) ∧ b < wr.heap.size := by
  obtain ⟨x, hx, fx⟩ := h6 (k * 3) (by omega)
  obtain ⟨y, hy, fy⟩ := h6 (k * 3 + 1) (by omega)
  obtain ⟨z, hz, fz⟩ := h6 (k * 3 + 2) (by omega)
  have kp : ∀ {p : Addr} {v : Value}, w.cell? p = some v → wr.cell? p = some v := fun h => by rw [hb.cell (block_lt_of_cell h)]; exact h
  exact ⟨x, y, z, kp hx, kp hy, kp hz, fx, fy, fz, block_lt_of_cell (kp hx)⟩

/-- A list of these classes in a row of its own. -/
def RetR (n : Nat) (c : Nat → Option Nat) (w : World) (e : Ending) (w' : World) : Prop :=
  ∃ a cap, e = .returned (.slice a n cap) ∧ IsR w.heap.size w'.heap.size w' a n cap c ∧ Below w.heap.size w w'

theorem A_infoV : (Try.prog.info? 28).map (fun i => (i.zero, i.size, i.bytes)) = some (some (.agg #[.float .f32 0, .float .f32 0, .float .f32 0]), 3, 12) := by kernel_rfl

theorem info_v : ∃ i, Try.prog.info? 28 = some i ∧ i.zero = some (.agg #[.float .f32 0, .float .f32 0, .float .f32 0]) ∧ i.size = 3 ∧ i.bytes = 12 := by
  have h := A_infoV
  cases hi : Try.prog.info? 28 with
  | none => rw [hi] at h; cases h
  | some i =>
    rw [hi] at h
    simp only [Option.map_some, Option.some.injEq, Prod.mk.injEq] at h
    exact ⟨i, rfl, h.1, h.2.1, h.2.2⟩

set_option maxHeartbeats 3200000 in
theorem to_v (a : Option Addr) (len cap : Nat) (c : Nat → Option Nat) (w : World) (hn : IsV w a len cap c) (hlen : len ≤ 1048576) :
    Calls Try.prog 48 #[.slice a len cap] w (RetR len c w) := by
  obtain ⟨i0, hi, hz0, hz1, hz2⟩ := info_v
  obtain ⟨h2, h3, b, off, h5, h6⟩ := hn
  have H5 := Lib.hid h5; clear h5
  have H6 := Lib.hid h6; clear h6
  unfold maxLen at h3
  go_enter Try.func48, Try.ntmps48
  go_wp2_with (at_make; refine wpList_make_full _ rfl _ _ 31 rfl w.heap.size 28 i0 (.agg #[.float .f32 0, .float .f32 0, .float .f32 0]) 3 Try.underlying31 hi hz0 hz1 .i64 .i64 _ _ len rfl rfl rfl rfl (by rw [hz2]; omega) (by unfold maxLen; omega) (Nat.le_refl _) ?_)
  intro w1 hown hgrow
  have hnx : Below w.heap.size w w1 := (Below.refl _ _).grown hgrow (Nat.le_refl _) (fun k h => by cases h)
  have hblk : ∃ cur : Array Value, w1.heap[w.heap.size]? = some (.cells cur 28) ∧ cur.size = len * 3 := by
    obtain ⟨_, h | ⟨g, c, cur, hv, _, hh, _, _, hs, _⟩⟩ := hown
    · cases h.1
    · simp only [Value.slice.injEq, Option.some.injEq, Addr.mk.injEq] at hv
      obtain ⟨⟨rfl, _⟩, _, rfl⟩ := hv
      exact ⟨cur, hh, by omega⟩
  obtain ⟨cur0, hc0, hs0⟩ := hblk
  clear hown hgrow
  go_wp2
  go_loopw [4] (fun i wr => ∃ (k : Nat) (cur : Array Value), k ≤ len ∧ i = .int .i64 k ∧ wr.heap[w.heap.size]? = some (.cells cur 28) ∧ cur.size = len * 3 ∧ Done (k * 3) c cur ∧ Below w.heap.size w wr)
    (fun i _ => len - (intOf i).toNat)
  case atStart => exact ⟨0, cur0, Nat.zero_le _, rfl, hc0, hs0, fun j hj => absurd hj (by omega), hnx⟩
  case round =>
    clear hc0 hs0 hnx
    obtain ⟨k, cur, hk, rfl, hb, hs, hdone, hbel⟩ := hrel
    have HS := Lib.hid hs; clear hs
    have HD := Lib.hid hdone; clear hdone
    by_cases hlt : k < len
    · obtain rfl := H5.out (by omega)
      obtain ⟨x, y, z, hx, hy, hz, fx, fy, fz, hbr⟩ := at_v H6.out hlt hbel
      have hl := block_lt hb
      have HB := Lib.hid hb; clear hb
      have HBEL := Lib.hid hbel; clear hbel
      go_wp2_with fail
      refine (Vec.to_vector _ _ _ _ _ _ _ fx fy fz).mono ?_
      rintro e w2 ⟨x2, y2, z2, rfl, fx2, fy2, fz2, hb2⟩
      have hb3 := keep_block hb2 HB.out
      have hdx : w2.cell? ⟨w.heap.size, k * 3, none⟩ = some cur[k * 3]! := by
        rw [cells_of hb3]
        have : k * 3 < cur.size := by rw [HS.out]; omega
        simp [this]
      have hdy : w2.cell? ⟨w.heap.size, k * 3 + 1, none⟩ = some cur[k * 3 + 1]! := by
        rw [cells_of hb3]
        have : k * 3 + 1 < cur.size := by rw [HS.out]; omega
        simp [this]
      have hdz : w2.cell? ⟨w.heap.size, k * 3 + 2, none⟩ = some cur[k * 3 + 2]! := by
        rw [cells_of hb3]
        have : k * 3 + 2 < cur.size := by rw [HS.out]; omega
        simp [this]
      generalize cur[k * 3]! = o0 at *
      generalize cur[k * 3 + 1]! = o1 at *
      generalize cur[k * 3 + 2]! = o2 at *
      have hfx := free_of hb3 (k * 3)
      have hfy := free_of hb3 (k * 3 + 1)
      have hfz := free_of hb3 (k * 3 + 2)
      have HB3 := Lib.hid hb3; clear hb3
      have HB2 := Lib.hid (HBEL.out.trans (hb2.mono HBEL.out.size)); clear hb2
      go_wp2
      go_roundw
      case rel =>
        refine ⟨k + 1, _, by omega, by go_num, setCell_block (setCell_block (setCell_block HB3.out (k * 3) _) (k * 3 + 1) _) (k * 3 + 2) _, by simp [HS.out], HD.out.three (by rw [HS.out]; omega) fx2 fy2 fz2, ?_⟩
        exact ((HB2.out.setCell (Nat.le_refl _) _).setCell (Nat.le_refl _) _).setCell (Nat.le_refl _) _
      case measure => simp [intOf]; omega
    · have HB := Lib.hid hb; clear hb
      go_wp2
      go_ret
      obtain rfl : k = len := by omega
      exact ⟨_, _, rfl, ⟨Nat.le_refl _, by unfold maxLen; omega, w.heap.size, cur, fun _ => ⟨rfl, Nat.le_refl _, block_lt HB.out, HB.out⟩, by rw [HS.out]; exact Nat.le_refl _, HD.out⟩, hbel⟩

theorem eq_ret (a0 a1 a2 b0 b1 b2 : Nat) (c0 c1 c2 : Option Nat) (w : World) (f0 : Fr .f32 a0 c0) (f1 : Fr .f32 a1 c1) (f2 : Fr .f32 a2 c2) (g0 : Fr .f32 b0 c0) (g1 : Fr .f32 b1 c1) (g2 : Fr .f32 b2 c2) :
    Calls Try.prog 17 #[.agg #[.float .f32 a0, .float .f32 a1, .float .f32 a2], .agg #[.float .f32 b0, .float .f32 b1, .float .f32 b2]] w (RetD (.bool true) w) := Vec.eq_vector a0 a1 a2 b0 b1 b2 c0 c1 c2 w f0 f1 f2 g0 g1 g2

set_option maxHeartbeats 3200000 in
theorem eq_v (a a' : Option Addr) (len cap cap' : Nat) (c : Nat → Option Nat) (w : World) (hn : IsV w a len cap c) (hn' : IsV w a' len cap' c) :
    Calls Try.prog 52 #[.slice a len cap, .slice a' len cap'] w (RetD (.bool true) w) := by
  obtain ⟨h2, h3, b, off, h5, h6⟩ := hn
  obtain ⟨g2, g3, b', off', g5, g6⟩ := hn'
  have H5 := Lib.hid h5; clear h5
  have H6 := Lib.hid h6; clear h6
  have G5 := Lib.hid g5; clear g5
  have G6 := Lib.hid g6; clear g6
  unfold maxLen at h3 g3
  go_enter Try.func52, Try.ntmps52
  go_wp2
  go_loopw [5] (fun i wr => ∃ k : Nat, k ≤ len ∧ i = .int .i64 k ∧ Below w.heap.size w wr) (fun i _ => len - (intOf i).toNat)
  case atStart => exact ⟨0, Nat.zero_le _, rfl, Below.refl _ _⟩
  case round =>
    obtain ⟨k, hk, rfl, hbel⟩ := hrel
    by_cases hlt : k < len
    · obtain rfl := H5.out (by omega)
      obtain rfl := G5.out (by omega)
      obtain ⟨x, y, z, hx, hy, hz, fx, fy, fz, hlb⟩ := at_v H6.out hlt hbel
      obtain ⟨x', y', z', hx', hy', hz', fx', fy', fz', hlb'⟩ := at_v G6.out hlt hbel
      have HB := Lib.hid hbel; clear hbel
      go_wp2_with fail
      refine Loose.wp_region_below 9 [] (by kernel_rfl) (by kernel_rfl) (by simp [undef]) ?_
      apply Exists.intro
      simp only [List.take_succ_cons, List.take_zero, List.drop_succ_cons, List.drop_zero]
      repeat (first | (apply Loose.walk_step; intro K hK; apply Loose.turn_value (hwant := rfl) (hd := rfl); (focus (intro w' hw'; obtain ⟨hc, hf⟩ := Fl.bcell hw'; go_simp; first | done | rfl | exact ⟨rfl, rfl⟩)); go_simp; refine hK _ ?_; clear hK K) | (apply Loose.walk_step; intro K hK; apply Loose.turn_callD (Nat.le_refl _) (hwant := rfl) (hd := rfl); (focus (intro w'; go_simp; first | done | rfl | exact ⟨rfl, rfl⟩)); (focus (intro w'; go_at_call 17; exact eq_ret _ _ _ _ _ _ _ _ _ _ (by assumption) (by assumption) (by assumption) (by assumption) (by assumption) (by assumption))); skip; go_simp; refine hK _ ?_; clear hK K))
      refine Loose.walk_nil ?_
      intro w1 hcls1
      obtain ⟨hb1, _⟩ := hcls1
      obtain ⟨hc1, hf1⟩ := Fl.bcell hb1
      have hz1 := hb1.size
      try simp only [World.size_alloc, World.size_setCell, World.heap_drewN, World.size_drew] at hz1
      go_wp2
      go_roundw
      case rel => exact ⟨k + 1, by omega, by go_num, HB.out.trans (hb1.mono HB.out.size)⟩
      case measure => simp [intOf]; omega
    · go_wp2
      go_ret
      exact ⟨rfl, hbel⟩

/-! ### Marks -/

def MDone (m : Nat) (K : Int) (cur : Array Value) : Prop := ∀ j, j < m → cur[j]? = some (.float .f32 (floatOfInt .f32 (K + (j : Int))))

/-- A row of n vectors of marks. -/
def Mk (B L : Nat) (w : World) (a : Option Addr) (n cap : Nat) (K : Int) : Prop :=
  n ≤ cap ∧ cap ≤ maxLen ∧ n ≤ 1048576 ∧ ∃ (g : Nat) (cur : Array Value), (0 < n → a = some ⟨g, 0, none⟩ ∧ B ≤ g ∧ g < L ∧ w.heap[g]? = some (.cells cur 28)) ∧ MDone (n * 3) K cur

theorem Mk.keep {B L : Nat} {w w' : World} {a : Option Addr} {n cap : Nat} {K : Int} (h : Mk B L w a n cap K) (hk : ∀ g, B ≤ g → g < L → g < w.heap.size → w'.heap[g]? = w.heap[g]?) : Mk B L w' a n cap K := by
  obtain ⟨h1, h2, h3, g, cur, h5, h6⟩ := h
  refine ⟨h1, h2, h3, g, cur, fun h => ?_, h6⟩
  obtain ⟨k1, k2, k3, k4⟩ := h5 h
  exact ⟨k1, k2, k3, by rw [hk g k2 k3 (block_lt k4)]; exact k4⟩

theorem Mk.on {B L : Nat} {w w' : World} {a : Option Addr} {n cap : Nat} {K : Int} (h : Mk B L w a n cap K) (hb : Below w.heap.size w w') : Mk B L w' a n cap K := h.keep fun g _ _ hg => hb.block g hg

theorem Mk.alloc {B L : Nat} {w : World} {a : Option Addr} {n cap : Nat} {K : Int} (h : Mk B L w a n cap K) (o : Obj) : Mk B L (w.alloc o) a n cap K := h.on ((Below.refl _ _).alloc (Nat.le_refl _) _)

theorem MDone.next {m : Nat} {K v : Int} {cur : Array Value} (h : MDone m K cur) (hm : m < cur.size) (hv : v = K + (m : Int)) : MDone (m + 1) K (cur.setIfInBounds m (.float .f32 (floatOfInt .f32 v))) := by
  intro j hj
  by_cases e : j = m
  · subst e
    rw [Array.getElem?_setIfInBounds_self_of_lt hm, hv]
  · rw [Array.getElem?_setIfInBounds_ne (fun e' => e e'.symm)]
    exact h j (by omega)

theorem MDone.three {k : Nat} {K v0 v1 v2 : Int} {cur : Array Value} (h : MDone (k * 3) K cur) (hk : k * 3 + 2 < cur.size) (h0 : v0 = K + (k : Int) * 3) (h1 : v1 = K + (k : Int) * 3 + 1) (h2 : v2 = K + (k : Int) * 3 + 2) :
    MDone ((k + 1) * 3) K (((cur.setIfInBounds (k * 3) (.float .f32 (floatOfInt .f32 v0))).setIfInBounds (k * 3 + 1) (.float .f32 (floatOfInt .f32 v1))).setIfInBounds (k * 3 + 2) (.float .f32 (floatOfInt .f32 v2))) := by
  have e : (k + 1) * 3 = k * 3 + 1 + 1 + 1 := by omega
  rw [e]
  exact ((h.next (by omega) (by omega)).next (by simp; omega) (by omega)).next (by simp; omega) (by omega)

set_option maxHeartbeats 3200000 in
/-- Marks on any block of n vectors of the call's own. -/
theorem mark (B L : Nat) (a : Option Addr) (n cap : Nat) (K : Int) (hK : 0 ≤ K ∧ K ≤ 8388608) (w : World) (h1 : n ≤ cap) (h2 : cap ≤ maxLen) (h3 : n ≤ 1048576) (g : Nat) (cur0 : Array Value) (h5 : 0 < n → a = some ⟨g, 0, none⟩ ∧ B ≤ g ∧ g < L ∧ w.heap[g]? = some (.cells cur0 28)) (h6 : n * 3 ≤ cur0.size) :
    Calls Try.prog 57 #[.slice a n cap, .int .i64 K] w fun e w' => e = .returned (.int .i64 (K + (n : Int) * 3)) ∧ Mk B L w' a n cap K ∧ Below B w w' ∧ ∀ b, b ≠ g → b < w.heap.size → w'.heap[b]? = w.heap[b]? := by
  have H5 := Lib.hid h5
  have H6 := Lib.hid h6
  clear h5 h6
  unfold maxLen at h2
  go_enter Try.func57, Try.ntmps57
  go_wp2
  go_loopw [1, 5] (fun m i wr => ∃ (k : Nat) (cur : Array Value), k ≤ n ∧ i = .int .i64 k ∧ m = .int .i64 (K + (k : Int) * 3) ∧ (0 < n → wr.heap[g]? = some (.cells cur 28)) ∧ n * 3 ≤ cur.size ∧ MDone (k * 3) K cur ∧ Below B w wr ∧ ∀ b, b ≠ g → b < w.heap.size → wr.heap[b]? = w.heap[b]?)
    (fun _ i _ => n - (intOf i).toNat)
  case atStart =>
    exact ⟨0, cur0, Nat.zero_le _, rfl, by go_num, fun h => (H5.out h).2.2.2, H6.out, fun j hj => absurd hj (by omega), Below.refl _ _, fun _ _ _ => rfl⟩
  case round =>
    obtain ⟨k, cur, hk, rfl, rfl, hb, hs, hdone, hbel, hkeep⟩ := hrel
    have HD := Lib.hid hdone; clear hdone
    have HKP := Lib.hid hkeep; clear hkeep
    by_cases hlt : k < n
    · obtain ⟨rfl, hBg, _, _⟩ := H5.out (by omega)
      have hblk := hb (by omega)
      have hdx : wr.cell? ⟨g, k * 3, none⟩ = some cur[k * 3]! := by
        rw [cells_of hblk]
        have : k * 3 < cur.size := by omega
        simp [this]
      have hdy : wr.cell? ⟨g, k * 3 + 1, none⟩ = some cur[k * 3 + 1]! := by
        rw [cells_of hblk]
        have : k * 3 + 1 < cur.size := by omega
        simp [this]
      have hdz : wr.cell? ⟨g, k * 3 + 2, none⟩ = some cur[k * 3 + 2]! := by
        rw [cells_of hblk]
        have : k * 3 + 2 < cur.size := by omega
        simp [this]
      generalize cur[k * 3]! = o0 at *
      generalize cur[k * 3 + 1]! = o1 at *
      generalize cur[k * 3 + 2]! = o2 at *
      have hfx := free_of hblk (k * 3)
      have hfy := free_of hblk (k * 3 + 1)
      have hfz := free_of hblk (k * 3 + 2)
      have HB := Lib.hid hblk; clear hb hblk
      have HBL := Lib.hid hbel; clear hbel
      have HSZ := Lib.hid hs; clear hs
      have hw1 : IntKind.i64.wrap (K + (k : Int) * 3 + 1) = K + (k : Int) * 3 + 1 := IntWalk.i64_in _ (by omega)
      have hw2 : IntKind.i64.wrap (K + (k : Int) * 3 + 1 + 1) = K + (k : Int) * 3 + 2 := by rw [show K + (k : Int) * 3 + 1 + 1 = K + (k : Int) * 3 + 2 by omega]; exact IntWalk.i64_in _ (by omega)
      have hw3 : IntKind.i64.wrap (K + (k : Int) * 3 + 2 + 1) = K + (k : Int) * 3 + 3 := by rw [show K + (k : Int) * 3 + 2 + 1 = K + (k : Int) * 3 + 3 by omega]; exact IntWalk.i64_in _ (by omega)
      go_wp2
      go_roundw
      case rel =>
        refine ⟨k + 1, _, by omega, by go_num, by go_num, fun _ => setCell_block (setCell_block (setCell_block HB.out (k * 3) _) (k * 3 + 1) _) (k * 3 + 2) _, by simpa using HSZ.out, HD.out.three (by have := HSZ.out; omega) (by omega) (by omega) (by omega), ?_, fun b hbne hbl => ?_⟩
        · refine Below.setCell (Below.setCell (Below.setCell ?_ hBg _) hBg _) hBg _
          first | exact HBL.out | exact below_drewN HBL.out _
        · rw [set_keep _ _ _ hbne, set_keep _ _ _ hbne, set_keep _ _ _ hbne]
          exact HKP.out b hbne hbl
      case measure => simp [intOf]; omega
    · have hkn : k = n := by omega
      go_wp2
      go_ret
      exact ⟨by subst hkn; first | rfl | go_num, ⟨h1, by unfold maxLen; exact h2, h3, g, cur, fun h => ⟨(H5.out h).1, (H5.out h).2.1, (H5.out h).2.2.1, hb h⟩, fun j hj => HD.out j (by omega)⟩, hbel, HKP.out⟩

set_option maxHeartbeats 3200000 in
theorem held (B L : Nat) (a : Option Addr) (n cap : Nat) (K : Int) (hK : 0 ≤ K ∧ K ≤ 8388608) (w : World) (ho : Mk B L w a n cap K) :
    Calls Try.prog 58 #[.slice a n cap, .int .i64 K] w fun e w' => e = .returned (.int .i64 (K + (n : Int) * 3)) ∧ Below w.heap.size w w' := by
  obtain ⟨h1, h2, h3, g, cur0, h5, h6⟩ := ho
  have H5 := Lib.hid h5
  have H6 := Lib.hid h6
  clear h5 h6
  unfold maxLen at h2
  go_enter Try.func58, Try.ntmps58
  go_wp2
  go_loopw [1, 5] (fun m i wr => ∃ k : Nat, k ≤ n ∧ i = .int .i64 k ∧ m = .int .i64 (K + (k : Int) * 3) ∧ Below w.heap.size w wr) (fun _ i _ => n - (intOf i).toNat)
  case atStart => exact ⟨0, Nat.zero_le _, rfl, by go_num, Below.refl _ _⟩
  case round =>
    obtain ⟨k, hk, rfl, rfl, hbel⟩ := hrel
    by_cases hlt : k < n
    · obtain ⟨rfl, hBg, _, hblk0⟩ := H5.out (by omega)
      have v0 := H6.out (k * 3) (by omega)
      have v1 := H6.out (k * 3 + 1) (by omega)
      have v2 := H6.out (k * 3 + 2) (by omega)
      rw [show K + ((k * 3 : Nat) : Int) = K + (k : Int) * 3 by omega] at v0
      rw [show K + ((k * 3 + 1 : Nat) : Int) = K + (k : Int) * 3 + 1 by omega] at v1
      rw [show K + ((k * 3 + 2 : Nat) : Int) = K + (k : Int) * 3 + 2 by omega] at v2
      have hblk : wr.heap[g]? = some (.cells cur0 28) := by rw [hbel.block g (block_lt hblk0)]; exact hblk0
      have hsx : wr.cell? ⟨g, k * 3, none⟩ = some (.float .f32 (floatOfInt .f32 (K + (k : Int) * 3))) := by rw [cells_of hblk, v0]
      have hsy : wr.cell? ⟨g, k * 3 + 1, none⟩ = some (.float .f32 (floatOfInt .f32 (K + (k : Int) * 3 + 1))) := by rw [cells_of hblk, v1]
      have hsz : wr.cell? ⟨g, k * 3 + 2, none⟩ = some (.float .f32 (floatOfInt .f32 (K + (k : Int) * 3 + 2))) := by rw [cells_of hblk, v2]
      have hgl := block_lt hblk
      clear hblk hblk0 v0 v1 v2
      have HBL := Lib.hid hbel; clear hbel
      have f0 := (Mks.ms_facts (K + (k : Int) * 3)).2
      have f1 := (Mks.ms_facts (K + (k : Int) * 3 + 1)).2
      have f2 := (Mks.ms_facts (K + (k : Int) * 3 + 2)).2
      have e0 := (Mks.ms_facts (K + (k : Int) * 3)).1
      have e1 := (Mks.ms_facts (K + (k : Int) * 3 + 1)).1
      have e2 := (Mks.ms_facts (K + (k : Int) * 3 + 2)).1
      have hO4 : cmpC .neq (some .eq) = false := rfl
      generalize Mks.msC (K + (k : Int) * 3) = S0 at *
      generalize Mks.msC (K + (k : Int) * 3 + 1) = S1 at *
      generalize Mks.msC (K + (k : Int) * 3 + 2) = S2 at *
      have hw1 : IntKind.i64.wrap (K + (k : Int) * 3 + 1) = K + (k : Int) * 3 + 1 := IntWalk.i64_in _ (by omega)
      have hw2 : IntKind.i64.wrap (K + (k : Int) * 3 + 1 + 1) = K + (k : Int) * 3 + 2 := by rw [show K + (k : Int) * 3 + 1 + 1 = K + (k : Int) * 3 + 2 by omega]; exact IntWalk.i64_in _ (by omega)
      have hw3 : IntKind.i64.wrap (K + (k : Int) * 3 + 2 + 1) = K + (k : Int) * 3 + 3 := by rw [show K + (k : Int) * 3 + 2 + 1 = K + (k : Int) * 3 + 3 by omega]; exact IntWalk.i64_in _ (by omega)
      go_wp2_with (first | (refine Fl.wpList_cmp rfl rfl rfl rfl rfl f0 f0 ?_; try simp only [e0, hO4]) | (refine Fl.wpList_cmp rfl rfl rfl rfl rfl f1 f1 ?_; try simp only [e1, hO4]) | (refine Fl.wpList_cmp rfl rfl rfl rfl rfl f2 f2 ?_; try simp only [e2, hO4]))
      go_roundw
      case rel => exact ⟨k + 1, by omega, by go_num, by go_num, by first | exact HBL.out | exact below_drewN HBL.out _⟩
      case measure => simp [intOf]; omega
    · have hkn : k = n := by omega
      go_wp2
      go_ret
      exact ⟨by subst hkn; first | rfl | go_num, hbel⟩

/-- Marks on a row of its own: all other blocks stay. -/
theorem mark_o (B L : Nat) (a : Option Addr) (n cap : Nat) (c : Nat → Option Nat) (K : Int) (hK : 0 ≤ K ∧ K ≤ 8388608) (w : World) (h : IsR B L w a n cap c) (hn : n ≤ 1048576) (hL : L ≤ w.heap.size) :
    Calls Try.prog 57 #[.slice a n cap, .int .i64 K] w fun e w' => e = .returned (.int .i64 (K + (n : Int) * 3)) ∧ Mk B L w' a n cap K ∧ Below B w w' ∧ ∀ b, (b < B ∨ L ≤ b) → b < w.heap.size → w'.heap[b]? = w.heap[b]? := by
  obtain ⟨h1, h2, g, cur, h5, h6, h7⟩ := h
  by_cases h0 : 0 < n
  · obtain ⟨k1, k2, k3, k4⟩ := h5 h0
    exact (mark B L a n cap K hK w h1 h2 hn g cur (fun _ => ⟨k1, k2, k3, k4⟩) h6).mono fun e w' ⟨x, y, z, t⟩ => ⟨x, y, z, fun b hb hl => t b (by omega) hl⟩
  · exact (mark B L a n cap K hK w h1 h2 hn w.heap.size #[] (fun h => absurd h h0) (by simp; omega)).mono fun e w' ⟨x, y, z, t⟩ => ⟨x, y, z, fun b hb hl => t b (by omega) hl⟩

end Th
end Go.Proofs.Ytjkkefbfhapblaa
