/- Lists of integers: how one is opened, copied, compared. -/
import Derived.Test.YtaacneppnpognaaDoorRows
import Derived.WalkKit
import Derived.WalkLawsBesides
import Derived.ProofKit
import Derived.ChangeArms
import Derived.OwnWalk
import Derived.Below
import Derived.LoopTactic
import Derived.Lib.Hide
import Derived.Lib.SmallJoins
import Derived.Deep.Slices
import Derived.Deep.QuietTactic
import Derived.BigQuiet
namespace Go.Proofs.YtaacneppnpognaaDoor
set_option linter.unusedSimpArgs false
set_option linter.unusedVariables false
open Go.ChangeShapes Go.WideShapes Go.ChangeAt Go.RowKit Go.Joins Go.Deep
namespace Ints

/-- What the walk is told of a list of integers: they are zs, each in its cell. -/
def IsInts (w : World) (a : Option Addr) (len cap : Nat) (zs : List Int) : Prop :=
  zs.length = len ∧ len ≤ cap ∧ cap ≤ maxLen ∧ (∀ n ∈ zs, (Lit.int .i64 n).wf = true) ∧
  ∃ b off, (0 < len → a = some ⟨b, off, none⟩) ∧ ∀ i, i < len → w.cell? ⟨b, off + i, none⟩ = some (.int .i64 (zs.getD i 0))

theorem IsInts.later {w w' : World} {a : Option Addr} {len cap : Nat} {zs : List Int} (h : IsInts w a len cap zs) (hb : Below w.heap.size w w') : IsInts w' a len cap zs := by
  obtain ⟨h1, h2, h3, h4, b, off, h5, h6⟩ := h
  refine ⟨h1, h2, h3, h4, b, off, h5, fun i hi => ?_⟩
  rw [hb.cell (block_lt_of_cell (h6 i hi))]; exact h6 i hi

section
variable {H : Type} {enc : TypeId × Value → H} {P : Program} {w : World} {base : Nat} {spare : Nat → Bool} {held : Bool}

theorem open_ints {t e : TypeId} {a : Option Addr} {len cap : Nat} {d : DataW H} {p : List MemPlace} (ht : P.underlying t = some (.slice e)) (he : P.underlying e = some (.int .i64)) (hc : P.cellsOf e = 1)
    (h : DataW.Trod enc P w base spare held t (.slice a len cap) d p) : ∃ zs, IsInts w a len cap zs := by
  obtain ⟨fuel, hf⟩ := h
  rcases Deep.open_slice1 ht hc hf with ⟨hcs, _⟩ | ⟨x, l, c, m, n, V, D, Pl, hcs, _, hl, hm, hmm, _, hV⟩
  · simp [Value.cells] at hcs
    obtain ⟨rfl, rfl, rfl⟩ := hcs
    exact ⟨[], rfl, Nat.le_refl _, Nat.zero_le _, by simp, 0, 0, fun h => absurd h (Nat.lt_irrefl _), fun i hi => absurd hi (Nat.not_lt_zero _)⟩
  · simp [Value.cells] at hcs
    obtain ⟨rfl, rfl, rfl⟩ := hcs
    have hlm : len ≤ m := by rw [hmm]; split <;> omega
    have key : ∀ i, i < len → ∃ b, V i = .int .i64 b ∧ (Lit.int .i64 b).wf = true := fun i hi => by
      obtain ⟨b, e1, _, wb⟩ := DataW.trod_int he (hV i (by omega)).2
      exact ⟨b, by simpa using e1, wb⟩
    obtain ⟨B, hB⟩ := Deep.choose_lt key
    obtain ⟨b, off, spot⟩ := x
    refine ⟨(List.range len).map B, by simp, hl, hm, fun n hn => ?_, b, off, fun h0 => ?_, fun i hi => ?_⟩
    · obtain ⟨i, hi, rfl⟩ := List.mem_map.1 hn
      exact (hB i (by simpa using hi)).2
    · have := World.cell?_spot (hV 0 (by omega)).1
      have hs : spot = none := by simpa [Addr.add] using this
      rw [hs]
    · have hspot := World.cell?_spot (hV 0 (by omega)).1
      have hs : spot = none := by simpa [Addr.add] using hspot
      subst hs
      have := (hV i (by omega)).1
      rw [(hB i hi).1] at this
      simp only [Addr.add_lit] at this
      rw [this]; simp [List.getD, hi]
end

/-- A list of these integers, in a row that nothing else leads to. -/
def RetInts (zs : List Int) (w : World) (e : Ending) (w' : World) : Prop :=
  ∃ a cap, e = .returned (.slice a zs.length cap) ∧ IsInts w' a zs.length cap zs ∧ Below w.heap.size w w'

theorem cells_of {w : World} {b : Nat} {c : Array Value} {t : TypeId} {m : Nat × Nat} (h : w.heap[b]? = some (.cells c t m)) (i : Nat) : w.cell? ⟨b, i, none⟩ = c[i]? := by
  simp [World.cell?, h]

theorem free_of {w : World} {b : Nat} {c : Array Value} {t : TypeId} (h : w.heap[b]? = some (.cells c t)) (i : Nat) : w.frozen? ⟨b, i, none⟩ = false := by
  simp [World.frozen?, h]

theorem setCell_block {w : World} {g : Nat} {c : Array Value} {t : TypeId} (h : w.heap[g]? = some (.cells c t)) (i : Nat) (v : Value) : (w.setCell ⟨g, i, none⟩ v).heap[g]? = some (.cells (c.setIfInBounds i v) t) := by
  simp [World.setCell, Array.getElem?_modify, h]

theorem I_info : (Tryd.prog.info? 2).map (fun i => (i.zero, i.size, i.bytes)) = some (some (.int .i64 0), 1, 8) := by kernel_rfl

theorem getD_mem {zs : List Int} {i : Nat} (h : i < zs.length) : zs.getD i 0 ∈ zs := by
  rw [List.getD_eq_getElem?_getD, List.getElem?_eq_getElem h]; simp

theorem at_index {w wr : World} {b off len k : Nat} {zs : List Int} (h6 : ∀ i, i < len → w.cell? ⟨b, off + i, none⟩ = some (.int .i64 (zs.getD i 0))) (hk : k < len) (hb : Below w.heap.size w wr) :
    wr.cell? ⟨b, off + k, none⟩ = some (.int .i64 (zs.getD k 0)) := by
  rw [hb.cell (block_lt_of_cell (h6 k hk))]; exact h6 k hk

/-- The block that 'make' has made. -/
theorem made_block {w1 : World} {B e g n cap : Nat} {xs : List Value} (h : w1.ownsRow B e 1 (.slice (some ⟨g, 0, none⟩) n cap) n xs) (hc : n = cap) : ∃ cur : Array Value, w1.heap[g]? = some (.cells cur e) ∧ cur.size = n := by
  obtain ⟨_, h | ⟨g', c, cur, hv, _, hh, _, _, hs, _⟩⟩ := h
  · cases h.1
  · simp only [Value.slice.injEq, Option.some.injEq, Addr.mk.injEq] at hv
    obtain ⟨⟨rfl, _⟩, _, rfl⟩ := hv
    exact ⟨cur, hh, by omega⟩

set_option maxRecDepth 20000 in
set_option maxHeartbeats 800000 in
theorem to_ints (a : Option Addr) (len cap : Nat) (zs : List Int) (w : World) (hn : IsInts w a len cap zs) (hlen : len ≤ 1048576) :
    Calls Tryd.prog 12 #[.slice a len cap] w (RetInts zs w) := by
  obtain ⟨i0, hi, hz0, hz1, hz2⟩ := info_parts I_info
  obtain ⟨h1, h2, h3, h4, b, off, h5, h6⟩ := hn
  have HL := Lib.hid h1; clear h1
  have H5 := Lib.hid h5; clear h5
  have H6 := Lib.hid h6; clear h6
  unfold maxLen at h3
  go_enter Tryd.func12, Tryd.ntmps12
  go_wp2_with (at_make; refine wpList_make_full _ rfl _ _ 27 rfl w.heap.size 2 i0 (.int .i64 0) 1 Tryd.underlying27 hi hz0 hz1 .i64 .i64 _ _ len rfl rfl rfl rfl (by rw [hz2]; omega) (by unfold maxLen; omega) (Nat.le_refl _) ?_)
  intro w1 hown hgrow
  have hnx : Below w.heap.size w w1 := (Below.refl _ _).grown hgrow (Nat.le_refl _) (fun k h => by cases h)
  obtain ⟨cur0, hc0, hs0⟩ := made_block hown rfl
  clear hown hgrow
  go_wp2
  go_loopw [4] (fun i wr => ∃ (k : Nat) (cur : Array Value), k ≤ len ∧ i = .int .i64 k ∧ wr.heap[w.heap.size]? = some (.cells cur 2) ∧ cur.size = len ∧ (∀ j, j < k → cur[j]? = some (.int .i64 (zs.getD j 0))) ∧ Below w.heap.size w wr)
    (fun i _ => len - (intOf i).toNat)
  case atStart => exact ⟨0, cur0, Nat.zero_le _, rfl, hc0, hs0, fun j hj => absurd hj (Nat.not_lt_zero _), hnx⟩
  case round =>
    clear hc0 hs0 hnx
    obtain ⟨k, cur, hk, rfl, hb, hs, hdone, hbel⟩ := hrel
    have HS := Lib.hid hs; clear hs
    have HD := Lib.hid hdone; clear hdone
    by_cases hlt : k < len
    · obtain rfl := H5.out (by omega)
      have hsrc := at_index H6.out hlt hbel
      generalize hv : zs.getD k 0 = v at *
      have HVV := Lib.hid hv; clear hv
      have hdst : wr.cell? ⟨w.heap.size, k, none⟩ = some cur[k]! := by
        rw [cells_of hb]
        have : k < cur.size := by rw [HS.out]; exact hlt
        simp [this]
      generalize cur[k]! = old at *
      have hfree := free_of hb k
      have HB := Lib.hid hb; clear hb
      go_wp2
      go_roundw
      case rel =>
        refine ⟨k + 1, cur.setIfInBounds k (.int .i64 v), by omega, by go_num, setCell_block HB.out k _, by simp [HS.out], fun j hj => ?_, hbel.setCell (Nat.le_refl _) _⟩
        by_cases hjk : j = k
        · subst hjk
          rw [Array.getElem?_setIfInBounds_self_of_lt (by rw [HS.out]; exact hlt), ← HVV.out]
        · rw [Array.getElem?_setIfInBounds_ne (fun e => hjk e.symm)]; exact HD.out j (by omega)
      case measure => simp [intOf]; omega
    · go_wp2
      go_ret
      refine ⟨_, _, by rw [HL.out]; rfl, ⟨rfl, by rw [HL.out]; exact Nat.le_refl _, by unfold maxLen; omega, h4, w.heap.size, 0, fun _ => rfl, fun i hi => ?_⟩, hbel⟩
      rw [HL.out] at hi
      have hkl : k = len := by omega
      rw [Nat.zero_add, cells_of hb, HD.out i (by omega)]

set_option maxRecDepth 20000 in
set_option maxHeartbeats 1600000 in
theorem eq_ints (a a' : Option Addr) (len cap cap' : Nat) (zs : List Int) (w : World) (hn : IsInts w a len cap zs) (hn' : IsInts w a' len cap' zs) :
    Calls Tryd.prog 14 #[.slice a len cap, .slice a' len cap'] w fun e w' => e = .returned (.bool true) ∧ Below w.heap.size w w' := by
  obtain ⟨h1, h2, h3, h4, b, off, h5, h6⟩ := hn
  obtain ⟨g1, g2, g3, g4, b', off', g5, g6⟩ := hn'
  have H1 := Lib.hid h1; clear h1
  clear g1 g4
  have H5 := Lib.hid h5; clear h5
  have H6 := Lib.hid h6; clear h6
  have G5 := Lib.hid g5; clear g5
  have G6 := Lib.hid g6; clear g6
  unfold maxLen at h3 g3
  go_enter Tryd.func14, Tryd.ntmps14
  go_wp2
  go_loopw [5] (fun i wr => ∃ k : Nat, k ≤ len ∧ i = .int .i64 k ∧ Below w.heap.size w wr) (fun i _ => len - (intOf i).toNat)
  case atStart => exact ⟨0, Nat.zero_le _, rfl, Below.refl _ _⟩
  case round =>
    obtain ⟨k, hk, rfl, hbel⟩ := hrel
    by_cases hlt : k < len
    · obtain rfl := H5.out (by omega)
      obtain rfl := G5.out (by omega)
      have hsrc := at_index H6.out hlt hbel
      have hsrc' := at_index G6.out hlt hbel
      generalize zs.getD k 0 = v at *
      have HB := Lib.hid hbel; clear hbel
      go_wp2_with fail
      go_quiet (fail)
      go_wp2
      go_roundw
      case rel => exact ⟨k + 1, by omega, by go_num, HB.out.trans (below_drewN (Below.refl _ _) _)⟩
      case measure => simp [intOf]; omega
    · go_wp2
      go_ret
      exact ⟨rfl, hbel⟩
end Ints
end Go.Proofs.YtaacneppnpognaaDoor
