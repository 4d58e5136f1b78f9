/- Reading a list of integers: the program's function; marks on a list. -/
import Derived.Test.YtaacneppnpognaaDoorNList
namespace Go.Proofs.YtaacneppnpognaaDoor
set_option linter.unusedSimpArgs false
set_option linter.unusedVariables false
open Go.RowKit
namespace NList
open Cut Ints

/-- A list of these integers in a block of the call's own. -/
def OwnL (B : Nat) (w : World) (a : Option Addr) (cap : Nat) (zs : List Int) : Prop :=
  zs.length ≤ cap ∧ cap ≤ maxLen ∧ zs.length ≤ 64 ∧ (∀ n ∈ zs, (Lit.int .i64 n).wf = true) ∧
  ∃ (g : Nat) (cur : Array Value), (0 < zs.length → a = some ⟨g, 0, none⟩ ∧ B ≤ g ∧ w.heap[g]? = some (.cells cur 2)) ∧ ∀ j, j < zs.length → cur[j]? = some (.int .i64 (zs.getD j 0))

def RetO (zs : List Int) (b : Bool) (w : World) (e : Ending) (w' : World) : Prop :=
  ∃ a cap, e = .returned (.tuple #[.slice a zs.length cap, .bool b]) ∧ OwnL w.heap.size w' a cap zs ∧ Below w.heap.size w w'

theorem ownL_nil (B : Nat) (w : World) : OwnL B w none 0 [] := ⟨Nat.le_refl _, Nat.zero_le _, Nat.zero_le _, (fun n hn => by cases hn), 0, #[], fun h => absurd h (Nat.lt_irrefl _), fun j hj => absurd hj (Nat.not_lt_zero _)⟩

theorem OwnL.ints {B : Nat} {w : World} {a : Option Addr} {cap : Nat} {zs : List Int} (h : OwnL B w a cap zs) : IsInts w a zs.length cap zs := by
  obtain ⟨h1, h2, h3, h4, g, cur, h5, h6⟩ := h
  refine ⟨rfl, h1, h2, h4, g, 0, fun h => (h5 h).1, fun i hi => ?_⟩
  rw [Nat.zero_add, cells_of (h5 (by omega)).2.2, h6 i hi]

theorem OwnL.on {B : Nat} {w w' : World} {a : Option Addr} {cap : Nat} {zs : List Int} (h : OwnL B w a cap zs) (hb : Below w.heap.size w w') : OwnL B w' a cap zs := by
  obtain ⟨h1, h2, h3, h4, g, cur, h5, h6⟩ := h
  refine ⟨h1, h2, h3, h4, g, cur, fun h => ⟨(h5 h).1, (h5 h).2.1, ?_⟩, h6⟩
  rw [hb.block g (Array.getElem?_eq_some_iff.1 (h5 h).2.2).1]
  exact (h5 h).2.2

theorem OwnL.low {B B' : Nat} {w : World} {a : Option Addr} {cap : Nat} {zs : List Int} (h : OwnL B w a cap zs) (hB : B' ≤ B) : OwnL B' w a cap zs := by
  obtain ⟨h1, h2, h3, h4, g, cur, h5, h6⟩ := h
  exact ⟨h1, h2, h3, h4, g, cur, fun h => ⟨(h5 h).1, Nat.le_trans hB (h5 h).2.1, (h5 h).2.2⟩, h6⟩

/-- The marks 1, 2, 3 .. -/
def marks (n : Nat) : List Int := (List.range n).map fun (j : Nat) => ((1 + j : Nat) : Int)
theorem marks_len (n : Nat) : (marks n).length = n := by simp [marks]
theorem marks_at {n j : Nat} (h : j < n) : (marks n).getD j 0 = ((1 + j : Nat) : Int) := by
  rw [List.getD_eq_getElem?_getD, marks, List.getElem?_map, List.getElem?_range h]; rfl
theorem marks_wf {n : Nat} (h : n ≤ 64) : ∀ m ∈ marks n, (Lit.int .i64 m).wf = true := by
  intro m hm
  obtain ⟨j, hj, rfl⟩ := List.mem_map.1 hm
  have := List.mem_range.1 hj
  simp [Lit.wf, IntKind.min, IntKind.max, IntKind.signed, IntKind.bits]
  omega

set_option maxRecDepth 20000 in
set_option maxHeartbeats 800000 in
theorem mark (B : Nat) (a : Option Addr) (n cap : Nat) (zs : List Int) (w : World) (hn : n = zs.length) (ho : OwnL B w a cap zs) :
    Calls Tryd.prog 17 #[.slice a n cap, .int .i64 1] w fun e w' => e = .returned (.int .i64 ((1 + n : Nat) : Int)) ∧ OwnL B w' a cap (marks n) ∧ Below B w w' := by
  obtain ⟨h1, h2, h3, h4, g, cur0, h5, h6⟩ := ho
  rw [← hn] at h1 h3 h5 h6
  have H5 := Lib.hid h5
  have H6 := Lib.hid h6
  clear h4 h5 h6 hn
  unfold maxLen at h2
  go_enter Tryd.func17, Tryd.ntmps17
  go_wp2
  go_loopw [1, 5] (fun m i wr => ∃ (k : Nat) (cur : Array Value), k ≤ n ∧ i = .int .i64 k ∧ m = .int .i64 ((1 + k : Nat) : Int) ∧ (0 < n → wr.heap[g]? = some (.cells cur 2)) ∧ n ≤ cur.size ∧ (∀ j, j < k → cur[j]? = some (.int .i64 ((1 + j : Nat) : Int))) ∧ Below B w wr)
    (fun _ i _ => n - (intOf i).toNat)
  case atStart =>
    by_cases h0 : 0 < n
    · refine ⟨0, cur0, Nat.zero_le _, rfl, rfl, fun _ => (H5.out h0).2.2, ?_, fun j hj => absurd hj (Nat.not_lt_zero _), Below.refl _ _⟩
      have := (Array.getElem?_eq_some_iff.1 (H6.out (n - 1) (by omega))).1
      omega
    · exact ⟨0, #[], Nat.zero_le _, rfl, rfl, fun h => absurd h h0, by omega, fun j hj => absurd hj (Nat.not_lt_zero _), Below.refl _ _⟩
  case round =>
    obtain ⟨k, cur, hk, rfl, rfl, hb, hs, hdone, hbel⟩ := hrel
    have HD := Lib.hid hdone; clear hdone
    by_cases hlt : k < n
    · obtain ⟨rfl, hBg, _⟩ := H5.out (by omega)
      have hblk := hb (by omega)
      have hdst : wr.cell? ⟨g, k, none⟩ = some cur[k]! := by
        rw [cells_of hblk]
        have : k < cur.size := by omega
        simp [this]
      generalize cur[k]! = old at *
      have hfree := free_of hblk k
      have HB := Lib.hid hblk; clear hb hblk
      go_wp2
      go_roundw
      case rel =>
        refine ⟨k + 1, cur.setIfInBounds k (.int .i64 ((1 + k : Nat) : Int)), by omega, by go_num, by go_num, fun _ => setCell_block HB.out k _, by simpa using hs, fun j hj => ?_, hbel.setCell hBg _⟩
        by_cases hjk : j = k
        · subst hjk
          rw [Array.getElem?_setIfInBounds_self_of_lt (by omega)]
        · rw [Array.getElem?_setIfInBounds_ne (fun e => hjk e.symm)]; exact HD.out j (by omega)
      case measure => simp [intOf]; omega
    · have hkn : k = n := by omega
      go_wp2
      go_ret
      refine ⟨by rw [← hkn]; rfl, ⟨by rw [marks_len]; exact h1, by unfold maxLen; exact h2, by rw [marks_len]; exact h3, marks_wf h3, g, cur, fun h => ?_, fun j hj => ?_⟩, hbel⟩
      · rw [marks_len] at h
        exact ⟨(H5.out h).1, (H5.out h).2.1, hb h⟩
      · rw [marks_len] at hj
        rw [marks_at hj]
        exact HD.out j (by omega)

set_option maxRecDepth 20000 in
set_option maxHeartbeats 800000 in
theorem held (B : Nat) (a : Option Addr) (n cap : Nat) (w : World) (ho : OwnL B w a cap (marks n)) :
    Calls Tryd.prog 18 #[.slice a n cap, .int .i64 1] w fun e w' => e = .returned (.int .i64 ((1 + n : Nat) : Int)) ∧ w' = w := by
  obtain ⟨h1, h2, h3, h4, g, cur0, h5, h6⟩ := ho
  rw [marks_len] at h1 h3 h5 h6
  have H5 := Lib.hid h5
  have H6 := Lib.hid h6
  clear h4 h5 h6
  unfold maxLen at h2
  go_enter Tryd.func18, Tryd.ntmps18
  go_wp2
  go_loopw [1, 5] (fun m i wr => ∃ k : Nat, k ≤ n ∧ i = .int .i64 k ∧ m = .int .i64 ((1 + k : Nat) : Int) ∧ wr = w) (fun _ i _ => n - (intOf i).toNat)
  case atStart => exact ⟨0, Nat.zero_le _, rfl, rfl, rfl⟩
  case round =>
    obtain ⟨k, hk, rfl, rfl, rfl⟩ := hrel
    by_cases hlt : k < n
    · obtain ⟨rfl, hBg, hblk⟩ := H5.out (by omega)
      have hsrc : wr.cell? ⟨g, k, none⟩ = some (.int .i64 ((1 + k : Nat) : Int)) := by
        rw [cells_of hblk, H6.out k hlt, marks_at hlt]
      have HB := Lib.hid hblk; clear hblk
      go_wp2
      go_roundw
      case rel => exact ⟨k + 1, by omega, by go_num, by go_num, trivial⟩
      case measure => simp [intOf]; omega
    · have hkn : k = n := by omega
      go_wp2
      go_ret
      exact ⟨by rw [← hkn]; rfl, rfl⟩
end NList
end Go.Proofs.YtaacneppnpognaaDoor
