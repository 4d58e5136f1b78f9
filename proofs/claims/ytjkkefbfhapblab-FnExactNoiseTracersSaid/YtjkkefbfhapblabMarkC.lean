/- Marks on a list of complex numbers. -/
import Derived.Test.YtjkkefbfhapblabMk
import Derived.LoopTactic
namespace Go.Proofs.Ytjkkefbfhapblab
set_option linter.unusedSimpArgs false
set_option linter.unusedVariables false
open Go.RowKit
namespace CMk
open Fl

theorem cells_of {w : World} {g : Nat} {c : Array Value} {t : TypeId} {i : Nat} (h : w.heap[g]? = some (.cells c t)) : w.cell? ⟨g, i, none⟩ = c[i]? := by
  simp [World.cell?, h]

theorem free_of {w : World} {g : Nat} {c : Array Value} {t : TypeId} (h : w.heap[g]? = some (.cells c t)) (i : Nat) : w.frozen? ⟨g, i, none⟩ = false := by
  simp [World.frozen?, h]

theorem setCell_block {w : World} {g : Nat} {c : Array Value} {t : TypeId} (h : w.heap[g]? = some (.cells c t)) (i : Nat) (v : Value) : (w.setCell ⟨g, i, none⟩ v).heap[g]? = some (.cells (c.setIfInBounds i v) t) := by
  simp [World.setCell, Array.getElem?_modify, h]

/-! ### Marks -/

/-- The values of the marks from K on, as classes. -/
def mval (K : Int) (v : Value) : Prop := ∃ r q, v = .complex .f32 r q ∧ Fr .f32 r (Mks.mkC K) ∧ Fr .f32 q Mks.oneC

/-- A block of n marks. -/
def Mk (B : Nat) (w : World) (a : Option Addr) (n cap : Nat) (K : Int) : Prop :=
  n ≤ cap ∧ cap ≤ maxLen ∧ n ≤ 256 ∧ ∃ (g : Nat) (cur : Array Value), (0 < n → a = some ⟨g, 0, none⟩ ∧ B ≤ g ∧ w.heap[g]? = some (.cells cur 64)) ∧ ∀ j, j < n → ∃ v, cur[j]? = some v ∧ mval (K + (j : Int)) v

theorem Mk.on {B : Nat} {w w' : World} {a : Option Addr} {n cap : Nat} {K : Int} (h : Mk B w a n cap K) (hb : Below w.heap.size w w') : Mk B w' a n cap K := by
  obtain ⟨h1, h2, h3, g, cur, h5, h6⟩ := h
  refine ⟨h1, h2, h3, g, cur, fun h => ⟨(h5 h).1, (h5 h).2.1, ?_⟩, h6⟩
  rw [hb.block g (Array.getElem?_eq_some_iff.1 (h5 h).2.2).1]
  exact (h5 h).2.2

set_option maxRecDepth 20000 in
set_option maxHeartbeats 1600000 in
/-- Marks on any block of n cells of the call's own. -/
theorem mark (B : Nat) (a : Option Addr) (n cap : Nat) (K : Int) (hK : 0 ≤ K ∧ K ≤ 256) (w : World) (h1 : n ≤ cap) (h2 : cap ≤ maxLen) (h3 : n ≤ 256) (g : Nat) (cur0 : Array Value) (h5 : 0 < n → a = some ⟨g, 0, none⟩ ∧ B ≤ g ∧ w.heap[g]? = some (.cells cur0 64)) (h6 : n ≤ cur0.size) :
    Calls Try.prog 13 #[.slice a n cap, .int .i64 K] w fun e w' => e = .returned (.int .i64 (K + (n : Int))) ∧ Mk B w' a n cap K ∧ Below B w w' ∧ ∀ b, b ≠ g → b < w.heap.size → w'.heap[b]? = w.heap[b]? := by
  have H5 := Lib.hid h5
  have H6 := Lib.hid h6
  clear h5 h6
  unfold maxLen at h2
  have f1 : Fr .f64 4607182418800017408 (some 4607182418800017408) := Fr.const (by decide +kernel) (by decide)
  go_enter Try.func13, Try.ntmps13
  go_wp2
  go_loopw [1, 5] (fun m i wr => ∃ (k : Nat) (cur : Array Value), k ≤ n ∧ i = .int .i64 k ∧ m = .int .i64 (K + (k : Int)) ∧ (0 < n → wr.heap[g]? = some (.cells cur 64)) ∧ n ≤ cur.size ∧ (∀ j, j < k → ∃ v, cur[j]? = some v ∧ mval (K + (j : Int)) v) ∧ Below B w wr ∧ ∀ b, b ≠ g → b < w.heap.size → wr.heap[b]? = w.heap[b]?)
    (fun _ i _ => n - (intOf i).toNat)
  case atStart =>
    exact ⟨0, cur0, Nat.zero_le _, rfl, by go_num, fun h => (H5.out h).2.2, H6.out, fun j hj => absurd hj (Nat.not_lt_zero _), Below.refl _ _, fun _ _ _ => rfl⟩
  case round =>
    obtain ⟨k, cur, hk, rfl, rfl, hb, hs, hdone, hbel, hkeep⟩ := hrel
    have HD := Lib.hid hdone; clear hdone
    have HKP := Lib.hid hkeep; clear hkeep
    by_cases hlt : k < n
    · obtain ⟨rfl, hBg, _⟩ := H5.out (by omega)
      have hblk := hb (by omega)
      have hdst : wr.cell? ⟨g, k, none⟩ = some cur[k]! := by
        rw [cells_of hblk]
        have : k < cur.size := by omega
        simp [this]
      generalize cur[k]! = old at *
      have hfree := free_of hblk k
      have HB := Lib.hid hblk; clear hb hblk
      have HBL := Lib.hid hbel; clear hbel
      have fk := Mks.intFr (K + (k : Int))
      obtain ⟨hF1, _⟩ := Mks.mk_facts (K := K + (k : Int)) (by omega)
      have HF1 := Lib.hid hF1; clear hF1
      have HF2 := Lib.hid Mks.one_facts.1
      go_wp2_with (first | (refine Fl.wpList_cconv rfl rfl rfl (by kernel_rfl) Try.underlying64 fk f1 HF1.out HF2.out ?_; intro r q n' hr hq))
      go_roundw
      case rel =>
        refine ⟨k + 1, cur.setIfInBounds k (.complex .f32 r q), by omega, by go_num, by go_num, fun _ => setCell_block HB.out k _, by simpa using hs, fun j hj => ?_, Below.setCell (by first | exact HBL.out | exact below_drewN HBL.out _) hBg _, fun b hbne hbl => ?_⟩
        · by_cases hjk : j = k
          · subst hjk
            exact ⟨_, Array.getElem?_setIfInBounds_self_of_lt (by omega), ⟨r, q, rfl, hr, hq⟩⟩
          · obtain ⟨v, hv1, hv2⟩ := HD.out j (by omega)
            exact ⟨v, by rw [Array.getElem?_setIfInBounds_ne (fun e => hjk e.symm)]; exact hv1, hv2⟩
        · have e1 : ∀ (wx : World) (vx : Value), (wx.setCell ⟨g, k, none⟩ vx).heap[b]? = wx.heap[b]? := fun wx vx => by
            simp [World.setCell, Array.getElem?_modify]
            intro e; exact absurd e.symm hbne
          rw [e1]
          exact HKP.out b hbne hbl
      case measure => simp [intOf]; omega
    · have hkn : k = n := by omega
      go_wp2
      go_ret
      exact ⟨by subst hkn; first | rfl | go_num, ⟨h1, by unfold maxLen; exact h2, h3, g, cur, fun h => ⟨(H5.out h).1, (H5.out h).2.1, hb h⟩, fun j hj => HD.out j (by omega)⟩, hbel, HKP.out⟩

set_option maxRecDepth 20000 in
set_option maxHeartbeats 1600000 in
theorem held (B : Nat) (a : Option Addr) (n cap : Nat) (K : Int) (hK : 0 ≤ K ∧ K ≤ 256) (w : World) (ho : Mk B w a n cap K) :
    Calls Try.prog 14 #[.slice a n cap, .int .i64 K] w fun e w' => e = .returned (.int .i64 (K + (n : Int))) ∧ Below w.heap.size w w' := by
  obtain ⟨h1, h2, h3, g, cur0, h5, h6⟩ := ho
  have H5 := Lib.hid h5
  have H6 := Lib.hid h6
  clear h5 h6
  unfold maxLen at h2
  have f1 : Fr .f64 4607182418800017408 (some 4607182418800017408) := Fr.const (by decide +kernel) (by decide)
  go_enter Try.func14, Try.ntmps14
  go_wp2
  go_loopw [1, 5] (fun m i wr => ∃ k : Nat, k ≤ n ∧ i = .int .i64 k ∧ m = .int .i64 (K + (k : Int)) ∧ Below w.heap.size w wr) (fun _ i _ => n - (intOf i).toNat)
  case atStart => exact ⟨0, Nat.zero_le _, rfl, by go_num, Below.refl _ _⟩
  case round =>
    obtain ⟨k, hk, rfl, rfl, hbel⟩ := hrel
    by_cases hlt : k < n
    · obtain ⟨rfl, hBg, hblk0⟩ := H5.out (by omega)
      obtain ⟨v, hv1, hv2⟩ := H6.out k hlt
      have hblk : wr.heap[g]? = some (.cells cur0 64) := by rw [hbel.block g (Array.getElem?_eq_some_iff.1 hblk0).1]; exact hblk0
      have hsrc : wr.cell? ⟨g, k, none⟩ = some v := by
        rw [cells_of hblk, hv1]
      have HB := Lib.hid hblk; clear hblk hblk0 hv1
      have HBL := Lib.hid hbel; clear hbel
      obtain ⟨x, y, rfl, k1, k2⟩ := hv2
      have fk := Mks.intFr (K + (k : Int))
      obtain ⟨hF1, hO1⟩ := Mks.mk_facts (K := K + (k : Int)) (by omega)
      have HF1 := Lib.hid hF1; clear hF1
      have HF2 := Lib.hid Mks.one_facts.1
      have HO1 := Lib.hid hO1; clear hO1
      have HO2 := Lib.hid Mks.one_facts.2
      have hM : ∀ r, Fr .f32 r (convC .f64 .f32 (cl .f64 (floatOfInt .f64 (K + (k : Int))))) → Fr .f32 r (Mks.mkC (K + (k : Int))) := fun r h => h
      have hQ : ∀ r, Fr .f32 r (convC .f64 .f32 (some 4607182418800017408)) → Fr .f32 r Mks.oneC := fun r h => h
      have HM := Lib.hid hM; clear hM
      have HQ := Lib.hid hQ; clear hQ
      generalize Mks.mkC (K + (k : Int)) = M at *
      generalize Mks.oneC = O at *
      go_wp2_with (first | (refine Fl.wpList_cconv rfl rfl rfl (by kernel_rfl) Try.underlying64 fk f1 HF1.out HF2.out ?_; intro r q n' hr hq; replace hr := HM.out _ hr; replace hq := HQ.out _ hq) | (refine Mks.wpList_cneq rfl rfl rfl rfl k1 k2 hr hq HO1.out HO2.out ?_))
      go_roundw
      case rel => exact ⟨k + 1, by omega, by go_num, by go_num, by first | exact HBL.out | exact below_drewN HBL.out _⟩
      case measure => simp [intOf]; omega
    · have hkn : k = n := by omega
      go_wp2
      go_ret
      exact ⟨by subst hkn; first | rfl | go_num, hbel⟩
end CMk
end Go.Proofs.Ytjkkefbfhapblab
