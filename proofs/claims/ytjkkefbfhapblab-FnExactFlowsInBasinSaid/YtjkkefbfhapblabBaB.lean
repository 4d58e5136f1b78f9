/- Basins on the law's side: sizes, copies, comparison, marks. -/
import Derived.Test.YtjkkefbfhapblabBaY
namespace Go.Proofs.Ytjkkefbfhapblab
set_option linter.unusedSimpArgs false
set_option linter.unusedVariables false
open Go.RowKit
set_option maxRecDepth 20000
namespace Ba
open Fl Rate

/-- A basin's value. -/
abbrev bV (W H : Int) (a : Option Addr) (n cap : Nat) : Value := .agg #[.int .i64 W, .int .i64 H, .slice a n cap]

/-- A basin whose row is its own. -/
def RetV (W H : Int) (n : Nat) (c : Nat → Option Nat) (w : World) (e : Ending) (w' : World) : Prop :=
  ∃ a cap, e = .returned (bV W H a n cap) ∧ IsO w.heap.size w'.heap.size w' a n cap c ∧ Below w.heap.size w w'

theorem sz_list (a : Option Addr) (n cap : Nat) (left : Int) (w : World) (hn : n ≤ maxLen) (hl : 0 ≤ left ∧ left ≤ 1048576) (K : Int) (hK : K = if (n : Int) ≤ left then left - (n : Int) else -1) :
    Calls Try.prog 46 #[.slice a n cap, .int .i64 left] w (RetD (.int .i64 K) w) := by
  unfold maxLen at hn
  by_cases h : (n : Int) ≤ left
  · rw [if_pos h] at hK
    have h0 : ¬ left - (n : Int) < 0 := by omega
    have hb : 0 ≤ left - (n : Int) := by omega
    have HK := Lib.hid hK; clear hK
    have hm : (n : Int) ≤ 9223372036854775807 := by omega
    go_enter Try.func46, Try.ntmps46
    go_wp2
    go_ret
    exact ⟨by rw [HK.out]; rfl, Below.refl _ _⟩
  · rw [if_neg h] at hK
    have h0 : left - (n : Int) < 0 := by omega
    have h1 : -9223372036854775808 ≤ left - (n : Int) := by omega
    have h2 : left < (n : Int) := by omega
    have HK := Lib.hid hK; clear hK
    have hm : (n : Int) ≤ 9223372036854775807 := by omega
    go_enter Try.func46, Try.ntmps46
    go_wp2
    go_ret
    exact ⟨by rw [HK.out]; rfl, Below.refl _ _⟩

theorem sz_basin (W H : Int) (a : Option Addr) (n cap : Nat) (left : Int) (w : World) (hn : n ≤ maxLen) (hl : 0 ≤ left ∧ left ≤ 1048576) (K : Int) (hK : K = if (n : Int) ≤ left then left - (n : Int) else -1) :
    Calls Try.prog 15 #[bV W H a n cap, .int .i64 left] w (RetD (.int .i64 K) w) := by
  have HS := Lib.hid (fun w => sz_list a n cap left w hn hl K hK)
  have hk : K = -1 ∨ (0 ≤ K ∧ K ≤ 1048576) := by rw [hK]; split <;> omega
  clear hK hn
  rcases hk with rfl | ⟨hk, hk'⟩
  · go_enter Try.func15, Try.ntmps15
    go_wp2_with fail
    refine (HS.out _).mono ?_
    rintro e w1 ⟨rfl, hb1⟩
    go_wp2
    go_ret
    exact ⟨rfl, by (repeat' first | exact Below.refl _ _ | (refine Below.setCell ?_ (by first | omega | (simp; omega) | simp) _) | (refine below_drewN ?_ _) | (refine Below.alloc ?_ (by first | omega | (simp; omega) | simp) _) | (refine Below.trans ?_ (Below.mono (by assumption) (by first | omega | (simp; omega) | simp))))⟩
  · have hk0 : ¬ K < 0 := by omega
    go_enter Try.func15, Try.ntmps15
    go_wp2_with fail
    refine (HS.out _).mono ?_
    rintro e w1 ⟨rfl, hb1⟩
    go_wp2
    go_ret
    exact ⟨rfl, by (repeat' first | exact Below.refl _ _ | (refine Below.setCell ?_ (by first | omega | (simp; omega) | simp) _) | (refine below_drewN ?_ _) | (refine Below.alloc ?_ (by first | omega | (simp; omega) | simp) _) | (refine Below.trans ?_ (Below.mono (by assumption) (by first | omega | (simp; omega) | simp))))⟩

set_option maxHeartbeats 1600000 in
theorem to_basin (W H : Int) (a : Option Addr) (n cap : Nat) (c : Nat → Option Nat) (w : World) (h : IsY w a n cap c) (hn : n ≤ 1048576) :
    Calls Try.prog 17 #[bV W H a n cap] w (RetV W H n c w) := by
  have HT := Lib.hid (fun w' (hb : Below w.heap.size w w') => to_y a n cap c w' (h.later hb) hn)
  clear h
  go_enter Try.func17, Try.ntmps17
  go_wp2_with fail
  refine (HT.out _ (by (repeat' first | exact Below.refl _ _ | (refine Below.setCell ?_ (by first | omega | (simp; omega) | simp) _) | (refine below_drewN ?_ _) | (refine Below.alloc ?_ (by first | omega | (simp; omega) | simp) _) | (refine Below.trans ?_ (Below.mono (by assumption) (by first | omega | (simp; omega) | simp)))))).mono ?_
  rintro e w1 ⟨a1, cap1, rfl, ho1, hb1⟩
  have hz1 := hb1.size
  simp only [World.size_alloc, World.size_setCell] at hz1
  obtain ⟨hc1, hf1⟩ := Fl.bcell hb1
  have g1 : w.heap.size < w1.heap.size := by omega
  have g2 : w.heap.size + 1 < w1.heap.size := by omega
  have g3 : w.heap.size + 1 + 1 < w1.heap.size := by omega
  have HO := Lib.hid ho1; clear ho1
  go_wp2
  refine bodyPost_ret ?ohr rfl ⟨a1, cap1, rfl, ?oio, ?obel⟩
  case ohr => simp [results, Try.results17, go_sem, *]
  case oio =>
    refine (HO.out.keep fun g hg hgl hgs => ?_).wider (by simp; omega) (by simp)
    simp at hg
    repeat rw [set_keep _ _ _ (by omega)]
  case obel => (repeat' first | exact Below.refl _ _ | (refine Below.setCell ?_ (by first | omega | (simp; omega) | simp) _) | (refine below_drewN ?_ _) | (refine Below.alloc ?_ (by first | omega | (simp; omega) | simp) _) | (refine Below.trans ?_ (Below.mono (by assumption) (by first | omega | (simp; omega) | simp))))

set_option maxHeartbeats 1600000 in
theorem eq_basin (W H : Int) (a a' : Option Addr) (n cap cap' : Nat) (c : Nat → Option Nat) (w : World) (h : IsY w a n cap c) (h' : IsY w a' n cap' c) :
    Calls Try.prog 19 #[bV W H a n cap, bV W H a' n cap'] w (RetD (.bool true) w) := by
  have HE := Lib.hid (fun w' (hb : Below w.heap.size w w') => eq_y a a' n cap cap' c w' (h.later hb) (h'.later hb))
  clear h h'
  go_enter Try.func19, Try.ntmps19
  go_wp2_with fail
  refine (HE.out _ (by (repeat' first | exact Below.refl _ _ | (refine Below.setCell ?_ (by first | omega | (simp; omega) | simp) _) | (refine below_drewN ?_ _) | (refine Below.alloc ?_ (by first | omega | (simp; omega) | simp) _) | (refine Below.trans ?_ (Below.mono (by assumption) (by first | omega | (simp; omega) | simp)))))).mono ?_
  rintro e w1 ⟨rfl, hb1⟩
  go_wp2
  go_ret
  exact ⟨rfl, by (repeat' first | exact Below.refl _ _ | (refine Below.setCell ?_ (by first | omega | (simp; omega) | simp) _) | (refine below_drewN ?_ _) | (refine Below.alloc ?_ (by first | omega | (simp; omega) | simp) _) | (refine Below.trans ?_ (Below.mono (by assumption) (by first | omega | (simp; omega) | simp))))⟩

set_option maxHeartbeats 1600000 in
theorem mark_basin (B L : Nat) (W H : Int) (a : Option Addr) (n cap : Nat) (c : Nat → Option Nat) (K : Int) (hK : 0 ≤ K ∧ K ≤ 8388608) (w : World) (h : IsO B L w a n cap c) (hn : n ≤ 1048576) (hL : L ≤ w.heap.size) (hB : B ≤ L) :
    Calls Try.prog 20 #[bV W H a n cap, .int .i64 K] w fun e w' => e = .returned (.int .i64 (K + (n : Int))) ∧ Mk B L w' a n cap K ∧ Below B w w' ∧ ∀ b, (b < B ∨ L ≤ b) → b < w.heap.size → w'.heap[b]? = w.heap[b]? := by
  have HM := Lib.hid (fun w' (hb : Below w.heap.size w w') => mark_o B L a n cap c K hK w' (h.later hb) hn (Nat.le_trans hL hb.size))
  clear h
  go_enter Try.func20, Try.ntmps20
  go_wp2_with fail
  refine (HM.out _ (by (repeat' first | exact Below.refl _ _ | (refine Below.setCell ?_ (by first | omega | (simp; omega) | simp) _) | (refine below_drewN ?_ _) | (refine Below.alloc ?_ (by first | omega | (simp; omega) | simp) _) | (refine Below.trans ?_ (Below.mono (by assumption) (by first | omega | (simp; omega) | simp)))))).mono ?_
  rintro e w1 ⟨rfl, hm1, hb1, hk1⟩
  have HM1 := Lib.hid hm1
  have HB1 := Lib.hid hb1
  have HK1 := Lib.hid hk1
  clear hm1 hb1 hk1
  go_wp2
  go_ret
  refine ⟨rfl, HM1.out, ?_, fun b hb hl => ?_⟩
  · exact ((Below.refl _ _).alloc (by omega) _).trans HB1.out
  · rw [HK1.out b hb (by simp; omega), Below.heap_alloc _ _ _ hl]

set_option maxHeartbeats 1600000 in
theorem held_basin (B L : Nat) (W H : Int) (a : Option Addr) (n cap : Nat) (K : Int) (hK : 0 ≤ K ∧ K ≤ 8388608) (w : World) (h : Mk B L w a n cap K) :
    Calls Try.prog 21 #[bV W H a n cap, .int .i64 K] w (RetD (.int .i64 (K + (n : Int))) w) := by
  have HM := Lib.hid (fun w' (hb : Below w.heap.size w w') => held B L a n cap K hK w' (h.on hb))
  have hn : n ≤ 1048576 := h.2.2.1
  clear h
  obtain ⟨q, hq⟩ : ∃ q : Int, q = K + (n : Int) := ⟨_, rfl⟩
  have hq0 : ¬ q < 0 := by omega
  rw [← hq] at HM ⊢
  clear hq
  go_enter Try.func21, Try.ntmps21
  go_wp2_with fail
  refine (HM.out _ (by (repeat' first | exact Below.refl _ _ | (refine Below.setCell ?_ (by first | omega | (simp; omega) | simp) _) | (refine below_drewN ?_ _) | (refine Below.alloc ?_ (by first | omega | (simp; omega) | simp) _) | (refine Below.trans ?_ (Below.mono (by assumption) (by first | omega | (simp; omega) | simp)))))).mono ?_
  rintro e w1 ⟨rfl, hb1⟩
  go_wp2
  go_ret
  exact ⟨rfl, by (repeat' first | exact Below.refl _ _ | (refine Below.setCell ?_ (by first | omega | (simp; omega) | simp) _) | (refine below_drewN ?_ _) | (refine Below.alloc ?_ (by first | omega | (simp; omega) | simp) _) | (refine Below.trans ?_ (Below.mono (by assumption) (by first | omega | (simp; omega) | simp))))⟩

end Ba
end Go.Proofs.Ytjkkefbfhapblab
