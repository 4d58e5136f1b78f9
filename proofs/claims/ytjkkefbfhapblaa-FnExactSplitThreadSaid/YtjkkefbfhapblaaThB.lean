/- Threads on the law's side: sizes, copies, comparison, marks. -/
import Derived.Test.YtjkkefbfhapblaaThY
namespace Go.Proofs.Ytjkkefbfhapblaa
set_option linter.unusedSimpArgs false
set_option linter.unusedVariables false
open Go.RowKit
set_option maxRecDepth 20000
namespace Th
open Fl Rate

/-- A thread's value. -/
abbrev tV (a : Option Addr) (n cap s : Nat) : Value := .agg #[.slice a n cap, .float .f32 s]

/-- A thread whose row is its own, and its spin's word. -/
def RetT (s : Nat) (n : Nat) (c : Nat → Option Nat) (w : World) (e : Ending) (w' : World) : Prop :=
  ∃ a cap, e = .returned (tV a n cap s) ∧ IsR w.heap.size w'.heap.size w' a n cap c ∧ Below w.heap.size w w'

theorem sz_list (a : Option Addr) (n cap : Nat) (left : Int) (w : World) (hn : n ≤ maxLen) (hl : 0 ≤ left ∧ left ≤ 1048576) (K : Int) (hK : K = if (n : Int) ≤ left then left - (n : Int) else -1) :
    Calls Try.prog 44 #[.slice a n cap, .int .i64 left] w (RetD (.int .i64 K) w) := by
  unfold maxLen at hn
  by_cases h : (n : Int) ≤ left
  · rw [if_pos h] at hK
    have h0 : ¬ left - (n : Int) < 0 := by omega
    have hb : 0 ≤ left - (n : Int) := by omega
    have HK := Lib.hid hK; clear hK
    have hm : (n : Int) ≤ 9223372036854775807 := by omega
    go_enter Try.func44, Try.ntmps44
    go_wp2
    go_ret
    exact ⟨by rw [HK.out]; rfl, Below.refl _ _⟩
  · rw [if_neg h] at hK
    have h0 : left - (n : Int) < 0 := by omega
    have h1 : -9223372036854775808 ≤ left - (n : Int) := by omega
    have h2 : left < (n : Int) := by omega
    have HK := Lib.hid hK; clear hK
    have hm : (n : Int) ≤ 9223372036854775807 := by omega
    go_enter Try.func44, Try.ntmps44
    go_wp2
    go_ret
    exact ⟨by rw [HK.out]; rfl, Below.refl _ _⟩

theorem sz_thread (a : Option Addr) (n cap s : Nat) (left : Int) (w : World) (hn : n ≤ maxLen) (hl : 0 ≤ left ∧ left ≤ 1048576) (K : Int) (hK : K = if (n : Int) ≤ left then left - (n : Int) else -1) :
    Calls Try.prog 13 #[tV a n cap s, .int .i64 left] w (RetD (.int .i64 K) w) := by
  have HS := Lib.hid (fun w => sz_list a n cap left w hn hl K hK)
  have hk : K = -1 ∨ (0 ≤ K ∧ K ≤ 1048576) := by rw [hK]; split <;> omega
  clear hK hn
  rcases hk with rfl | ⟨hk, hk'⟩
  · go_enter Try.func13, Try.ntmps13
    go_wp2_with fail
    refine (HS.out _).mono ?_
    rintro e w1 ⟨rfl, hb1⟩
    go_wp2
    go_ret
    exact ⟨rfl, by (repeat' first | exact Below.refl _ _ | (refine Below.setCell ?_ (by first | omega | (simp; omega) | simp) _) | (refine below_drewN ?_ _) | (refine Below.alloc ?_ (by first | omega | (simp; omega) | simp) _) | (refine Below.trans ?_ (Below.mono (by assumption) (by first | omega | (simp; omega) | simp))))⟩
  · have hk0 : ¬ K < 0 := by omega
    go_enter Try.func13, Try.ntmps13
    go_wp2_with fail
    refine (HS.out _).mono ?_
    rintro e w1 ⟨rfl, hb1⟩
    go_wp2
    go_ret
    exact ⟨rfl, by (repeat' first | exact Below.refl _ _ | (refine Below.setCell ?_ (by first | omega | (simp; omega) | simp) _) | (refine below_drewN ?_ _) | (refine Below.alloc ?_ (by first | omega | (simp; omega) | simp) _) | (refine Below.trans ?_ (Below.mono (by assumption) (by first | omega | (simp; omega) | simp))))⟩

set_option maxHeartbeats 1600000 in
theorem to_thread (a : Option Addr) (n cap s : Nat) (c : Nat → Option Nat) (w : World) (h : IsV w a n cap c) (hn : n ≤ 1048576) :
    Calls Try.prog 15 #[tV a n cap s] w (RetT s n c w) := by
  have HT := Lib.hid (fun w' (hb : Below w.heap.size w w') => to_v a n cap c w' (h.later hb) hn)
  clear h
  go_enter Try.func15, Try.ntmps15
  go_wp2_with fail
  refine (HT.out _ (by (repeat' first | exact Below.refl _ _ | (refine Below.setCell ?_ (by first | omega | (simp; omega) | simp) _) | (refine below_drewN ?_ _) | (refine Below.alloc ?_ (by first | omega | (simp; omega) | simp) _) | (refine Below.trans ?_ (Below.mono (by assumption) (by first | omega | (simp; omega) | simp)))))).mono ?_
  rintro e w1 ⟨a1, cap1, rfl, ho1, hb1⟩
  have hz1 := hb1.size
  simp only [World.size_alloc, World.size_setCell] at hz1
  obtain ⟨hc1, hf1⟩ := Fl.bcell hb1
  have g1 : w.heap.size < w1.heap.size := by omega
  have g2 : w.heap.size + 1 < w1.heap.size := by omega
  have g3 : w.heap.size + 1 + 1 < w1.heap.size := by omega
  have HO := Lib.hid ho1; clear ho1
  go_wp2
  refine bodyPost_ret ?ohr rfl ⟨a1, cap1, rfl, ?oio, ?obel⟩
  case ohr => simp [results, Try.results15, go_sem, *]
  case oio =>
    refine (HO.out.keep fun g hg hgl hgs => ?_).wider (by simp; omega) (by simp)
    simp at hg
    repeat rw [set_keep _ _ _ (by omega)]
  case obel => (repeat' first | exact Below.refl _ _ | (refine Below.setCell ?_ (by first | omega | (simp; omega) | simp) _) | (refine below_drewN ?_ _) | (refine Below.alloc ?_ (by first | omega | (simp; omega) | simp) _) | (refine Below.trans ?_ (Below.mono (by assumption) (by first | omega | (simp; omega) | simp))))

theorem same_ret (a b : Nat) (c : Option Nat) (w : World) (fa : Fr .f64 a c) (fb : Fr .f64 b c) :
    Calls Try.prog 27 #[.float .f64 a, .float .f64 b] w (RetD (.bool true) w) :=
  (Same.same_true a b c w fa fb).mono fun e w' ⟨n, he, hw⟩ => ⟨he, by rw [hw]; exact below_drewN (Below.refl _ _) n⟩

set_option maxHeartbeats 1600000 in
theorem eq_thread (a a' : Option Addr) (n cap cap' s s' : Nat) (cs : Option Nat) (c : Nat → Option Nat) (w : World) (h : IsV w a n cap c) (h' : IsV w a' n cap' c) (fs : Fr .f32 s cs) (fs' : Fr .f32 s' cs) :
    Calls Try.prog 18 #[tV a n cap s, tV a' n cap' s'] w (RetD (.bool true) w) := by
  have HE := Lib.hid (fun w' (hb : Below w.heap.size w w') => eq_v a a' n cap cap' c w' (h.later hb) (h'.later hb))
  clear h h'
  go_enter Try.func18, Try.ntmps18
  go_wp2_with fail
  refine (HE.out _ (by (repeat' first | exact Below.refl _ _ | (refine Below.setCell ?_ (by first | omega | (simp; omega) | simp) _) | (refine below_drewN ?_ _) | (refine Below.alloc ?_ (by first | omega | (simp; omega) | simp) _) | (refine Below.trans ?_ (Below.mono (by assumption) (by first | omega | (simp; omega) | simp)))))).mono ?_
  rintro e w1 ⟨rfl, hb1⟩
  have hz1 := hb1.size
  simp only [World.size_alloc, World.size_setCell] at hz1
  obtain ⟨hc1, hf1⟩ := Fl.bcell hb1
  have g1 : w.heap.size < w1.heap.size := by omega
  have g2 : w.heap.size + 1 < w1.heap.size := by omega
  go_wp2_with (first | (go_at_call 27; refine (same_ret _ _ _ _ (by assumption) (by assumption)).mono ?_; rintro e w2 ⟨rfl, hb2⟩) | (refine Fl.wpList_conv rfl rfl rfl (by kernel_rfl) Try.underlying45 (by assumption) (Fl.fits_wide _) ?_; intro r n hr))
  go_ret
  exact ⟨rfl, by (repeat' first | exact Below.refl _ _ | (refine Below.setCell ?_ (by first | omega | (simp; omega) | simp) _) | (refine below_drewN ?_ _) | (refine Below.alloc ?_ (by first | omega | (simp; omega) | simp) _) | (refine Below.trans ?_ (Below.mono (by assumption) (by first | omega | (simp; omega) | simp))))⟩

set_option maxHeartbeats 1600000 in
theorem mark_thread (B L : Nat) (a : Option Addr) (n cap s : Nat) (c : Nat → Option Nat) (K : Int) (hK : 0 ≤ K ∧ K ≤ 8388608) (w : World) (h : IsR B L w a n cap c) (hn : n ≤ 1048576) (hL : L ≤ w.heap.size) (hB : B ≤ L) :
    Calls Try.prog 21 #[tV a n cap s, .int .i64 K] w fun e w' => e = .returned (.int .i64 (K + (n : Int) * 3)) ∧ Mk B L w' a n cap K ∧ Below B w w' ∧ ∀ b, (b < B ∨ L ≤ b) → b < w.heap.size → w'.heap[b]? = w.heap[b]? := by
  have HM := Lib.hid (fun w' (hb : Below w.heap.size w w') => mark_o B L a n cap c K hK w' (h.later hb) hn (Nat.le_trans hL hb.size))
  clear h
  go_enter Try.func21, Try.ntmps21
  go_wp2_with fail
  refine (HM.out _ (by (repeat' first | exact Below.refl _ _ | (refine Below.setCell ?_ (by first | omega | (simp; omega) | simp) _) | (refine below_drewN ?_ _) | (refine Below.alloc ?_ (by first | omega | (simp; omega) | simp) _) | (refine Below.trans ?_ (Below.mono (by assumption) (by first | omega | (simp; omega) | simp)))))).mono ?_
  rintro e w1 ⟨rfl, hm1, hb1, hk1⟩
  have HM1 := Lib.hid hm1
  have HB1 := Lib.hid hb1
  have HK1 := Lib.hid hk1
  clear hm1 hb1 hk1
  go_wp2
  go_ret
  refine ⟨rfl, HM1.out, ?_, fun b hb hl => ?_⟩
  · exact ((Below.refl _ _).alloc (by omega) _).trans HB1.out
  · rw [HK1.out b hb (by simp; omega), Below.heap_alloc _ _ _ hl]

set_option maxHeartbeats 1600000 in
theorem held_thread (B L : Nat) (a : Option Addr) (n cap s : Nat) (K : Int) (hK : 0 ≤ K ∧ K ≤ 8388608) (w : World) (h : Mk B L w a n cap K) :
    Calls Try.prog 22 #[tV a n cap s, .int .i64 K] w (RetD (.int .i64 (K + (n : Int) * 3)) w) := by
  have HM := Lib.hid (fun w' (hb : Below w.heap.size w w') => held B L a n cap K hK w' (h.on hb))
  have hn : n ≤ 1048576 := h.2.2.1
  clear h
  obtain ⟨q, hq⟩ : ∃ q : Int, q = K + (n : Int) * 3 := ⟨_, rfl⟩
  have hq0 : ¬ q < 0 := by omega
  rw [← hq] at HM ⊢
  clear hq
  go_enter Try.func22, Try.ntmps22
  go_wp2_with fail
  refine (HM.out _ (by (repeat' first | exact Below.refl _ _ | (refine Below.setCell ?_ (by first | omega | (simp; omega) | simp) _) | (refine below_drewN ?_ _) | (refine Below.alloc ?_ (by first | omega | (simp; omega) | simp) _) | (refine Below.trans ?_ (Below.mono (by assumption) (by first | omega | (simp; omega) | simp)))))).mono ?_
  rintro e w1 ⟨rfl, hb1⟩
  go_wp2
  go_ret
  exact ⟨rfl, by (repeat' first | exact Below.refl _ _ | (refine Below.setCell ?_ (by first | omega | (simp; omega) | simp) _) | (refine below_drewN ?_ _) | (refine Below.alloc ?_ (by first | omega | (simp; omega) | simp) _) | (refine Below.trans ?_ (Below.mono (by assumption) (by first | omega | (simp; omega) | simp))))⟩

end Th
end Go.Proofs.Ytjkkefbfhapblaa
