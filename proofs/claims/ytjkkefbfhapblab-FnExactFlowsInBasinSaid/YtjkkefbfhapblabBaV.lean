/- Whether basins are valid: the program's functions and the model's. -/
import Derived.Test.YtjkkefbfhapblabBaB
import Derived.Test.YtjkkefbfhapblabFinite
import Derived.Test.YtjkkefbfhapblabFin
import Derived.Deep.QuietTactic
import Derived.BigQuiet
namespace Go.Proofs.Ytjkkefbfhapblab
set_option linter.unusedSimpArgs false
set_option linter.unusedVariables false
open Go.RowKit
set_option maxRecDepth 20000
namespace Ba
open Fl Rate

theorem quiet_eq {P : Program} {f : FuncId} {args : Array Value} {w : World} {n : Nat} {v : Value} (h : Calls P f args (w.drewN n) fun e w' => e = .returned v ∧ w.drewN n = w') : Calls P f args (w.drewN n) fun e w'' => e = .returned v ∧ ∃ m, w'' = w.drewN m :=
  h.mono fun _ _ ⟨he, hm⟩ => ⟨he, n, hm.symm⟩

def allF (c : Nat → Option Nat) : Nat → Bool
  | 0 => true
  | k + 1 => allF c k && finC (c k)

theorem allF_le {c : Nat → Option Nat} {k n : Nat} (h : allF c k = false) (hk : k ≤ n) : allF c n = false := by
  induction n with
  | zero => obtain rfl : k = 0 := by omega
            exact h
  | succ n ih =>
    by_cases e : k = n + 1
    · rw [← e]; exact h
    · show (allF c n && _) = false
      rw [ih (by omega)]; rfl

theorem allF_at {c : Nat → Option Nat} {n : Nat} (h : allF c n = true) : ∀ i, i < n → finC (c i) = true := by
  induction n with
  | zero => intro i hi; omega
  | succ n ih =>
    have h' : (allF c n && finC (c n)) = true := h
    rw [Bool.and_eq_true] at h'
    intro i hi
    by_cases e : i = n
    · rw [e]; exact h'.2
    · exact ih h'.1 i (by omega)

theorem allF_of {c : Nat → Option Nat} {n : Nat} (h : ∀ i, i < n → finC (c i) = true) : allF c n = true := by
  induction n with
  | zero => rfl
  | succ n ih =>
    show (allF c n && finC (c n)) = true
    rw [ih (fun i hi => h i (by omega)), h n (by omega)]; rfl

theorem allF_congr {c d : Nat → Option Nat} {n : Nat} (h : ∀ i, i < n → c i = d i) : allF c n = allF d n := by
  induction n with
  | zero => rfl
  | succ n ih =>
    show (allF c n && finC (c n)) = (allF d n && finC (d n))
    rw [ih (fun i hi => h i (by omega)), h n (by omega)]

def sideB (n : Int) : Bool := decide (3 ≤ n) && decide (n ≤ 16)

/-- Whether these are the size of a basin, the numbers as many as its cells, and finite. -/
def okB (W H : Int) (n : Nat) (c : Nat → Option Nat) : Bool := (sideB W && sideB H) && (decide ((n : Int) = W * H) && allF c n)

theorem side_of {n : Int} (h : sideB n = true) : 3 ≤ n ∧ n ≤ 16 := by
  unfold sideB at h
  simpa using h

theorem mul_bd {W H : Int} (h : sideB W = true) (h' : sideB H = true) : 9 ≤ W * H ∧ W * H ≤ 256 := by
  obtain ⟨a, b⟩ := side_of h
  obtain ⟨a', b'⟩ := side_of h'
  constructor
  · have h1 : 3 * 3 ≤ W * H := Int.mul_le_mul a a' (by omega) (by omega)
    omega
  · have h1 : W * H ≤ 16 * 16 := Int.mul_le_mul b b' (by omega) (by omega)
    omega

theorem okB_of {W H : Int} {n : Nat} {c : Nat → Option Nat} (h : okB W H n c = true) : sideB W = true ∧ sideB H = true ∧ (n : Int) = W * H ∧ allF c n = true := by
  unfold okB at h
  simp only [Bool.and_eq_true, decide_eq_true_eq] at h
  exact ⟨h.1.1, h.1.2, h.2.1, h.2.2⟩

theorem okB_n {W H : Int} {n : Nat} {c : Nat → Option Nat} (h : okB W H n c = true) : 9 ≤ n ∧ n ≤ 256 := by
  obtain ⟨h1, h2, h3, _⟩ := okB_of h
  have := mul_bd h1 h2
  omega

theorem impl_side (n : Int) (w : World) : Calls Try.prog 89 #[.int .i64 n] w fun e w' => e = .returned (.bool (sideB n)) ∧ w = w' := by
  by_cases h1 : 3 ≤ n
  all_goals by_cases h2 : n ≤ 16
  all_goals
    first | have d1 : decide (3 ≤ n) = true := decide_eq_true h1 | have d1 : decide (3 ≤ n) = false := decide_eq_false h1
    first | have d2 : decide (n ≤ 16) = true := decide_eq_true h2 | have d2 : decide (n ≤ 16) = false := decide_eq_false h2
    have D := Lib.hid (And.intro d1 d2)
    clear d1 d2
    go_enter Try.func89, Try.ntmps89
    go_wp2
    go_ret
    exact ⟨by unfold sideB; rw [D.out.1, D.out.2]; rfl, rfl⟩

theorem spec_in (n a b : Int) (w : World) : Calls Try.prog 39 #[.int .i64 n, .int .i64 a, .int .i64 b] w fun e w' => e = .returned (.bool (decide (a ≤ n) && decide (n ≤ b))) ∧ w = w' := by
  by_cases h1 : a ≤ n
  all_goals by_cases h2 : n ≤ b
  all_goals
    first | have d1 : decide (a ≤ n) = true := decide_eq_true h1 | have d1 : decide (a ≤ n) = false := decide_eq_false h1
    first | have d2 : decide (n ≤ b) = true := decide_eq_true h2 | have d2 : decide (n ≤ b) = false := decide_eq_false h2
    have D := Lib.hid (And.intro d1 d2)
    clear d1 d2
    go_enter Try.func39, Try.ntmps39
    go_wp2
    go_ret
    exact ⟨by first | rfl | (simp only [D.out.1, D.out.2]; rfl), rfl⟩

theorem spec_ins (n : Int) (w : World) : Calls Try.prog 39 #[.int .i64 n, .int .i64 3, .int .i64 16] w fun e w' => e = .returned (.bool (sideB n)) ∧ w = w' := spec_in n 3 16 w

theorem spec_size (W H : Int) (w : World) : Calls Try.prog 86 #[.int .i64 W, .int .i64 H] w fun e w' => e = .returned (.bool (sideB W && sideB H)) ∧ w = w' := by
  cases h1 : sideB W
  all_goals cases h2 : sideB H
  all_goals
    go_enter Try.func86, Try.ntmps86
    go_wp2_with (go_at_call 39; refine (spec_ins _ _).mono ?_; rintro e w1 ⟨rfl, rfl⟩)
    go_ret
    exact ⟨rfl, rfl⟩

theorem impl_fin (x : Nat) (c : Option Nat) (w : World) (f : Fr .f32 x c) : Calls Try.prog 57 #[.float .f32 x] w (RetD (.bool (finC c)) w) :=
  (Finite.impl_finite x w f.2).mono fun e w' ⟨he, hw⟩ => ⟨by rw [he, fin_cl f], by rw [hw]; exact Below.refl _ _⟩

theorem wf_lt' (b : Nat) (h : b < 2 ^ FloatKind.f32.format.width) : (Lit.float .f32 b).wf = true := by
  have h' : b < 4294967296 := h
  simpa [Lit.wf] using h'

theorem spec_fin (x : Nat) (c : Option Nat) (w : World) (f : Fr .f32 x c) : Calls Try.prog 54 #[.float .f32 x] w (RetD (.bool (finC c)) w) :=
  (Finite.spec_finite x w (wf_lt' x f.2)).mono fun e w' ⟨n, he, hw⟩ => ⟨by rw [he, fin_cl f], by rw [hw]; exact below_drewN (Below.refl _ _) n⟩

set_option maxHeartbeats 1600000 in
theorem impl_all (a : Option Addr) (n cap : Nat) (c : Nat → Option Nat) (w : World) (h : IsY w a n cap c) : Calls Try.prog 81 #[.slice a n cap, .func (Fn.func 57) #[] #[]] w (RetD (.bool (allF c n)) w) := by
  obtain ⟨h2, h3, b, off, h5, h6⟩ := h
  have H5 := Lib.hid h5; clear h5
  have H6 := Lib.hid h6; clear h6
  unfold maxLen at h3
  go_enter Try.func81, Try.ntmps81
  go_wp2
  go_loopw [9] (fun i wr => ∃ k : Nat, k ≤ n ∧ i = .int .i64 k ∧ allF c k = true ∧ Below w.heap.size w wr) (fun i _ => n - (intOf i).toNat)
  case atStart => exact ⟨0, Nat.zero_le _, rfl, rfl, Below.refl _ _⟩
  case round =>
    obtain ⟨k, hk, rfl, hall, hbel⟩ := hrel
    have HA := Lib.hid hall; clear hall
    by_cases hlt : k < n
    · obtain rfl := H5.out (by omega)
      obtain ⟨x, e1, fx, hb⟩ := at_y H6.out hlt hbel
      obtain ⟨A1, hA1⟩ : ∃ A, finC (c k) = A := ⟨_, rfl⟩
      have HX := Lib.hid (show allF c (k + 1) = (allF c k && A1) by rw [← hA1]; rfl)
      have HB := Lib.hid hbel; clear hbel
      have HC := Lib.hid (impl_fin x _ wr fx)
      rw [hA1] at HC
      clear hA1
      cases A1
      · go_wp2_with fail
        refine HC.out.mono ?_
        rintro e w' ⟨rfl, hb⟩
        go_wp2
        go_ret
        exact ⟨by rw [allF_le (k := k + 1) (by rw [HX.out, HA.out]; rfl) (by omega)]; rfl, HB.out.trans (hb.mono HB.out.size)⟩
      · go_wp2_with fail
        refine HC.out.mono ?_
        rintro e w' ⟨rfl, hb⟩
        go_wp2
        go_roundw
        case rel => exact ⟨k + 1, by omega, by go_num, by rw [HX.out, HA.out]; rfl, HB.out.trans (hb.mono HB.out.size)⟩
        case measure => simp [intOf]; omega
    · obtain rfl : n = k := by omega
      have HB := Lib.hid hbel; clear hbel
      go_wp2
      go_ret
      exact ⟨by rw [HA.out]; first | rfl | (simp; omega), HB.out⟩

set_option maxHeartbeats 1600000 in
theorem impl_valid (W H : Int) (a : Option Addr) (n cap : Nat) (c : Nat → Option Nat) (w : World) (h : IsY w a n cap c) (A : Bool) (hA : okB W H n c = A) : Calls Try.prog 49 #[bV W H a n cap] w (RetD (.bool A) w) := by
  have hn : n ≤ 9223372036854775807 := by have h1 := h.1; have h2 := h.2.1; unfold maxLen at h2; omega
  have HL := Lib.hid (fun w' (hb : Below w.heap.size w w') => impl_all a n cap c w' (h.later hb))
  clear h
  unfold okB at hA
  cases h1 : sideB W
  · rw [h1] at hA
    obtain rfl : A = false := by rw [← hA]; rfl
    clear hA
    go_enter Try.func49, Try.ntmps49
    go_wp2_with (go_at_call 89; refine (impl_side _ _).mono ?_; rintro e w1 ⟨rfl, rfl⟩)
    go_ret
    exact ⟨rfl, by (repeat' first | exact Below.refl _ _ | (refine Below.setCell ?_ (by first | omega | (simp; omega) | simp) _) | (refine below_drewN ?_ _) | (refine Below.alloc ?_ (by first | omega | (simp; omega) | simp) _) | (refine Below.trans ?_ (Below.mono (by assumption) (by first | omega | (simp; omega) | simp))))⟩
  cases h2 : sideB H
  · rw [h1, h2] at hA
    obtain rfl : A = false := by rw [← hA]; rfl
    clear hA
    go_enter Try.func49, Try.ntmps49
    go_wp2_with (go_at_call 89; refine (impl_side _ _).mono ?_; rintro e w1 ⟨rfl, rfl⟩)
    go_ret
    exact ⟨rfl, by (repeat' first | exact Below.refl _ _ | (refine Below.setCell ?_ (by first | omega | (simp; omega) | simp) _) | (refine below_drewN ?_ _) | (refine Below.alloc ?_ (by first | omega | (simp; omega) | simp) _) | (refine Below.trans ?_ (Below.mono (by assumption) (by first | omega | (simp; omega) | simp))))⟩
  obtain ⟨hp0, hp1⟩ := mul_bd h1 h2
  rw [h1, h2] at hA
  by_cases h3 : (n : Int) = W * H
  · rw [decide_eq_true h3] at hA
    have hA' : allF c n = A := hA
    rw [hA'] at HL
    have hd : ((n : Int) != W * H) = false := by rw [h3]; simp
    clear hA hA' h3
    cases A
    all_goals
      go_enter Try.func49, Try.ntmps49
      go_wp2_with (first | (go_at_call 89; refine (impl_side _ _).mono ?_; rintro e w1 ⟨rfl, rfl⟩) | (go_at_call 81; refine (HL.out _ (by (repeat' first | exact Below.refl _ _ | (refine Below.setCell ?_ (by first | omega | (simp; omega) | simp) _) | (refine below_drewN ?_ _) | (refine Below.alloc ?_ (by first | omega | (simp; omega) | simp) _) | (refine Below.trans ?_ (Below.mono (by assumption) (by first | omega | (simp; omega) | simp)))))).mono ?_; rintro e w1 ⟨rfl, hb1⟩))
      go_ret
      exact ⟨rfl, by (repeat' first | exact Below.refl _ _ | (refine Below.setCell ?_ (by first | omega | (simp; omega) | simp) _) | (refine below_drewN ?_ _) | (refine Below.alloc ?_ (by first | omega | (simp; omega) | simp) _) | (refine Below.trans ?_ (Below.mono (by assumption) (by first | omega | (simp; omega) | simp))))⟩
  · rw [decide_eq_false h3] at hA
    obtain rfl : A = false := by rw [← hA]; rfl
    have hd : ((n : Int) != W * H) = true := by simpa using h3
    clear hA h3
    go_enter Try.func49, Try.ntmps49
    go_wp2_with (go_at_call 89; refine (impl_side _ _).mono ?_; rintro e w1 ⟨rfl, rfl⟩)
    go_ret
    exact ⟨rfl, by (repeat' first | exact Below.refl _ _ | (refine Below.setCell ?_ (by first | omega | (simp; omega) | simp) _) | (refine below_drewN ?_ _) | (refine Below.alloc ?_ (by first | omega | (simp; omega) | simp) _) | (refine Below.trans ?_ (Below.mono (by assumption) (by first | omega | (simp; omega) | simp))))⟩

set_option maxHeartbeats 3200000 in
theorem spec_is (G : Nat) (W H : Int) (a : Option Addr) (n cap : Nat) (c : Nat → Option Nat) (w : World) (e0 : w.cell? ⟨G, 0, none⟩ = some (.int .i64 W)) (e1 : w.cell? ⟨G, 1, none⟩ = some (.int .i64 H)) (e2 : w.cell? ⟨G, 2, none⟩ = some (.slice a n cap)) (h : IsY w a n cap c) (A : Bool) (hA : okB W H n c = A) : Calls Try.prog 47 #[.pointer (some ⟨G, 0, none⟩)] w (RetD (.bool A) w) := by
  have hG := block_lt_of_cell e0
  obtain ⟨h2, h3, b, off, h5, h6⟩ := h
  have H5 := Lib.hid h5; clear h5
  have H6 := Lib.hid h6; clear h6
  unfold maxLen at h3
  have HS := Lib.hid (spec_size W H)
  have HE := Lib.hid e2
  unfold okB at hA
  cases hs : (sideB W && sideB H)
  · rw [hs] at HS hA
    obtain rfl : A = false := by rw [← hA]; rfl
    clear hA hs
    go_enter Try.func47, Try.ntmps47
    go_wp2
    go_quiet ((go_at_call 86; exact quiet_eq (HS.out _)))
    go_wp2
    go_ret
    exact ⟨rfl, by (repeat' first | exact Below.refl _ _ | (refine Below.setCell ?_ (by first | omega | (simp; omega) | simp) _) | (refine below_drewN ?_ _) | (refine Below.alloc ?_ (by first | omega | (simp; omega) | simp) _) | (refine Below.trans ?_ (Below.mono (by assumption) (by first | omega | (simp; omega) | simp))))⟩
  rw [hs] at HS hA
  simp only [Bool.and_eq_true] at hs
  obtain ⟨hp0, hp1⟩ := mul_bd hs.1 hs.2
  clear hs
  by_cases h3' : (n : Int) = W * H
  · rw [decide_eq_true h3'] at hA
    have hA' : allF c n = A := hA
    have hd : ((n : Int) != W * H) = false := by rw [h3']; simp
    have hn : n ≤ 256 := by omega
    have HA := Lib.hid hA'
    clear hA hA' h3'
    go_enter Try.func47, Try.ntmps47
    go_wp2
    go_quiet ((go_at_call 86; exact quiet_eq (HS.out _)))
    go_wp2
    clear e0 e1 e2 hd hp0 hp1
    go_loopw [3] (fun i wr => ∃ k : Nat, k ≤ n ∧ i = .int .i64 k ∧ allF c k = true ∧ Below w.heap.size w wr) (fun i _ => n - (intOf i).toNat)
    case atStart => exact ⟨0, Nat.zero_le _, rfl, rfl, by (repeat' first | exact Below.refl _ _ | (refine Below.setCell ?_ (by first | omega | (simp; omega) | simp) _) | (refine below_drewN ?_ _) | (refine Below.alloc ?_ (by first | omega | (simp; omega) | simp) _) | (refine Below.trans ?_ (Below.mono (by assumption) (by first | omega | (simp; omega) | simp))))⟩
    case round =>
      obtain ⟨k, hk, rfl, hall, hbel⟩ := hrel
      have HAL := Lib.hid hall; clear hall
      have e2 : wr.cell? ⟨G, 2, none⟩ = some (.slice a n cap) := by rw [hbel.cell hG]; exact HE.out
      by_cases hlt : k < n
      · obtain rfl := H5.out (by omega)
        obtain ⟨x, e1, fx, hb⟩ := at_y H6.out hlt hbel
        obtain ⟨A1, hA1⟩ : ∃ A, finC (c k) = A := ⟨_, rfl⟩
        have HX := Lib.hid (show allF c (k + 1) = (allF c k && A1) by rw [← hA1]; rfl)
        have HB := Lib.hid hbel; clear hbel
        have HC := Lib.hid (spec_fin x _ wr fx)
        rw [hA1] at HC
        clear hA1
        cases A1
        · go_wp2_with fail
          refine HC.out.mono ?_
          rintro e w' ⟨rfl, hb⟩
          go_wp2
          go_ret
          exact ⟨by rw [← HA.out, allF_le (k := k + 1) (by rw [HX.out, HAL.out]; rfl) (by omega)]; rfl, HB.out.trans (hb.mono HB.out.size)⟩
        · go_wp2_with fail
          refine HC.out.mono ?_
          rintro e w' ⟨rfl, hb⟩
          go_wp2
          go_roundw
          case rel => exact ⟨k + 1, by omega, by go_num, by rw [HX.out, HAL.out]; rfl, HB.out.trans (hb.mono HB.out.size)⟩
          case measure => simp [intOf]; omega
      · obtain rfl : n = k := by omega
        have HB := Lib.hid hbel; clear hbel
        go_wp2
        go_ret
        exact ⟨by rw [← HA.out, HAL.out]; rfl, HB.out⟩
  · rw [decide_eq_false h3'] at hA
    obtain rfl : A = false := by rw [← hA]; rfl
    have hd : ((n : Int) != W * H) = true := by simpa using h3'
    have hn : n ≤ 9223372036854775807 := by omega
    clear hA h3'
    go_enter Try.func47, Try.ntmps47
    go_wp2
    go_quiet ((go_at_call 86; exact quiet_eq (HS.out _)))
    go_wp2
    go_ret
    exact ⟨rfl, by (repeat' first | exact Below.refl _ _ | (refine Below.setCell ?_ (by first | omega | (simp; omega) | simp) _) | (refine below_drewN ?_ _) | (refine Below.alloc ?_ (by first | omega | (simp; omega) | simp) _) | (refine Below.trans ?_ (Below.mono (by assumption) (by first | omega | (simp; omega) | simp))))⟩

end Ba
end Go.Proofs.Ytjkkefbfhapblab
