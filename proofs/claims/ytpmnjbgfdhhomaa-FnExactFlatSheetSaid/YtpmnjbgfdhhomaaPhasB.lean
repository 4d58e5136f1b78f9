/- A point of the unit circle: both sides answer one class. -/
import Derived.Test.YtpmnjbgfdhhomaaPhas
import Derived.Test.YtpmnjbgfdhhomaaLogB
import Derived.Test.YtpmnjbgfdhhomaaSame
namespace Go.Proofs.Ytpmnjbgfdhhomaa
set_option linter.unusedSimpArgs false
set_option linter.unusedVariables false
open Go.RowKit
namespace Turn
open Fl Flat

theorem inf_word64 {x : Nat} (hx : x < 18446744073709551616) {s : Bool} (h : FloatKind.f64.decode x = .infinity s) : x = if s then 18442240474082181120 else 9218868437227405312 := by
  change Ieee.double.read x = _ at h
  unfold Ieee.Format.read at h
  simp only [show Ieee.double.signWeight = 9223372036854775808 from by decide, show Ieee.double.binade = 4503599627370496 from by decide, show Ieee.double.infRung = 9218868437227405312 from by decide] at h
  split at h
  · cases h
  · split at h
    · cases h
    · split at h
      · next h3 =>
        cases h
        by_cases hs : (x / 9223372036854775808 % 2 == 1) = true
        · rw [if_pos hs]
          have : x / 9223372036854775808 % 2 = 1 := by simpa using hs
          omega
        · rw [if_neg hs]
          have : ¬ x / 9223372036854775808 % 2 = 1 := by simpa using hs
          omega
      · cases h

theorem both_l01 (x : Nat) (hx : x < 18446744073709551616) : ∃ A B, (∀ w, Calls Try.prog 43 #[.float .f64 x] w (RetC .f32 A B w)) ∧ (∀ w, Calls Try.prog 21 #[.float .f64 x] w (RetC .f32 A B w)) := by
  cases hd : FloatKind.f64.decode x with
  | nan s u =>
    have f : Fr .f64 x none := ⟨cl_none_iff.2 (by rw [hd]; rfl), hx⟩
    exact ⟨none, none, fun w => spec_pnan x none w f rfl, fun w => impl_pnan x none w f true rfl (fun h => by cases h)⟩
  | infinity s =>
    have hw := inf_word64 hx hd
    have hu : ∃ y, x = y ∧ (y = 18442240474082181120 ∨ y = 9218868437227405312) := ⟨x, rfl, by cases s <;> simp at hw <;> omega⟩
    obtain ⟨y, rfl, hy⟩ := hu
    have f : Fr .f64 x (some x) := ⟨cl_some_iff.2 (by rw [hd]; rfl), hx⟩
    have fm : Fr .f64 (x % 9223372036854775808) (some 9218868437227405312) := by rcases hy with rfl | rfl <;> exact ⟨by decide +kernel, by decide⟩
    refine ⟨none, none, fun w => spec_pnan x _ w f (by rcases hy with rfl | rfl <;> decide +kernel), fun w => impl_pnan x _ w f false (by rcases hy with rfl | rfl <;> decide +kernel) (fun _ w => isinf_zero x w hx _ fm true (by decide +kernel))⟩
  | number s m p =>
    have f : Fr .f64 x (some x) := ⟨cl_some_iff.2 (by rw [hd]; rfl), hx⟩
    have hnum : ∃ s m p, FloatKind.f64.decode x = .number s m p := ⟨s, m, p, hd⟩
    have n1 := Log.eq_self hd
    have h0 : cmpC .neq (ord .f64 (op2 .sub .f64 (some x) (some x)) (some 0)) = false := by rw [fin_sub hd]; decide +kernel
    have fa : Fr .f64 (x % 9223372036854775808) (some (x % 9223372036854775808)) := ⟨cl_some_iff.2 (by rw [read_abs hd]; rfl), Nat.lt_of_lt_of_le (Nat.mod_lt _ (by decide)) (by decide)⟩
    have hinf := fun w => isinf_zero x w hx _ fa false (Log.not_max (read_abs hd))
    obtain ⟨t1, t2, t3⟩ := big_tests hd
    by_cases hbig : 2 ^ 1126 ≤ (val (FloatKind.f64.decode x)).natAbs
    · refine ⟨some 1065353216, some 0, fun w => ?_, fun w => impl_pbig x _ w f hnum n1 hinf (by rw [t3]; exact decide_eq_true hbig)⟩
      refine spec_pbig x _ w f h0 (decide (((2 ^ 1126 : Nat) : Int) ≤ val (FloatKind.f64.decode x))) t1 ?_
      rw [t2]
      have hpos := Nat.two_pow_pos 1126
      generalize val (FloatKind.f64.decode x) = V at *
      generalize 2 ^ 1126 = K at *
      by_cases hV : ((K : Nat) : Int) ≤ V
      · rw [decide_eq_true hV]; exact decide_eq_false (by omega)
      · rw [decide_eq_false hV]; exact decide_eq_true (by omega)
    · have hlt := Nat.lt_of_not_le hbig
      have hB := sine_args hd hlt
      have hB' := hB
      obtain ⟨_, e, k⟩ := hB'
      cases e
      have hn := (whole_ok k).1
      obtain ⟨neg, hneg⟩ : ∃ neg, cmpC .lss (ord .f64 (rawC (some x)) (some 0)) = neg := ⟨_, rfl⟩
      obtain ⟨V, hV⟩ := part_val hB hneg
      obtain ⟨K, hK, hcmp, hpb⟩ := quarters hV
      refine ⟨_, _, fun w => spec_pmain x _ w f hn h0 (by rw [t1]; exact decide_eq_false (by generalize val (FloatKind.f64.decode x) = V at *; generalize 2 ^ 1126 = K at *; omega)) (by rw [t2]; exact decide_eq_false (by generalize val (FloatKind.f64.decode x) = V at *; generalize 2 ^ 1126 = K at *; omega)) neg hneg _ K hK hcmp hpb rfl, fun w => ?_⟩
      exact impl_pmain x _ w f hnum n1 hinf (by rw [t3]; exact decide_eq_false hbig) _ K hK hcmp hpb (fun w => impl_part x _ w f hn neg hneg)

theorem same_complex (x y x' y' : Nat) (c d : Option Nat) (w : World) (f1 : Fr .f64 x c) (f2 : Fr .f64 y d) (f3 : Fr .f64 x' c) (f4 : Fr .f64 y' d) : Calls Try.prog 69 #[.complex .f64 x y, .complex .f64 x' y'] w (RetD (.bool true) w) := by
  go_enter Try.func69, Try.ntmps69
  go_wp2_with (first | (go_at_call 70; refine (Same.same_true _ _ _ _ (by assumption) (by assumption)).mono ?_; rintro e w' ⟨n, rfl, rfl⟩))
  go_ret
  exact ⟨rfl, by (repeat' first | exact Below.refl _ _ | (refine Below.setCell ?_ (by first | omega | (simp; omega) | simp) _) | (refine below_drewN ?_ _) | (refine Below.alloc ?_ (by first | omega | (simp; omega) | simp) _) | (refine Below.trans ?_ (Below.mono (by assumption) (by first | omega | (simp; omega) | simp))))⟩
end Turn
end Go.Proofs.Ytpmnjbgfdhhomaa
