/- Sines by the classes of their arguments. -/
import Derived.Test.YtggklnanhiomjabRows
import Derived.Test.YtggklnanhiomjabSineB
import Derived.Test.YtggklnanhiomjabRate
import Derived.Test.YtggklnanhiomjabAbs
namespace Go.Proofs.Ytggklnanhiomjab
set_option linter.unusedSimpArgs false
set_option linter.unusedVariables false
open Go.RowKit
namespace Sn
open Fl Rate

open Turn Flat in
theorem sine_both (x : Nat) (hx : x < 4294967296) : ∃ R, (∀ w, Calls Try.prog 57 #[.float .f32 x] w (RetF .f32 R w)) ∧ (∀ w, Calls Try.prog 60 #[.float .f32 x] w (RetF .f32 R w)) := by
  cases hf : fin .f32 x
  · exact ⟨none, fun w => spec_turns x none w Fits.none hx fun x' w f => spec_nan x' _ w f (by rw [nonfin_sub hf]; rfl), fun w => impl_nan x w hx hf⟩
  · obtain ⟨s, m, p, hd⟩ := decode_fin hf
    have hc : cl .f32 x = some x := cl_some_iff.2 (by rw [hd]; rfl)
    obtain ⟨b, m', p', he, hdb, _⟩ := widen_num hd
    have hcb : convC .f32 .f64 (cl .f32 x) = some b := by rw [hc]; exact he
    have hnum : ∀ x', Fr .f64 x' (convC .f32 .f64 (cl .f32 x)) → ∃ s m p, FloatKind.f64.decode x' = .number s m p := by
      intro x' f
      rw [hcb] at f
      rw [eq_of_some f]
      exact ⟨_, _, _, hdb⟩
    have h0 : cmpC .neq (ord .f64 (op2 .sub .f64 (some b) (some b)) (some 0)) = false := by rw [fin_sub hdb]; decide +kernel
    obtain ⟨t1, t2, t3⟩ := big_tests hdb
    by_cases hbig : 2 ^ 1126 ≤ (val (FloatKind.f64.decode b)).natAbs
    · refine ⟨some 0, fun w => ?_, fun w => impl_big x w hx hf hnum (by rw [hcb, t3]; exact decide_eq_true hbig)⟩
      have h := spec_turns x (some 0) w (.inr fun b hb _ => by cases hb; decide +kernel) hx fun x' w f => by
        rw [hcb] at f
        refine spec_big x' _ w f h0 (decide (((2 ^ 1126 : Nat) : Int) ≤ val (FloatKind.f64.decode b))) t1 ?_
        rw [t2]
        have hpos := Nat.two_pow_pos 1126
        generalize val (FloatKind.f64.decode b) = V at *
        generalize 2 ^ 1126 = K at *
        by_cases hV : ((K : Nat) : Int) ≤ V
        · rw [decide_eq_true hV]; exact decide_eq_false (by omega)
        · rw [decide_eq_false hV]; exact decide_eq_true (by omega)
      have e : convC .f64 .f32 (some 0) = some 0 := by decide +kernel
      rw [e] at h
      exact h
    · have hlt := Nat.lt_of_not_le hbig
      have hB := sine_args hdb hlt
      have hB' := hB
      obtain ⟨_, e, k⟩ := hB'
      cases e
      have hn := (whole_ok k).1
      obtain ⟨neg, hneg⟩ : ∃ neg, cmpC .lss (ord .f64 (rawC (some b)) (some 0)) = neg := ⟨_, rfl⟩
      obtain ⟨below, hbelow⟩ : ∃ below, cmpC .geq (ord .f64 (partC neg (some b)) half) = below := ⟨_, rfl⟩
      obtain ⟨high, hhigh⟩ : ∃ high, cmpC .gtr (ord .f64 (lowC below (partC neg (some b))) quarter) = high := ⟨_, rfl⟩
      have sb := end_bd (back_bd (low_bd (part_bd hB neg) below) high)
      have sf : Fits .f64 .f32 (partSine below high (partC neg (some b))) := (sign_bd sb below).fits (by omega)
      refine ⟨convC .f64 .f32 (partSine below high (partC neg (some b))), fun w => spec_turns x _ w sf hx fun x' w f => ?_, fun w => impl_main x _ w hx hf hnum sf (by rw [hcb, t3]; exact decide_eq_false hbig) fun x' w f => ?_⟩
      · rw [hcb] at f
        have hx' := eq_of_some f
        subst hx'
        exact spec_sine _ _ w f hn _ _ _ h0 (by rw [t1]; exact decide_eq_false (by generalize val (FloatKind.f64.decode x') = V at *; generalize 2 ^ 1126 = K at *; omega)) (by rw [t2]; exact decide_eq_false (by generalize val (FloatKind.f64.decode x') = V at *; generalize 2 ^ 1126 = K at *; omega)) hneg hbelow hhigh sb
      · rw [hcb] at f
        have hx' := eq_of_some f
        subst hx'
        exact impl_sine _ _ w f hn _ _ _ hneg hbelow hhigh sb

open Turn Flat in
theorem sine_fr (c : Option Nat) : ∃ R, (∀ x w, Fr .f32 x c → Calls Try.prog 57 #[.float .f32 x] w (RetF .f32 R w)) ∧ (∀ x w, Fr .f32 x c → Calls Try.prog 60 #[.float .f32 x] w (RetF .f32 R w)) ∧ (finC c = false → R = none) := by
  cases hf : finC c
  · refine ⟨none, fun x w f => ?_, fun x w f => ?_, fun _ => rfl⟩
    · have ff : fin .f32 x = false := by rw [fin_cl f]; exact hf
      exact spec_turns x none w Fits.none f.2 fun x' w f => spec_nan x' _ w f (by rw [nonfin_sub ff]; rfl)
    · exact impl_nan x w f.2 (by rw [fin_cl f]; exact hf)
  · cases c with
    | none => cases hf
    | some b =>
      by_cases hb : b < 4294967296
      · obtain ⟨R, h1, h2⟩ := sine_both b hb
        refine ⟨R, fun x w f => ?_, fun x w f => ?_, fun h => by cases h⟩
        · rw [eq_of_some f]; exact h1 w
        · rw [eq_of_some f]; exact h2 w
      · refine ⟨none, fun x w f => ?_, fun x w f => ?_, fun h => by cases h⟩
        · have e := eq_of_some f; have h := f.2; exact absurd (e ▸ h) hb
        · have e := eq_of_some f; have h := f.2; exact absurd (e ▸ h) hb
end Sn
end Go.Proofs.Ytggklnanhiomjab
