/- The sine of a number of turns: both sides answer one class. -/
import Derived.Test.YtaacneppnpognaaSine
import Derived.Test.YtaacneppnpognaaFinite
import Derived.Test.YtaacneppnpognaaFin
namespace Go.Proofs.Ytaacneppnpognaa
set_option linter.unusedSimpArgs false
set_option linter.unusedVariables false
open Go.RowKit
namespace Turn
open Fl Flat

theorem spec_nan (x : Nat) (c : Option Nat) (w : World) (f : Fr .f64 x c) (h0 : cmpC .neq (ord .f64 (op2 .sub .f64 c c) (some 0)) = true) : Calls Try.prog 60 #[.float .f64 x] w (RetF .f64 none w) := by
  have f0 : Fr .f64 0 (some 0) := Fr.const (by decide +kernel) (by decide)
  have hn : Fr .f64 9221120237041090561 none := ⟨by decide +kernel, by decide⟩
  have hb := float64frombits_run 9221120237041090561
  have hnan : ∀ w, Calls Try.prog 71 #[] w (RetF .f64 none w) := by
    intro w
    go_enter Try.func71, Try.ntmps71
    go_wp2
    go_ret
    exact ⟨_, rfl, hn, Below.refl _ _⟩
  have HN := Lib.hid hnan
  clear hnan hb hn
  go_enter Try.func60, Try.ntmps60
  go_wp2_with (first | (refine Fl.wpList_cmp rfl rfl rfl rfl rfl (by assumption) (by assumption) ?_; try simp only [h0]) | (refine Fl.wpList_fl rfl rfl rfl rfl rfl (by assumption) (by assumption) ?_; intro r n hr) | (go_at_call 71; refine (HN.out _).mono ?_; rintro e w' ⟨r, rfl, hr, hb⟩; have hz := hb.size; try simp only [World.size_alloc, World.size_setCell, World.heap_drewN, World.size_drew] at hz; obtain ⟨hc, hf⟩ := Fl.bcell hb; try (have g : w.heap.size < w'.heap.size := by omega); try (have g : w.heap.size ≤ w'.heap.size := by omega)))
  go_ret
  exact ⟨_, rfl, by assumption, by (repeat' first | exact Below.refl _ _ | (refine Below.setCell ?_ (by first | omega | (simp; omega) | simp) _) | (refine below_drewN ?_ _) | (refine Below.alloc ?_ (by first | omega | (simp; omega) | simp) _) | (refine Below.trans ?_ (Below.mono (by assumption) (by first | omega | (simp; omega) | simp))))⟩

theorem spec_big (x : Nat) (c : Option Nat) (w : World) (f : Fr .f64 x c) (h0 : cmpC .neq (ord .f64 (op2 .sub .f64 c c) (some 0)) = false) (up : Bool) (g1 : cmpC .geq (ord .f64 c (some 4841369599423283200)) = up) (g2 : cmpC .leq (ord .f64 c (some 14064741636278059008)) = !up) :
    Calls Try.prog 60 #[.float .f64 x] w (RetF .f64 (some 0) w) := by
  have f0 : Fr .f64 0 (some 0) := Fr.const (by decide +kernel) (by decide)
  have fu : Fr .f64 4841369599423283200 (some 4841369599423283200) := Fr.const (by decide +kernel) (by decide)
  have fd : Fr .f64 14064741636278059008 (some 14064741636278059008) := Fr.const (by decide +kernel) (by decide)
  cases up
  all_goals simp only [Bool.not_true, Bool.not_false] at g2
  all_goals
    go_enter Try.func60, Try.ntmps60
    go_wp2_with (first | (refine Fl.wpList_cmp rfl rfl rfl rfl rfl (by assumption) (by assumption) ?_; try simp only [h0, g1, g2]) | (refine Fl.wpList_fl rfl rfl rfl rfl rfl (by assumption) (by assumption) ?_; intro r n hr))
    go_ret
    exact ⟨_, rfl, f0, by (repeat' first | exact Below.refl _ _ | (refine Below.setCell ?_ (by first | omega | (simp; omega) | simp) _) | (refine below_drewN ?_ _) | (refine Below.alloc ?_ (by first | omega | (simp; omega) | simp) _) | (refine Below.trans ?_ (Below.mono (by assumption) (by first | omega | (simp; omega) | simp))))⟩

theorem spec_turns (x : Nat) (R : Option Nat) (w : World) (hf : Fits .f64 .f32 R) (hx : x < 4294967296)
    (hw : ∀ x' w, Fr .f64 x' (convC .f32 .f64 (cl .f32 x)) → Calls Try.prog 60 #[.float .f64 x'] w (RetF .f64 R w)) : Calls Try.prog 29 #[.float .f32 x] w (RetF .f32 (convC .f64 .f32 R) w) := by
  have f : Fr .f32 x (cl .f32 x) := ⟨rfl, hx⟩
  have HW := Lib.hid hw
  have HF := Lib.hid hf
  clear hw hf
  go_enter Try.func29, Try.ntmps29
  go_wp2_with (first | (refine Fl.wpList_conv rfl rfl rfl (by kernel_rfl) Try.underlying25 (by assumption) (Fl.fits_wide _) ?_; intro r n hr) | (go_at_call 60; refine (HW.out _ _ (by assumption)).mono ?_; rintro e w' ⟨r, rfl, hr, hb⟩; have hz := hb.size; try simp only [World.size_alloc, World.size_setCell, World.heap_drewN, World.size_drew] at hz; obtain ⟨hc, hf⟩ := Fl.bcell hb; try (have g : w.heap.size < w'.heap.size := by omega); try (have g : w.heap.size ≤ w'.heap.size := by omega)) | (go_at_call 59; refine (Root.spec_narrow _ _ _ (by assumption) HF.out).mono ?_; rintro e w' ⟨r, rfl, hr, hb⟩; have hz := hb.size; try simp only [World.size_alloc, World.size_setCell, World.heap_drewN, World.size_drew] at hz; obtain ⟨hc, hf⟩ := Fl.bcell hb; try (have g : w.heap.size < w'.heap.size := by omega); try (have g : w.heap.size ≤ w'.heap.size := by omega)))
  go_ret
  exact ⟨_, rfl, by assumption, by (repeat' first | exact Below.refl _ _ | (refine Below.setCell ?_ (by first | omega | (simp; omega) | simp) _) | (refine below_drewN ?_ _) | (refine Below.alloc ?_ (by first | omega | (simp; omega) | simp) _) | (refine Below.trans ?_ (Below.mono (by assumption) (by first | omega | (simp; omega) | simp))))⟩

theorem top_turns (x : Nat) (R : Option Nat) (w : World) (h : ∀ w, Calls Try.prog 29 #[.float .f32 x] w (RetF .f32 R w)) : Calls Try.prog 10 #[.float .f32 x] w (RetF .f32 R w) := by
  have HW := Lib.hid h
  clear h
  go_enter Try.func10, Try.ntmps10
  go_wp2_with (first | (go_at_call 29; refine (HW.out _).mono ?_; rintro e w' ⟨r, rfl, hr, hb⟩; have hz := hb.size; try simp only [World.size_alloc, World.size_setCell, World.heap_drewN, World.size_drew] at hz; obtain ⟨hc, hf⟩ := Fl.bcell hb; try (have g : w.heap.size < w'.heap.size := by omega); try (have g : w.heap.size ≤ w'.heap.size := by omega)))
  go_ret
  exact ⟨_, rfl, by assumption, by (repeat' first | exact Below.refl _ _ | (refine Below.setCell ?_ (by first | omega | (simp; omega) | simp) _) | (refine below_drewN ?_ _) | (refine Below.alloc ?_ (by first | omega | (simp; omega) | simp) _) | (refine Below.trans ?_ (Below.mono (by assumption) (by first | omega | (simp; omega) | simp))))⟩

theorem impl_nan (x : Nat) (w : World) (hx : x < 4294967296) (ff : fin .f32 x = false) : Calls Try.prog 11 #[.float .f32 x] w (RetF .f32 none w) := by
  have hn : Fr .f32 2143289344 none := ⟨by decide +kernel, by decide⟩
  have hb := Bits.frombits_run 2143289344
  have hnan : ∀ w, Calls Try.prog 31 #[] w (RetF .f32 none w) := by
    intro w
    go_enter Try.func31, Try.ntmps31
    go_wp2
    go_ret
    exact ⟨_, rfl, hn, Below.refl _ _⟩
  have HN := Lib.hid hnan
  clear hnan hb hn
  go_enter Try.func11, Try.ntmps11
  go_wp2_with (first | (go_at_call 30; refine (Finite.impl_finite _ _ (by assumption)).mono ?_; rintro e w' ⟨rfl, rfl⟩) | (go_at_call 31; refine (HN.out _).mono ?_; rintro e w' ⟨r, rfl, hr, hb⟩; have hz := hb.size; try simp only [World.size_alloc, World.size_setCell, World.heap_drewN, World.size_drew] at hz; obtain ⟨hc, hf⟩ := Fl.bcell hb; try (have g : w.heap.size < w'.heap.size := by omega); try (have g : w.heap.size ≤ w'.heap.size := by omega)))
  go_ret
  exact ⟨_, rfl, by assumption, by (repeat' first | exact Below.refl _ _ | (refine Below.setCell ?_ (by first | omega | (simp; omega) | simp) _) | (refine below_drewN ?_ _) | (refine Below.alloc ?_ (by first | omega | (simp; omega) | simp) _) | (refine Below.trans ?_ (Below.mono (by assumption) (by first | omega | (simp; omega) | simp))))⟩

theorem impl_big (x : Nat) (w : World) (hx : x < 4294967296) (ff : fin .f32 x = true) (hd : ∀ x', Fr .f64 x' (convC .f32 .f64 (cl .f32 x)) → ∃ s m p, FloatKind.f64.decode x' = .number s m p)
    (ha : cmpC .geq (ord .f64 ((convC .f32 .f64 (cl .f32 x)).map fun b => b % 9223372036854775808) (some 4841369599423283200)) = true) : Calls Try.prog 11 #[.float .f32 x] w (RetF .f32 (some 0) w) := by
  have f : Fr .f32 x (cl .f32 x) := ⟨rfl, hx⟩
  have z0 : Fr .f32 0 (some 0) := Fr.const (by decide +kernel) (by decide)
  have HD := Lib.hid hd
  clear hd
  have fu : Fr .f64 4841369599423283200 (some 4841369599423283200) := Fr.const (by decide +kernel) (by decide)
  have fd : Fr .f64 14064741636278059008 (some 14064741636278059008) := Fr.const (by decide +kernel) (by decide)
  go_enter Try.func11, Try.ntmps11
  go_wp2_with (first | (go_at_call 30; refine (Finite.impl_finite _ _ (by assumption)).mono ?_; rintro e w' ⟨rfl, rfl⟩) | (refine Fl.wpList_conv rfl rfl rfl (by kernel_rfl) Try.underlying25 (by assumption) (Fl.fits_wide _) ?_; intro r n hr) | (go_at_call 32; refine (abs_walk _ _ _ (by assumption) (HD.out _ (by assumption))).mono ?_; rintro e w' ⟨r, rfl, hr, hb⟩; have hz := hb.size; try simp only [World.size_alloc, World.size_setCell, World.heap_drewN, World.size_drew] at hz) | (refine Fl.wpList_cmp rfl rfl rfl rfl rfl (by assumption) (by assumption) ?_; try simp only [ha]))
  go_ret
  exact ⟨_, rfl, z0, by (repeat' first | exact Below.refl _ _ | (refine Below.setCell ?_ (by first | omega | (simp; omega) | simp) _) | (refine below_drewN ?_ _) | (refine Below.alloc ?_ (by first | omega | (simp; omega) | simp) _) | (refine Below.trans ?_ (Below.mono (by assumption) (by first | omega | (simp; omega) | simp))))⟩

theorem impl_main (x : Nat) (R : Option Nat) (w : World) (hx : x < 4294967296) (ff : fin .f32 x = true) (hd : ∀ x', Fr .f64 x' (convC .f32 .f64 (cl .f32 x)) → ∃ s m p, FloatKind.f64.decode x' = .number s m p) (hf : Fits .f64 .f32 R)
    (ha : cmpC .geq (ord .f64 ((convC .f32 .f64 (cl .f32 x)).map fun b => b % 9223372036854775808) (some 4841369599423283200)) = false)
    (hw : ∀ x' w, Fr .f64 x' (convC .f32 .f64 (cl .f32 x)) → Calls Try.prog 34 #[.float .f64 x'] w (RetF .f64 R w)) : Calls Try.prog 11 #[.float .f32 x] w (RetF .f32 (convC .f64 .f32 R) w) := by
  have f : Fr .f32 x (cl .f32 x) := ⟨rfl, hx⟩
  have HD := Lib.hid hd
  have HW := Lib.hid hw
  have HF := Lib.hid hf
  clear hd hw hf
  have fu : Fr .f64 4841369599423283200 (some 4841369599423283200) := Fr.const (by decide +kernel) (by decide)
  have fd : Fr .f64 14064741636278059008 (some 14064741636278059008) := Fr.const (by decide +kernel) (by decide)
  go_enter Try.func11, Try.ntmps11
  go_wp2_with (first | (go_at_call 30; refine (Finite.impl_finite _ _ (by assumption)).mono ?_; rintro e w' ⟨rfl, rfl⟩) | (refine Fl.wpList_conv rfl rfl rfl (by kernel_rfl) Try.underlying25 (by assumption) (Fl.fits_wide _) ?_; intro r n hr) | (go_at_call 32; refine (abs_walk _ _ _ (by assumption) (HD.out _ (by assumption))).mono ?_; rintro e w' ⟨r, rfl, hr, hb⟩; have hz := hb.size; try simp only [World.size_alloc, World.size_setCell, World.heap_drewN, World.size_drew] at hz) | (refine Fl.wpList_cmp rfl rfl rfl rfl rfl (by assumption) (by assumption) ?_; try simp only [ha]) | (go_at_call 34; refine (HW.out _ _ (by assumption)).mono ?_; rintro e w' ⟨r, rfl, hr, hb⟩; have hz := hb.size; try simp only [World.size_alloc, World.size_setCell, World.heap_drewN, World.size_drew] at hz; obtain ⟨hc, hf⟩ := Fl.bcell hb; try (have g : w.heap.size < w'.heap.size := by omega); try (have g : w.heap.size ≤ w'.heap.size := by omega)) | (go_at_call 33; refine (Root.impl_narrow _ _ _ (by assumption) HF.out).mono ?_; rintro e w' ⟨r, rfl, hr, hb⟩; have hz := hb.size; try simp only [World.size_alloc, World.size_setCell, World.heap_drewN, World.size_drew] at hz; obtain ⟨hc, hf⟩ := Fl.bcell hb; try (have g : w.heap.size < w'.heap.size := by omega); try (have g : w.heap.size ≤ w'.heap.size := by omega)))
  go_ret
  exact ⟨_, rfl, by assumption, by (repeat' first | exact Below.refl _ _ | (refine Below.setCell ?_ (by first | omega | (simp; omega) | simp) _) | (refine below_drewN ?_ _) | (refine Below.alloc ?_ (by first | omega | (simp; omega) | simp) _) | (refine Below.trans ?_ (Below.mono (by assumption) (by first | omega | (simp; omega) | simp))))⟩

/-- Both sides answer one class. -/
theorem both (x : Nat) (hx : x < 4294967296) : ∃ R, (∀ w, Calls Try.prog 10 #[.float .f32 x] w (RetF .f32 R w)) ∧ (∀ w, Calls Try.prog 11 #[.float .f32 x] w (RetF .f32 R w)) := by
  cases hf : fin .f32 x
  · exact ⟨none, fun w => top_turns x _ w fun w => spec_turns x none w Fits.none hx fun x' w f => spec_nan x' _ w f (by rw [nonfin_sub hf]; rfl), fun w => impl_nan x w hx hf⟩
  · obtain ⟨s, m, p, hd⟩ := decode_fin hf
    have hc : cl .f32 x = some x := cl_some_iff.2 (by rw [hd]; rfl)
    obtain ⟨b, m', p', he, hdb, _⟩ := widen_num hd
    have hcb : convC .f32 .f64 (cl .f32 x) = some b := by rw [hc]; exact he
    have hnum : ∀ x', Fr .f64 x' (convC .f32 .f64 (cl .f32 x)) → ∃ s m p, FloatKind.f64.decode x' = .number s m p := by
      intro x' f
      rw [hcb] at f
      rw [eq_of_some f]
      exact ⟨_, _, _, hdb⟩
    have h0 : cmpC .neq (ord .f64 (op2 .sub .f64 (some b) (some b)) (some 0)) = false := by rw [fin_sub hdb]; decide +kernel
    obtain ⟨t1, t2, t3⟩ := big_tests hdb
    by_cases hbig : 2 ^ 1126 ≤ (val (FloatKind.f64.decode b)).natAbs
    · refine ⟨some 0, fun w => top_turns x _ w fun w => ?_, fun w => impl_big x w hx hf hnum (by rw [hcb, t3]; exact decide_eq_true hbig)⟩
      have h := spec_turns x (some 0) w (.inr fun b hb _ => by cases hb; decide +kernel) hx fun x' w f => by
        rw [hcb] at f
        refine spec_big x' _ w f h0 (decide (((2 ^ 1126 : Nat) : Int) ≤ val (FloatKind.f64.decode b))) t1 ?_
        rw [t2]
        have hpos := Nat.two_pow_pos 1126
        generalize val (FloatKind.f64.decode b) = V at *
        generalize 2 ^ 1126 = K at *
        by_cases hV : ((K : Nat) : Int) ≤ V
        · rw [decide_eq_true hV]; exact decide_eq_false (by omega)
        · rw [decide_eq_false hV]; exact decide_eq_true (by omega)
      have e : convC .f64 .f32 (some 0) = some 0 := by decide +kernel
      rw [e] at h
      exact h
    · have hlt := Nat.lt_of_not_le hbig
      have hB := sine_args hdb hlt
      have hB' := hB
      obtain ⟨_, e, k⟩ := hB'
      cases e
      have hn := (whole_ok k).1
      obtain ⟨neg, hneg⟩ : ∃ neg, cmpC .lss (ord .f64 (rawC (some b)) (some 0)) = neg := ⟨_, rfl⟩
      obtain ⟨below, hbelow⟩ : ∃ below, cmpC .geq (ord .f64 (partC neg (some b)) half) = below := ⟨_, rfl⟩
      obtain ⟨high, hhigh⟩ : ∃ high, cmpC .gtr (ord .f64 (lowC below (partC neg (some b))) quarter) = high := ⟨_, rfl⟩
      have sb := end_bd (back_bd (low_bd (part_bd hB neg) below) high)
      have sf : Fits .f64 .f32 (partSine below high (partC neg (some b))) := (sign_bd sb below).fits (by omega)
      refine ⟨convC .f64 .f32 (partSine below high (partC neg (some b))), fun w => top_turns x _ w fun w => spec_turns x _ w sf hx fun x' w f => ?_, fun w => impl_main x _ w hx hf hnum sf (by rw [hcb, t3]; exact decide_eq_false hbig) fun x' w f => ?_⟩
      · rw [hcb] at f
        have hx' := eq_of_some f
        subst hx'
        exact spec_sine _ _ w f hn _ _ _ h0 (by rw [t1]; exact decide_eq_false (by generalize val (FloatKind.f64.decode x') = V at *; generalize 2 ^ 1126 = K at *; omega)) (by rw [t2]; exact decide_eq_false (by generalize val (FloatKind.f64.decode x') = V at *; generalize 2 ^ 1126 = K at *; omega)) hneg hbelow hhigh sb
      · rw [hcb] at f
        have hx' := eq_of_some f
        subst hx'
        exact impl_sine _ _ w f hn _ _ _ hneg hbelow hhigh sb
end Turn
end Go.Proofs.Ytaacneppnpognaa
