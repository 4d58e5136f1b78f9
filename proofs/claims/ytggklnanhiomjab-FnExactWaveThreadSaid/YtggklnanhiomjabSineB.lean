/- The sine of a number of turns: both sides answer one class. -/
import Derived.Test.YtggklnanhiomjabSine
import Derived.Test.YtggklnanhiomjabFinite
import Derived.Test.YtggklnanhiomjabFin
namespace Go.Proofs.Ytggklnanhiomjab
set_option linter.unusedSimpArgs false
set_option linter.unusedVariables false
open Go.RowKit
namespace Turn
open Fl Flat

theorem spec_nan (x : Nat) (c : Option Nat) (w : World) (f : Fr .f64 x c) (h0 : cmpC .neq (ord .f64 (op2 .sub .f64 c c) (some 0)) = true) : Calls Try.prog 101 #[.float .f64 x] w (RetF .f64 none w) := by
  have f0 : Fr .f64 0 (some 0) := Fr.const (by decide +kernel) (by decide)
  have hn : Fr .f64 9221120237041090561 none := ⟨by decide +kernel, by decide⟩
  have hb := float64frombits_run 9221120237041090561
  have hnan : ∀ w, Calls Try.prog 120 #[] w (RetF .f64 none w) := by
    intro w
    go_enter Try.func120, Try.ntmps120
    go_wp2
    go_ret
    exact ⟨_, rfl, hn, Below.refl _ _⟩
  have HN := Lib.hid hnan
  clear hnan hb hn
  go_enter Try.func101, Try.ntmps101
  go_wp2_with (first | (refine Fl.wpList_cmp rfl rfl rfl rfl rfl (by assumption) (by assumption) ?_; try simp only [h0]) | (refine Fl.wpList_fl rfl rfl rfl rfl rfl (by assumption) (by assumption) ?_; intro r n hr) | (go_at_call 120; refine (HN.out _).mono ?_; rintro e w' ⟨r, rfl, hr, hb⟩; have hz := hb.size; try simp only [World.size_alloc, World.size_setCell, World.heap_drewN, World.size_drew] at hz; obtain ⟨hc, hf⟩ := Fl.bcell hb; try (have g : w.heap.size < w'.heap.size := by omega); try (have g : w.heap.size ≤ w'.heap.size := by omega)))
  go_ret
  exact ⟨_, rfl, by assumption, by (repeat' first | exact Below.refl _ _ | (refine Below.setCell ?_ (by first | omega | (simp; omega) | simp) _) | (refine below_drewN ?_ _) | (refine Below.alloc ?_ (by first | omega | (simp; omega) | simp) _) | (refine Below.trans ?_ (Below.mono (by assumption) (by first | omega | (simp; omega) | simp))))⟩

theorem spec_big (x : Nat) (c : Option Nat) (w : World) (f : Fr .f64 x c) (h0 : cmpC .neq (ord .f64 (op2 .sub .f64 c c) (some 0)) = false) (up : Bool) (g1 : cmpC .geq (ord .f64 c (some 4841369599423283200)) = up) (g2 : cmpC .leq (ord .f64 c (some 14064741636278059008)) = !up) :
    Calls Try.prog 101 #[.float .f64 x] w (RetF .f64 (some 0) w) := by
  have f0 : Fr .f64 0 (some 0) := Fr.const (by decide +kernel) (by decide)
  have fu : Fr .f64 4841369599423283200 (some 4841369599423283200) := Fr.const (by decide +kernel) (by decide)
  have fd : Fr .f64 14064741636278059008 (some 14064741636278059008) := Fr.const (by decide +kernel) (by decide)
  cases up
  all_goals simp only [Bool.not_true, Bool.not_false] at g2
  all_goals
    go_enter Try.func101, Try.ntmps101
    go_wp2_with (first | (refine Fl.wpList_cmp rfl rfl rfl rfl rfl (by assumption) (by assumption) ?_; try simp only [h0, g1, g2]) | (refine Fl.wpList_fl rfl rfl rfl rfl rfl (by assumption) (by assumption) ?_; intro r n hr))
    go_ret
    exact ⟨_, rfl, f0, by (repeat' first | exact Below.refl _ _ | (refine Below.setCell ?_ (by first | omega | (simp; omega) | simp) _) | (refine below_drewN ?_ _) | (refine Below.alloc ?_ (by first | omega | (simp; omega) | simp) _) | (refine Below.trans ?_ (Below.mono (by assumption) (by first | omega | (simp; omega) | simp))))⟩

theorem spec_turns (x : Nat) (R : Option Nat) (w : World) (hf : Fits .f64 .f32 R) (hx : x < 4294967296)
    (hw : ∀ x' w, Fr .f64 x' (convC .f32 .f64 (cl .f32 x)) → Calls Try.prog 101 #[.float .f64 x'] w (RetF .f64 R w)) : Calls Try.prog 57 #[.float .f32 x] w (RetF .f32 (convC .f64 .f32 R) w) := by
  have f : Fr .f32 x (cl .f32 x) := ⟨rfl, hx⟩
  have HW := Lib.hid hw
  have HF := Lib.hid hf
  clear hw hf
  go_enter Try.func57, Try.ntmps57
  go_wp2_with (first | (refine Fl.wpList_conv rfl rfl rfl (by kernel_rfl) Try.underlying36 (by assumption) (Fl.fits_wide _) ?_; intro r n hr) | (go_at_call 101; refine (HW.out _ _ (by assumption)).mono ?_; rintro e w' ⟨r, rfl, hr, hb⟩; have hz := hb.size; try simp only [World.size_alloc, World.size_setCell, World.heap_drewN, World.size_drew] at hz; obtain ⟨hc, hf⟩ := Fl.bcell hb; try (have g : w.heap.size < w'.heap.size := by omega); try (have g : w.heap.size ≤ w'.heap.size := by omega)) | (go_at_call 100; refine (Root.spec_narrow _ _ _ (by assumption) HF.out).mono ?_; rintro e w' ⟨r, rfl, hr, hb⟩; have hz := hb.size; try simp only [World.size_alloc, World.size_setCell, World.heap_drewN, World.size_drew] at hz; obtain ⟨hc, hf⟩ := Fl.bcell hb; try (have g : w.heap.size < w'.heap.size := by omega); try (have g : w.heap.size ≤ w'.heap.size := by omega)))
  go_ret
  exact ⟨_, rfl, by assumption, by (repeat' first | exact Below.refl _ _ | (refine Below.setCell ?_ (by first | omega | (simp; omega) | simp) _) | (refine below_drewN ?_ _) | (refine Below.alloc ?_ (by first | omega | (simp; omega) | simp) _) | (refine Below.trans ?_ (Below.mono (by assumption) (by first | omega | (simp; omega) | simp))))⟩

theorem impl_nan (x : Nat) (w : World) (hx : x < 4294967296) (ff : fin .f32 x = false) : Calls Try.prog 60 #[.float .f32 x] w (RetF .f32 none w) := by
  have hn : Fr .f32 2143289344 none := ⟨by decide +kernel, by decide⟩
  have hb := Bits.frombits_run 2143289344
  have hnan : ∀ w, Calls Try.prog 102 #[] w (RetF .f32 none w) := by
    intro w
    go_enter Try.func102, Try.ntmps102
    go_wp2
    go_ret
    exact ⟨_, rfl, hn, Below.refl _ _⟩
  have HN := Lib.hid hnan
  clear hnan hb hn
  go_enter Try.func60, Try.ntmps60
  go_wp2_with (first | (go_at_call 64; refine (Finite.impl_finite _ _ (by assumption)).mono ?_; rintro e w' ⟨rfl, rfl⟩) | (go_at_call 102; refine (HN.out _).mono ?_; rintro e w' ⟨r, rfl, hr, hb⟩; have hz := hb.size; try simp only [World.size_alloc, World.size_setCell, World.heap_drewN, World.size_drew] at hz; obtain ⟨hc, hf⟩ := Fl.bcell hb; try (have g : w.heap.size < w'.heap.size := by omega); try (have g : w.heap.size ≤ w'.heap.size := by omega)))
  go_ret
  exact ⟨_, rfl, by assumption, by (repeat' first | exact Below.refl _ _ | (refine Below.setCell ?_ (by first | omega | (simp; omega) | simp) _) | (refine below_drewN ?_ _) | (refine Below.alloc ?_ (by first | omega | (simp; omega) | simp) _) | (refine Below.trans ?_ (Below.mono (by assumption) (by first | omega | (simp; omega) | simp))))⟩

theorem impl_big (x : Nat) (w : World) (hx : x < 4294967296) (ff : fin .f32 x = true) (hd : ∀ x', Fr .f64 x' (convC .f32 .f64 (cl .f32 x)) → ∃ s m p, FloatKind.f64.decode x' = .number s m p)
    (ha : cmpC .geq (ord .f64 ((convC .f32 .f64 (cl .f32 x)).map fun b => b % 9223372036854775808) (some 4841369599423283200)) = true) : Calls Try.prog 60 #[.float .f32 x] w (RetF .f32 (some 0) w) := by
  have f : Fr .f32 x (cl .f32 x) := ⟨rfl, hx⟩
  have z0 : Fr .f32 0 (some 0) := Fr.const (by decide +kernel) (by decide)
  have HD := Lib.hid hd
  clear hd
  have fu : Fr .f64 4841369599423283200 (some 4841369599423283200) := Fr.const (by decide +kernel) (by decide)
  have fd : Fr .f64 14064741636278059008 (some 14064741636278059008) := Fr.const (by decide +kernel) (by decide)
  go_enter Try.func60, Try.ntmps60
  go_wp2_with (first | (go_at_call 64; refine (Finite.impl_finite _ _ (by assumption)).mono ?_; rintro e w' ⟨rfl, rfl⟩) | (refine Fl.wpList_conv rfl rfl rfl (by kernel_rfl) Try.underlying36 (by assumption) (Fl.fits_wide _) ?_; intro r n hr) | (go_at_call 103; refine (abs_walk _ _ _ (by assumption) (HD.out _ (by assumption))).mono ?_; rintro e w' ⟨r, rfl, hr, hb⟩; have hz := hb.size; try simp only [World.size_alloc, World.size_setCell, World.heap_drewN, World.size_drew] at hz) | (refine Fl.wpList_cmp rfl rfl rfl rfl rfl (by assumption) (by assumption) ?_; try simp only [ha]))
  go_ret
  exact ⟨_, rfl, z0, by (repeat' first | exact Below.refl _ _ | (refine Below.setCell ?_ (by first | omega | (simp; omega) | simp) _) | (refine below_drewN ?_ _) | (refine Below.alloc ?_ (by first | omega | (simp; omega) | simp) _) | (refine Below.trans ?_ (Below.mono (by assumption) (by first | omega | (simp; omega) | simp))))⟩

theorem impl_main (x : Nat) (R : Option Nat) (w : World) (hx : x < 4294967296) (ff : fin .f32 x = true) (hd : ∀ x', Fr .f64 x' (convC .f32 .f64 (cl .f32 x)) → ∃ s m p, FloatKind.f64.decode x' = .number s m p) (hf : Fits .f64 .f32 R)
    (ha : cmpC .geq (ord .f64 ((convC .f32 .f64 (cl .f32 x)).map fun b => b % 9223372036854775808) (some 4841369599423283200)) = false)
    (hw : ∀ x' w, Fr .f64 x' (convC .f32 .f64 (cl .f32 x)) → Calls Try.prog 105 #[.float .f64 x'] w (RetF .f64 R w)) : Calls Try.prog 60 #[.float .f32 x] w (RetF .f32 (convC .f64 .f32 R) w) := by
  have f : Fr .f32 x (cl .f32 x) := ⟨rfl, hx⟩
  have HD := Lib.hid hd
  have HW := Lib.hid hw
  have HF := Lib.hid hf
  clear hd hw hf
  have fu : Fr .f64 4841369599423283200 (some 4841369599423283200) := Fr.const (by decide +kernel) (by decide)
  have fd : Fr .f64 14064741636278059008 (some 14064741636278059008) := Fr.const (by decide +kernel) (by decide)
  go_enter Try.func60, Try.ntmps60
  go_wp2_with (first | (go_at_call 64; refine (Finite.impl_finite _ _ (by assumption)).mono ?_; rintro e w' ⟨rfl, rfl⟩) | (refine Fl.wpList_conv rfl rfl rfl (by kernel_rfl) Try.underlying36 (by assumption) (Fl.fits_wide _) ?_; intro r n hr) | (go_at_call 103; refine (abs_walk _ _ _ (by assumption) (HD.out _ (by assumption))).mono ?_; rintro e w' ⟨r, rfl, hr, hb⟩; have hz := hb.size; try simp only [World.size_alloc, World.size_setCell, World.heap_drewN, World.size_drew] at hz) | (refine Fl.wpList_cmp rfl rfl rfl rfl rfl (by assumption) (by assumption) ?_; try simp only [ha]) | (go_at_call 105; refine (HW.out _ _ (by assumption)).mono ?_; rintro e w' ⟨r, rfl, hr, hb⟩; have hz := hb.size; try simp only [World.size_alloc, World.size_setCell, World.heap_drewN, World.size_drew] at hz; obtain ⟨hc, hf⟩ := Fl.bcell hb; try (have g : w.heap.size < w'.heap.size := by omega); try (have g : w.heap.size ≤ w'.heap.size := by omega)) | (go_at_call 104; refine (Root.impl_narrow _ _ _ (by assumption) HF.out).mono ?_; rintro e w' ⟨r, rfl, hr, hb⟩; have hz := hb.size; try simp only [World.size_alloc, World.size_setCell, World.heap_drewN, World.size_drew] at hz; obtain ⟨hc, hf⟩ := Fl.bcell hb; try (have g : w.heap.size < w'.heap.size := by omega); try (have g : w.heap.size ≤ w'.heap.size := by omega)))
  go_ret
  exact ⟨_, rfl, by assumption, by (repeat' first | exact Below.refl _ _ | (refine Below.setCell ?_ (by first | omega | (simp; omega) | simp) _) | (refine below_drewN ?_ _) | (refine Below.alloc ?_ (by first | omega | (simp; omega) | simp) _) | (refine Below.trans ?_ (Below.mono (by assumption) (by first | omega | (simp; omega) | simp))))⟩