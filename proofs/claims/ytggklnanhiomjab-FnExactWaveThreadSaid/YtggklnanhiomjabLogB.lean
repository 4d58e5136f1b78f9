/- The logarithm of a 32-bit number: both sides answer one class. -/
import Derived.Test.YtggklnanhiomjabLogI
import Derived.Test.YtggklnanhiomjabAbs
import Derived.Test.YtggklnanhiomjabFinite
import Derived.Test.YtggklnanhiomjabFin
namespace Go.Proofs.Ytggklnanhiomjab
set_option linter.unusedSimpArgs false
set_option linter.unusedVariables false
open Go.RowKit
namespace Log
open Fl Flat

theorem inf_neg (w : World) : Calls Try.prog 108 #[.int .i64 (-1)] w (RetF .f64 (some 18442240474082181120) w) := by
  have hb := float64frombits_run 18442240474082181120
  have hn : Fr .f64 18442240474082181120 (some 18442240474082181120) := Fr.const (by decide +kernel) (by decide)
  go_enter Try.func108, Try.ntmps108
  go_wp2
  go_ret
  exact ⟨_, rfl, hn, by (repeat' first | exact Below.refl _ _ | (refine Below.setCell ?_ (by first | omega | (simp; omega) | simp) _) | (refine below_drewN ?_ _) | (refine Below.alloc ?_ (by first | omega | (simp; omega) | simp) _) | (refine Below.trans ?_ (Below.mono (by assumption) (by first | omega | (simp; omega) | simp))))⟩

theorem isinf_pos (x : Nat) (c : Option Nat) (w : World) (f : Fr .f64 x c) (big : Bool) (h : cmpC .gtr (ord .f64 c (some 9218868437227405311)) = big) : Calls Try.prog 126 #[.float .f64 x, .int .i64 1] w (RetD (.bool big) w) := by
  have fm : Fr .f64 9218868437227405311 (some 9218868437227405311) := Fr.const (by decide +kernel) (by decide)
  go_enter Try.func126, Try.ntmps126
  go_wp2_with (first | (refine Fl.wpList_cmp rfl rfl rfl rfl rfl (by assumption) (by assumption) ?_))
  go_ret
  exact ⟨by first | rfl | rw [h], by (repeat' first | exact Below.refl _ _ | (refine Below.setCell ?_ (by first | omega | (simp; omega) | simp) _) | (refine below_drewN ?_ _) | (refine Below.alloc ?_ (by first | omega | (simp; omega) | simp) _) | (refine Below.trans ?_ (Below.mono (by assumption) (by first | omega | (simp; omega) | simp))))⟩

theorem not_max {b : Nat} {s : Bool} {m : Nat} {p : Int} (h : FloatKind.f64.decode b = .number s m p) : cmpC .gtr (ord .f64 (some b) (some 9218868437227405311)) = false := by
  have d1 : FloatKind.f64.decode 9218868437227405311 = .number false 9007199254740991 971 := by decide +kernel
  obtain ⟨b1, b2, b3⟩ := read64_bounds h
  rw [ord_val h d1, (cmpC_val _ _).2.2.2.1, h, d1]
  refine decide_eq_false ?_
  show ¬ Ieee.signed false 9007199254740991 (971 + 1074 : Int).toNat < Ieee.signed s m (p + 1074).toNat
  rw [signed_eq, signed_eq]
  have k : m * 2 ^ (p + 1074).toNat ≤ 9007199254740991 * 2 ^ (971 + 1074 : Int).toNat := Nat.mul_le_mul (by omega) (Nat.pow_le_pow_right (by decide) (by omega))
  generalize m * 2 ^ (p + 1074).toNat = A at *
  generalize 9007199254740991 * 2 ^ (971 + 1074 : Int).toNat = B at *
  cases s <;> simp <;> omega

theorem eq_self {b : Nat} {s : Bool} {m : Nat} {p : Int} (h : FloatKind.f64.decode b = .number s m p) : cmpC .neq (ord .f64 (some b) (some b)) = false := by
  rw [ord_val h h, (cmpC_val _ _).2.2.2.2.2]; simp

theorem spec_nan (x : Nat) (c : Option Nat) (w : World) (f : Fr .f64 x c) (nan : Bool) (h1 : cmpC .neq (ord .f64 c c) = nan) (h2 : cmpC .lss (ord .f64 c (some 0)) = !nan) : Calls Try.prog 106 #[.float .f64 x] w (RetF .f64 none w) := by
  have f0 : Fr .f64 0 (some 0) := Fr.const (by decide +kernel) (by decide)
  have hn : Fr .f64 9221120237041090561 none := ⟨by decide +kernel, by decide⟩
  have hb := float64frombits_run 9221120237041090561
  have hnan : ∀ w, Calls Try.prog 120 #[] w (RetF .f64 none w) := by
    intro w
    go_enter Try.func120, Try.ntmps120
    go_wp2
    go_ret
    exact ⟨_, rfl, hn, Below.refl _ _⟩
  have HN := Lib.hid hnan
  clear hnan hb hn
  cases nan
  all_goals simp only [Bool.not_true, Bool.not_false] at h2
  all_goals
    go_enter Try.func106, Try.ntmps106
    go_wp2_with (first | (refine Fl.wpList_cmp rfl rfl rfl rfl rfl (by assumption) (by assumption) ?_; try simp only [h1, h2]) | (refine Fl.wpList_fl rfl rfl rfl rfl rfl (by assumption) (by assumption) ?_; intro r n hr) | (go_at_call 120; refine (HN.out _).mono ?_; rintro e w' ⟨r, rfl, hr, hb⟩; have hz := hb.size; try simp only [World.size_alloc, World.size_setCell, World.heap_drewN, World.size_drew] at hz; obtain ⟨hc, hf⟩ := Fl.bcell hb; try (have g : w.heap.size < w'.heap.size := by omega); try (have g : w.heap.size ≤ w'.heap.size := by omega)))
    go_ret
    exact ⟨_, rfl, by assumption, by (repeat' first | exact Below.refl _ _ | (refine Below.setCell ?_ (by first | omega | (simp; omega) | simp) _) | (refine below_drewN ?_ _) | (refine Below.alloc ?_ (by first | omega | (simp; omega) | simp) _) | (refine Below.trans ?_ (Below.mono (by assumption) (by first | omega | (simp; omega) | simp))))⟩

theorem spec_zero (x : Nat) (c : Option Nat) (w : World) (f : Fr .f64 x c) (h1 : cmpC .neq (ord .f64 c c) = false) (h2 : cmpC .lss (ord .f64 c (some 0)) = false) (h3 : cmpC .eql (ord .f64 c (some 0)) = true) : Calls Try.prog 106 #[.float .f64 x] w (RetF .f64 (some 18442240474082181120) w) := by
  have HI := Lib.hid inf_neg
  have f0 : Fr .f64 0 (some 0) := Fr.const (by decide +kernel) (by decide)
  go_enter Try.func106, Try.ntmps106
  go_wp2_with (first | (refine Fl.wpList_cmp rfl rfl rfl rfl rfl (by assumption) (by assumption) ?_; try simp only [h1, h2, h3]) | (go_at_call 108; refine (HI.out _).mono ?_; rintro e w' ⟨r, rfl, hr, hb⟩; have hz := hb.size; try simp only [World.size_alloc, World.size_setCell, World.heap_drewN, World.size_drew] at hz; obtain ⟨hc, hf⟩ := Fl.bcell hb; try (have g : w.heap.size < w'.heap.size := by omega); try (have g : w.heap.size ≤ w'.heap.size := by omega)))
  go_ret
  exact ⟨_, rfl, by assumption, by (repeat' first | exact Below.refl _ _ | (refine Below.setCell ?_ (by first | omega | (simp; omega) | simp) _) | (refine below_drewN ?_ _) | (refine Below.alloc ?_ (by first | omega | (simp; omega) | simp) _) | (refine Below.trans ?_ (Below.mono (by assumption) (by first | omega | (simp; omega) | simp))))⟩

theorem spec_inf (x : Nat) (c : Option Nat) (w : World) (f : Fr .f64 x c) (h1 : cmpC .neq (ord .f64 c c) = false) (h2 : cmpC .lss (ord .f64 c (some 0)) = false) (h3 : cmpC .eql (ord .f64 c (some 0)) = false) (h4 : cmpC .gtr (ord .f64 c (some 9218868437227405311)) = true) : Calls Try.prog 106 #[.float .f64 x] w (RetF .f64 c w) := by
  have HI := Lib.hid (fun w => isinf_pos x c w f true h4)
  have f0 : Fr .f64 0 (some 0) := Fr.const (by decide +kernel) (by decide)
  go_enter Try.func106, Try.ntmps106
  go_wp2_with (first | (refine Fl.wpList_cmp rfl rfl rfl rfl rfl (by assumption) (by assumption) ?_; try simp only [h1, h2, h3]) | (go_at_call 126; refine (HI.out _).mono ?_; rintro e w' ⟨rfl, hb⟩; have hz := hb.size; try simp only [World.size_alloc, World.size_setCell, World.heap_drewN, World.size_drew] at hz; obtain ⟨hc, hf⟩ := Fl.bcell hb; try (have g : w.heap.size < w'.heap.size := by omega); try (have g : w.heap.size ≤ w'.heap.size := by omega)))
  go_ret
  exact ⟨_, rfl, by assumption, by (repeat' first | exact Below.refl _ _ | (refine Below.setCell ?_ (by first | omega | (simp; omega) | simp) _) | (refine below_drewN ?_ _) | (refine Below.alloc ?_ (by first | omega | (simp; omega) | simp) _) | (refine Below.trans ?_ (Below.mono (by assumption) (by first | omega | (simp; omega) | simp))))⟩

theorem spec_log32 (x : Nat) (R : Option Nat) (w : World) (hf : Fits .f64 .f32 R) (hx : x < 4294967296)
    (hw : ∀ x' w, Fr .f64 x' (convC .f32 .f64 (cl .f32 x)) → Calls Try.prog 106 #[.float .f64 x'] w (RetF .f64 R w)) : Calls Try.prog 62 #[.float .f32 x] w (RetF .f32 (convC .f64 .f32 R) w) := by
  have f : Fr .f32 x (cl .f32 x) := ⟨rfl, hx⟩
  have HW := Lib.hid hw
  have HF := Lib.hid hf
  clear hw hf
  go_enter Try.func62, Try.ntmps62
  go_wp2_with (first | (refine Fl.wpList_conv rfl rfl rfl (by kernel_rfl) Try.underlying36 (by assumption) (Fl.fits_wide _) ?_; intro r n hr) | (go_at_call 106; refine (HW.out _ _ (by assumption)).mono ?_; rintro e w' ⟨r, rfl, hr, hb⟩; have hz := hb.size; try simp only [World.size_alloc, World.size_setCell, World.heap_drewN, World.size_drew] at hz; obtain ⟨hc, hf⟩ := Fl.bcell hb; try (have g : w.heap.size < w'.heap.size := by omega); try (have g : w.heap.size ≤ w'.heap.size := by omega)) | (go_at_call 100; refine (Root.spec_narrow _ _ _ (by assumption) HF.out).mono ?_; rintro e w' ⟨r, rfl, hr, hb⟩; have hz := hb.size; try simp only [World.size_alloc, World.size_setCell, World.heap_drewN, World.size_drew] at hz; obtain ⟨hc, hf⟩ := Fl.bcell hb; try (have g : w.heap.size < w'.heap.size := by omega); try (have g : w.heap.size ≤ w'.heap.size := by omega)))
  go_ret
  exact ⟨_, rfl, by assumption, by (repeat' first | exact Below.refl _ _ | (refine Below.setCell ?_ (by first | omega | (simp; omega) | simp) _) | (refine below_drewN ?_ _) | (refine Below.alloc ?_ (by first | omega | (simp; omega) | simp) _) | (refine Below.trans ?_ (Below.mono (by assumption) (by first | omega | (simp; omega) | simp))))⟩

theorem impl_none (x : Nat) (w : World) (hx : x < 4294967296) (h1 : cmpC .eql (ord .f32 (cl .f32 x) (some 0)) = false) (h2 : cmpC .gtr (ord .f32 (cl .f32 x) (some 0)) = false) : Calls Try.prog 65 #[.float .f32 x] w (RetF .f32 none w) := by
  have f : Fr .f32 x (cl .f32 x) := ⟨rfl, hx⟩
  have hn : Fr .f32 2143289344 none := ⟨by decide +kernel, by decide⟩
  have hb := Bits.frombits_run 2143289344
  have hnan : ∀ w, Calls Try.prog 102 #[] w (RetF .f32 none w) := by
    intro w
    go_enter Try.func102, Try.ntmps102
    go_wp2
    go_ret
    exact ⟨_, rfl, hn, Below.refl _ _⟩
  have HN := Lib.hid hnan
  clear hnan hb hn
  have z0 : Fr .f32 0 (some 0) := Fr.const (by decide +kernel) (by decide)
  go_enter Try.func65, Try.ntmps65
  go_wp2_with (first | (refine Fl.wpList_cmp rfl rfl rfl rfl rfl (by assumption) (by assumption) ?_; try simp only [h1, h2]) | (go_at_call 64; refine (Finite.impl_finite _ _ (by assumption)).mono ?_; rintro e w' ⟨rfl, rfl⟩) | (go_at_call 102; refine (HN.out _).mono ?_; rintro e w' ⟨r, rfl, hr, hb⟩; have hz := hb.size; try simp only [World.size_alloc, World.size_setCell, World.heap_drewN, World.size_drew] at hz; obtain ⟨hc, hf⟩ := Fl.bcell hb; try (have g : w.heap.size < w'.heap.size := by omega); try (have g : w.heap.size ≤ w'.heap.size := by omega)))
  go_ret
  exact ⟨_, rfl, by assumption, by (repeat' first | exact Below.refl _ _ | (refine Below.setCell ?_ (by first | omega | (simp; omega) | simp) _) | (refine below_drewN ?_ _) | (refine Below.alloc ?_ (by first | omega | (simp; omega) | simp) _) | (refine Below.trans ?_ (Below.mono (by assumption) (by first | omega | (simp; omega) | simp))))⟩

theorem impl_zero (x : Nat) (w : World) (hx : x < 4294967296) (h1 : cmpC .eql (ord .f32 (cl .f32 x) (some 0)) = true) : Calls Try.prog 65 #[.float .f32 x] w (RetF .f32 (convC .f64 .f32 (some 18442240474082181120)) w) := by
  have f : Fr .f32 x (cl .f32 x) := ⟨rfl, hx⟩
  have HI := Lib.hid inf_neg
  have HF := Lib.hid (show Fits .f64 .f32 (some 18442240474082181120) from .inr fun b hb _ => by cases hb; decide +kernel)
  have z0 : Fr .f32 0 (some 0) := Fr.const (by decide +kernel) (by decide)
  go_enter Try.func65, Try.ntmps65
  go_wp2_with (first | (refine Fl.wpList_cmp rfl rfl rfl rfl rfl (by assumption) (by assumption) ?_; try simp only [h1]) | (go_at_call 108; refine (HI.out _).mono ?_; rintro e w' ⟨r, rfl, hr, hb⟩; have hz := hb.size; try simp only [World.size_alloc, World.size_setCell, World.heap_drewN, World.size_drew] at hz; obtain ⟨hc, hf⟩ := Fl.bcell hb; try (have g : w.heap.size < w'.heap.size := by omega); try (have g : w.heap.size ≤ w'.heap.size := by omega)) | (refine Fl.wpList_conv rfl rfl rfl (by kernel_rfl) Try.underlying22 (by assumption) HF.out ?_; intro r n hr))
  go_ret
  exact ⟨_, rfl, by assumption, by (repeat' first | exact Below.refl _ _ | (refine Below.setCell ?_ (by first | omega | (simp; omega) | simp) _) | (refine below_drewN ?_ _) | (refine Below.alloc ?_ (by first | omega | (simp; omega) | simp) _) | (refine Below.trans ?_ (Below.mono (by assumption) (by first | omega | (simp; omega) | simp))))⟩

theorem impl_inf (x : Nat) (w : World) (hx : x < 4294967296) (ff : fin .f32 x = false) (h1 : cmpC .eql (ord .f32 (cl .f32 x) (some 0)) = false) (h2 : cmpC .gtr (ord .f32 (cl .f32 x) (some 0)) = true) : Calls Try.prog 65 #[.float .f32 x] w (RetF .f32 (cl .f32 x) w) := by
  have f : Fr .f32 x (cl .f32 x) := ⟨rfl, hx⟩
  have z0 : Fr .f32 0 (some 0) := Fr.const (by decide +kernel) (by decide)
  go_enter Try.func65, Try.ntmps65
  go_wp2_with (first | (refine Fl.wpList_cmp rfl rfl rfl rfl rfl (by assumption) (by assumption) ?_; try simp only [h1, h2]) | (go_at_call 64; refine (Finite.impl_finite _ _ (by assumption)).mono ?_; rintro e w' ⟨rfl, rfl⟩))
  go_ret
  exact ⟨_, rfl, by assumption, by (repeat' first | exact Below.refl _ _ | (refine Below.setCell ?_ (by first | omega | (simp; omega) | simp) _) | (refine below_drewN ?_ _) | (refine Below.alloc ?_ (by first | omega | (simp; omega) | simp) _) | (refine Below.trans ?_ (Below.mono (by assumption) (by first | omega | (simp; omega) | simp))))⟩

theorem impl_main (x : Nat) (R : Option Nat) (w : World) (hx : x < 4294967296) (ff : fin .f32 x = true) (h1 : cmpC .eql (ord .f32 (cl .f32 x) (some 0)) = false) (h2 : cmpC .gtr (ord .f32 (cl .f32 x) (some 0)) = true) (hf : Fits .f64 .f32 R)
    (hw : ∀ x' w, Fr .f64 x' (convC .f32 .f64 (cl .f32 x)) → Calls Try.prog 109 #[.float .f64 x'] w (RetF .f64 R w)) : Calls Try.prog 65 #[.float .f32 x] w (RetF .f32 (convC .f64 .f32 R) w) := by
  have f : Fr .f32 x (cl .f32 x) := ⟨rfl, hx⟩
  have HW := Lib.hid hw
  have HF := Lib.hid hf
  clear hw hf
  have z0 : Fr .f32 0 (some 0) := Fr.const (by decide +kernel) (by decide)
  go_enter Try.func65, Try.ntmps65
  go_wp2_with (first | (refine Fl.wpList_cmp rfl rfl rfl rfl rfl (by assumption) (by assumption) ?_; try simp only [h1, h2]) | (go_at_call 64; refine (Finite.impl_finite _ _ (by assumption)).mono ?_; rintro e w' ⟨rfl, rfl⟩) | (refine Fl.wpList_conv rfl rfl rfl (by kernel_rfl) Try.underlying36 (by assumption) (Fl.fits_wide _) ?_; intro r n hr) | (go_at_call 109; refine (HW.out _ _ (by assumption)).mono ?_; rintro e w' ⟨r, rfl, hr, hb⟩; have hz := hb.size; try simp only [World.size_alloc, World.size_setCell, World.heap_drewN, World.size_drew] at hz; obtain ⟨hc, hf⟩ := Fl.bcell hb; try (have g : w.heap.size < w'.heap.size := by omega); try (have g : w.heap.size ≤ w'.heap.size := by omega)) | (go_at_call 104; refine (Root.impl_narrow _ _ _ (by assumption) HF.out).mono ?_; rintro e w' ⟨r, rfl, hr, hb⟩; have hz := hb.size; try simp only [World.size_alloc, World.size_setCell, World.heap_drewN, World.size_drew] at hz; obtain ⟨hc, hf⟩ := Fl.bcell hb; try (have g : w.heap.size < w'.heap.size := by omega); try (have g : w.heap.size ≤ w'.heap.size := by omega)))
  go_ret
  exact ⟨_, rfl, by assumption, by (repeat' first | exact Below.refl _ _ | (refine Below.setCell ?_ (by first | omega | (simp; omega) | simp) _) | (refine below_drewN ?_ _) | (refine Below.alloc ?_ (by first | omega | (simp; omega) | simp) _) | (refine Below.trans ?_ (Below.mono (by assumption) (by first | omega | (simp; omega) | simp))))⟩

/-- A word of an infinity. -/
theorem inf_word {x : Nat} (hx : x < 4294967296) {s : Bool} (h : FloatKind.f32.decode x = .infinity s) : x = if s then 4286578688 else 2139095040 := by
  change Ieee.single.read x = _ at h
  unfold Ieee.Format.read at h
  simp only [show Ieee.single.signWeight = 2147483648 from by decide, show Ieee.single.binade = 8388608 from by decide, show Ieee.single.infRung = 2139095040 from by decide] at h
  split at h
  · cases h
  · split at h
    · cases h
    · split at h
      · next h3 =>
        cases h
        by_cases hs : (x / 2147483648 % 2 == 1) = true
        · rw [if_pos hs]
          have : x / 2147483648 % 2 = 1 := by simpa using hs
          omega
        · rw [if_neg hs]
          have : ¬ x / 2147483648 % 2 = 1 := by simpa using hs
          omega
      · cases h

/-- What both loops and the sum need of a finite number above zero. -/
theorem main_facts {x m : Nat} {p : Int} (hd : FloatKind.f32.decode x = .number false m p) (hm : m ≠ 0) :
    ∃ (c : Option Nat) (D V : Nat), convC .f32 .f64 (some x) = c ∧ D ≤ 400 ∧ V ≤ 400 ∧ (∀ k, k ≤ D → cmpC .geq (ord .f64 (hC c k) c15) = decide (k < D)) ∧ (∀ k, k ≤ V → cmpC .lss (ord .f64 (gC (hC c D) k) c075) = decide (k < V)) ∧ Bd 15 (logC (gC (hC c D) V) ((D : Int) - V)) ∧ ∃ b, c = some b ∧ ∃ m' p', FloatKind.f64.decode b = .number false m' p' ∧ m' ≠ 0 := by
  obtain ⟨q, P, hn, h1, h2⟩ := widen_nm hd hm
  have hdn : downs q P ≤ 200 := by unfold downs; split <;> omega
  have hup : ups q (P - downs q P) ≤ 300 := by unfold ups downs; split <;> omega
  have k1 := down_nm hn (by omega) (by omega) (downs q P) (by omega)
  have hlo : -300 ≤ P - (downs q P : Int) := by unfold downs; split <;> omega
  have hhi : P - (downs q P : Int) ≤ 300 := by omega
  refine ⟨_, downs q P, ups q (P - downs q P), rfl, by omega, by omega, fun k hk => down_cmp hn (by omega) (by omega) k (by omega), fun k hk => up_cmp k1 (by omega) (by omega) k (by omega), log_bd hn h1 h2, ?_⟩
  obtain ⟨b, e, d, q1, q2⟩ := hn
  exact ⟨b, e, q, P, d, by omega⟩