/- The part of a turn and its sine: the program's functions and the model's. -/
import Derived.Test.YtggklnanhiomjabTurn
import Derived.Test.YtggklnanhiomjabAbs
namespace Go.Proofs.Ytggklnanhiomjab
set_option linter.unusedSimpArgs false
set_option linter.unusedVariables false
set_option maxRecDepth 20000
open Go.RowKit
namespace Turn
open Fl Flat

theorem impl_part (x : Nat) (c : Option Nat) (w : World) (f : Fr .f64 x c) (hn : floatToIntVal .f64 x .i64 = some (wholeC c)) (neg : Bool) (h1 : cmpC .lss (ord .f64 (rawC c) (some 0)) = neg) :
    Calls Try.prog 124 #[.float .f64 x] w (RetF .f64 (partC neg c) w) := by
  have fk := intFr (wholeC c)
  unfold rawC at h1
  have f0 : Fr .f64 0 (some 0) := Fr.const (by decide +kernel) (by decide)
  have f1 : Fr .f64 4607182418800017408 one := Fr.const (by decide +kernel) (by decide)
  have fq : Fr .f64 4598175219545276416 quarter := Fr.const (by decide +kernel) (by decide)
  have fh : Fr .f64 4602678819172646912 half := Fr.const (by decide +kernel) (by decide)
  have ft : Fr .f64 4618760256179416344 tau := Fr.const (by decide +kernel) (by decide)
  cases neg
  all_goals
    go_enter Try.func124, Try.ntmps124
    go_wp2_with (first | (refine Fl.wpList_cmp rfl rfl rfl rfl rfl (by assumption) (by assumption) ?_; try simp only [h1]) | (refine Fl.wpList_fint rfl rfl rfl (by kernel_rfl) Try.underlying2 (by assumption) ?_) | (refine Fl.wpList_fl rfl rfl rfl rfl rfl (by assumption) (by assumption) ?_; intro r n hr))
    go_ret
    exact ⟨_, rfl, by assumption, by (repeat' first | exact Below.refl _ _ | (refine Below.setCell ?_ (by first | omega | (simp; omega) | simp) _) | (refine below_drewN ?_ _) | (refine Below.alloc ?_ (by first | omega | (simp; omega) | simp) _) | (refine Below.trans ?_ (Below.mono (by assumption) (by first | omega | (simp; omega) | simp))))⟩

set_option maxHeartbeats 4000000 in
theorem impl_sine (x : Nat) (c : Option Nat) (w : World) (f : Fr .f64 x c) (hn : floatToIntVal .f64 x .i64 = some (wholeC c)) (neg below high : Bool) (h1 : cmpC .lss (ord .f64 (rawC c) (some 0)) = neg)
    (h2 : cmpC .geq (ord .f64 (partC neg c) half) = below) (h3 : cmpC .gtr (ord .f64 (lowC below (partC neg c)) quarter) = high) (hb : Bd 110 (endC (backC high (lowC below (partC neg c))))) :
    Calls Try.prog 105 #[.float .f64 x] w (RetF .f64 (partSine below high (partC neg c)) w) := by
  have HP := Lib.hid (fun w => impl_part x c w f hn neg h1)
  have HE := Lib.hid hb
  clear hb h1 hn
  generalize partC neg c = p at *
  have f0 : Fr .f64 0 (some 0) := Fr.const (by decide +kernel) (by decide)
  have f1 : Fr .f64 4607182418800017408 one := Fr.const (by decide +kernel) (by decide)
  have fq : Fr .f64 4598175219545276416 quarter := Fr.const (by decide +kernel) (by decide)
  have fh : Fr .f64 4602678819172646912 half := Fr.const (by decide +kernel) (by decide)
  have ft : Fr .f64 4618760256179416344 tau := Fr.const (by decide +kernel) (by decide)
  cases below <;> cases high
  all_goals unfold lowC at h3
  all_goals simp only [reduceIte, Bool.false_eq_true] at h3
  · go_enter Try.func105, Try.ntmps105
    go_wp2_with (first | (go_at_call 124; refine (HP.out _).mono ?_; rintro e w' ⟨r, rfl, hr, hb⟩; have hz := hb.size; try simp only [World.size_alloc, World.size_setCell, World.heap_drewN, World.size_drew] at hz; obtain ⟨hc, hf⟩ := Fl.bcell hb; try (have g : w.heap.size < w'.heap.size := by omega); try (have g : w.heap.size ≤ w'.heap.size := by omega)) | (go_at_call 125; refine (Flat.long_product _ _ _ _ _ (by assumption) (by assumption)).mono ?_; rintro e w' ⟨r, rfl, hr, hb⟩; have hz := hb.size; try simp only [World.size_alloc, World.size_setCell, World.heap_drewN, World.size_drew] at hz; obtain ⟨hc, hf⟩ := Fl.bcell hb; try (have g : w.heap.size < w'.heap.size := by omega); try (have g : w.heap.size ≤ w'.heap.size := by omega)) | (refine Fl.wpList_cmp rfl rfl rfl rfl rfl (by assumption) (by assumption) ?_; try simp only [h2, h3]) | (refine Fl.wpList_fl rfl rfl rfl rfl rfl (by assumption) (by assumption) ?_; intro r n hr))
    go_loopw [7, 8] (fun s i wr => ∃ j r : Nat, j ≤ 8 ∧ i = .int .i64 (8 - (j : Int)) ∧ s = .float .f64 r ∧ Fr .f64 r (sC (op2 .mul .f64 (op2 .mul .f64 p tau) (op2 .mul .f64 p tau)) j) ∧ Below w.heap.size w wr) (fun _ i _ => (intOf i).toNat)
    case atStart => exact ⟨0, _, by omega, rfl, rfl, f1, by (repeat' first | exact Below.refl _ _ | (refine Below.setCell ?_ (by first | omega | (simp; omega) | simp) _) | (refine below_drewN ?_ _) | (refine Below.alloc ?_ (by first | omega | (simp; omega) | simp) _) | (refine Below.trans ?_ (Below.mono (by assumption) (by first | omega | (simp; omega) | simp))))⟩
    case round =>
      obtain ⟨j, r, hj, rfl, rfl, fr, hbel⟩ := hrel
      by_cases hlt : j < 8
      · have HB := Lib.hid hbel; clear hbel
        have hm3 : wrap64 (2 * (8 - (j : Int)) * (2 * (8 - (j : Int)) + 1)) = 2 * (8 - (j : Int)) * (2 * (8 - (j : Int)) + 1) := by
          have : j = 0 ∨ j = 1 ∨ j = 2 ∨ j = 3 ∨ j = 4 ∨ j = 5 ∨ j = 6 ∨ j = 7 := by omega
          rcases this with rfl | rfl | rfl | rfl | rfl | rfl | rfl | rfl <;> (unfold wrap64; omega)
        have fk : Fr .f64 (floatOfInt .f64 (wrap64 (2 * (8 - (j : Int)) * (2 * (8 - (j : Int)) + 1)))) (dC j) := by rw [hm3]; exact intFr _
        clear hm3
        go_wp2_with (first | (go_at_call 124; refine (HP.out _).mono ?_; rintro e w' ⟨r, rfl, hr, hb⟩; have hz := hb.size; try simp only [World.size_alloc, World.size_setCell, World.heap_drewN, World.size_drew] at hz; obtain ⟨hc, hf⟩ := Fl.bcell hb; try (have g : w.heap.size < w'.heap.size := by omega); try (have g : w.heap.size ≤ w'.heap.size := by omega)) | (go_at_call 125; refine (Flat.long_product _ _ _ _ _ (by assumption) (by assumption)).mono ?_; rintro e w' ⟨r, rfl, hr, hb⟩; have hz := hb.size; try simp only [World.size_alloc, World.size_setCell, World.heap_drewN, World.size_drew] at hz; obtain ⟨hc, hf⟩ := Fl.bcell hb; try (have g : w.heap.size < w'.heap.size := by omega); try (have g : w.heap.size ≤ w'.heap.size := by omega)) | (refine Fl.wpList_cmp rfl rfl rfl rfl rfl (by assumption) (by assumption) ?_; try simp only [h2, h3]) | (refine Fl.wpList_fl rfl rfl rfl rfl rfl (by assumption) (by assumption) ?_; intro r n hr))
        go_roundw
        case rel => exact ⟨j + 1, _, by omega, by go_num, rfl, by assumption, by have hbel := HB.out; have hbz := hbel.size; (repeat' first | exact Below.refl _ _ | (refine Below.setCell ?_ (by first | omega | (simp; omega) | simp) _) | (refine below_drewN ?_ _) | (refine Below.alloc ?_ (by first | omega | (simp; omega) | simp) _) | (refine Below.trans ?_ (Below.mono (by assumption) (by first | omega | (simp; omega) | simp))))⟩
        case measure => simp [intOf]; omega
      · obtain rfl : j = 8 := by omega
        have HB := Lib.hid hbel; clear hbel
        go_wp2_with (first | (go_at_call 124; refine (HP.out _).mono ?_; rintro e w' ⟨r, rfl, hr, hb⟩; have hz := hb.size; try simp only [World.size_alloc, World.size_setCell, World.heap_drewN, World.size_drew] at hz; obtain ⟨hc, hf⟩ := Fl.bcell hb; try (have g : w.heap.size < w'.heap.size := by omega); try (have g : w.heap.size ≤ w'.heap.size := by omega)) | (go_at_call 125; refine (Flat.long_product _ _ _ _ _ (by assumption) (by assumption)).mono ?_; rintro e w' ⟨r, rfl, hr, hb⟩; have hz := hb.size; try simp only [World.size_alloc, World.size_setCell, World.heap_drewN, World.size_drew] at hz; obtain ⟨hc, hf⟩ := Fl.bcell hb; try (have g : w.heap.size < w'.heap.size := by omega); try (have g : w.heap.size ≤ w'.heap.size := by omega)) | (refine Fl.wpList_cmp rfl rfl rfl rfl rfl (by assumption) (by assumption) ?_; try simp only [h2, h3]) | (refine Fl.wpList_fl rfl rfl rfl rfl rfl (by assumption) (by assumption) ?_; intro r n hr))
        go_ret
        exact ⟨_, rfl, by first | exact hr | exact (neg_fr hr HE.out).1 | assumption, by have hbel := HB.out; have hbz := hbel.size; (repeat' first | exact Below.refl _ _ | (refine Below.setCell ?_ (by first | omega | (simp; omega) | simp) _) | (refine below_drewN ?_ _) | (refine Below.alloc ?_ (by first | omega | (simp; omega) | simp) _) | (refine Below.trans ?_ (Below.mono (by assumption) (by first | omega | (simp; omega) | simp))))⟩
  · go_enter Try.func105, Try.ntmps105
    go_wp2_with (first | (go_at_call 124; refine (HP.out _).mono ?_; rintro e w' ⟨r, rfl, hr, hb⟩; have hz := hb.size; try simp only [World.size_alloc, World.size_setCell, World.heap_drewN, World.size_drew] at hz; obtain ⟨hc, hf⟩ := Fl.bcell hb; try (have g : w.heap.size < w'.heap.size := by omega); try (have g : w.heap.size ≤ w'.heap.size := by omega)) | (go_at_call 125; refine (Flat.long_product _ _ _ _ _ (by assumption) (by assumption)).mono ?_; rintro e w' ⟨r, rfl, hr, hb⟩; have hz := hb.size; try simp only [World.size_alloc, World.size_setCell, World.heap_drewN, World.size_drew] at hz; obtain ⟨hc, hf⟩ := Fl.bcell hb; try (have g : w.heap.size < w'.heap.size := by omega); try (have g : w.heap.size ≤ w'.heap.size := by omega)) | (refine Fl.wpList_cmp rfl rfl rfl rfl rfl (by assumption) (by assumption) ?_; try simp only [h2, h3]) | (refine Fl.wpList_fl rfl rfl rfl rfl rfl (by assumption) (by assumption) ?_; intro r n hr))
    go_loopw [7, 8] (fun s i wr => ∃ j r : Nat, j ≤ 8 ∧ i = .int .i64 (8 - (j : Int)) ∧ s = .float .f64 r ∧ Fr .f64 r (sC (op2 .mul .f64 (op2 .mul .f64 (op2 .sub .f64 half p) tau) (op2 .mul .f64 (op2 .sub .f64 half p) tau)) j) ∧ Below w.heap.size w wr) (fun _ i _ => (intOf i).toNat)
    case atStart => exact ⟨0, _, by omega, rfl, rfl, f1, by (repeat' first | exact Below.refl _ _ | (refine Below.setCell ?_ (by first | omega | (simp; omega) | simp) _) | (refine below_drewN ?_ _) | (refine Below.alloc ?_ (by first | omega | (simp; omega) | simp) _) | (refine Below.trans ?_ (Below.mono (by assumption) (by first | omega | (simp; omega) | simp))))⟩
    case round =>
      obtain ⟨j, r, hj, rfl, rfl, fr, hbel⟩ := hrel
      by_cases hlt : j < 8
      · have HB := Lib.hid hbel; clear hbel
        have hm3 : wrap64 (2 * (8 - (j : Int)) * (2 * (8 - (j : Int)) + 1)) = 2 * (8 - (j : Int)) * (2 * (8 - (j : Int)) + 1) := by
          have : j = 0 ∨ j = 1 ∨ j = 2 ∨ j = 3 ∨ j = 4 ∨ j = 5 ∨ j = 6 ∨ j = 7 := by omega
          rcases this with rfl | rfl | rfl | rfl | rfl | rfl | rfl | rfl <;> (unfold wrap64; omega)
        have fk : Fr .f64 (floatOfInt .f64 (wrap64 (2 * (8 - (j : Int)) * (2 * (8 - (j : Int)) + 1)))) (dC j) := by rw [hm3]; exact intFr _
        clear hm3
        go_wp2_with (first | (go_at_call 124; refine (HP.out _).mono ?_; rintro e w' ⟨r, rfl, hr, hb⟩; have hz := hb.size; try simp only [World.size_alloc, World.size_setCell, World.heap_drewN, World.size_drew] at hz; obtain ⟨hc, hf⟩ := Fl.bcell hb; try (have g : w.heap.size < w'.heap.size := by omega); try (have g : w.heap.size ≤ w'.heap.size := by omega)) | (go_at_call 125; refine (Flat.long_product _ _ _ _ _ (by assumption) (by assumption)).mono ?_; rintro e w' ⟨r, rfl, hr, hb⟩; have hz := hb.size; try simp only [World.size_alloc, World.size_setCell, World.heap_drewN, World.size_drew] at hz; obtain ⟨hc, hf⟩ := Fl.bcell hb; try (have g : w.heap.size < w'.heap.size := by omega); try (have g : w.heap.size ≤ w'.heap.size := by omega)) | (refine Fl.wpList_cmp rfl rfl rfl rfl rfl (by assumption) (by assumption) ?_; try simp only [h2, h3]) | (refine Fl.wpList_fl rfl rfl rfl rfl rfl (by assumption) (by assumption) ?_; intro r n hr))
        go_roundw
        case rel => exact ⟨j + 1, _, by omega, by go_num, rfl, by assumption, by have hbel := HB.out; have hbz := hbel.size; (repeat' first | exact Below.refl _ _ | (refine Below.setCell ?_ (by first | omega | (simp; omega) | simp) _) | (refine below_drewN ?_ _) | (refine Below.alloc ?_ (by first | omega | (simp; omega) | simp) _) | (refine Below.trans ?_ (Below.mono (by assumption) (by first | omega | (simp; omega) | simp))))⟩
        case measure => simp [intOf]; omega
      · obtain rfl : j = 8 := by omega
        have HB := Lib.hid hbel; clear hbel
        go_wp2_with (first | (go_at_call 124; refine (HP.out _).mono ?_; rintro e w' ⟨r, rfl, hr, hb⟩; have hz := hb.size; try simp only [World.size_alloc, World.size_setCell, World.heap_drewN, World.size_drew] at hz; obtain ⟨hc, hf⟩ := Fl.bcell hb; try (have g : w.heap.size < w'.heap.size := by omega); try (have g : w.heap.size ≤ w'.heap.size := by omega)) | (go_at_call 125; refine (Flat.long_product _ _ _ _ _ (by assumption) (by assumption)).mono ?_; rintro e w' ⟨r, rfl, hr, hb⟩; have hz := hb.size; try simp only [World.size_alloc, World.size_setCell, World.heap_drewN, World.size_drew] at hz; obtain ⟨hc, hf⟩ := Fl.bcell hb; try (have g : w.heap.size < w'.heap.size := by omega); try (have g : w.heap.size ≤ w'.heap.size := by omega)) | (refine Fl.wpList_cmp rfl rfl rfl rfl rfl (by assumption) (by assumption) ?_; try simp only [h2, h3]) | (refine Fl.wpList_fl rfl rfl rfl rfl rfl (by assumption) (by assumption) ?_; intro r n hr))
        go_ret
        exact ⟨_, rfl, by first | exact hr | exact (neg_fr hr HE.out).1 | assumption, by have hbel := HB.out; have hbz := hbel.size; (repeat' first | exact Below.refl _ _ | (refine Below.setCell ?_ (by first | omega | (simp; omega) | simp) _) | (refine below_drewN ?_ _) | (refine Below.alloc ?_ (by first | omega | (simp; omega) | simp) _) | (refine Below.trans ?_ (Below.mono (by assumption) (by first | omega | (simp; omega) | simp))))⟩
  · go_enter Try.func105, Try.ntmps105
    go_wp2_with (first | (go_at_call 124; refine (HP.out _).mono ?_; rintro e w' ⟨r, rfl, hr, hb⟩; have hz := hb.size; try simp only [World.size_alloc, World.size_setCell, World.heap_drewN, World.size_drew] at hz; obtain ⟨hc, hf⟩ := Fl.bcell hb; try (have g : w.heap.size < w'.heap.size := by omega); try (have g : w.heap.size ≤ w'.heap.size := by omega)) | (go_at_call 125; refine (Flat.long_product _ _ _ _ _ (by assumption) (by assumption)).mono ?_; rintro e w' ⟨r, rfl, hr, hb⟩; have hz := hb.size; try simp only [World.size_alloc, World.size_setCell, World.heap_drewN, World.size_drew] at hz; obtain ⟨hc, hf⟩ := Fl.bcell hb; try (have g : w.heap.size < w'.heap.size := by omega); try (have g : w.heap.size ≤ w'.heap.size := by omega)) | (refine Fl.wpList_cmp rfl rfl rfl rfl rfl (by assumption) (by assumption) ?_; try simp only [h2, h3]) | (refine Fl.wpList_fl rfl rfl rfl rfl rfl (by assumption) (by assumption) ?_; intro r n hr))
    go_loopw [7, 8] (fun s i wr => ∃ j r : Nat, j ≤ 8 ∧ i = .int .i64 (8 - (j : Int)) ∧ s = .float .f64 r ∧ Fr .f64 r (sC (op2 .mul .f64 (op2 .mul .f64 (op2 .sub .f64 p half) tau) (op2 .mul .f64 (op2 .sub .f64 p half) tau)) j) ∧ Below w.heap.size w wr) (fun _ i _ => (intOf i).toNat)
    case atStart => exact ⟨0, _, by omega, rfl, rfl, f1, by (repeat' first | exact Below.refl _ _ | (refine Below.setCell ?_ (by first | omega | (simp; omega) | simp) _) | (refine below_drewN ?_ _) | (refine Below.alloc ?_ (by first | omega | (simp; omega) | simp) _) | (refine Below.trans ?_ (Below.mono (by assumption) (by first | omega | (simp; omega) | simp))))⟩
    case round =>
      obtain ⟨j, r, hj, rfl, rfl, fr, hbel⟩ := hrel
      by_cases hlt : j < 8
      · have HB := Lib.hid hbel; clear hbel
        have hm3 : wrap64 (2 * (8 - (j : Int)) * (2 * (8 - (j : Int)) + 1)) = 2 * (8 - (j : Int)) * (2 * (8 - (j : Int)) + 1) := by
          have : j = 0 ∨ j = 1 ∨ j = 2 ∨ j = 3 ∨ j = 4 ∨ j = 5 ∨ j = 6 ∨ j = 7 := by omega
          rcases this with rfl | rfl | rfl | rfl | rfl | rfl | rfl | rfl <;> (unfold wrap64; omega)
        have fk : Fr .f64 (floatOfInt .f64 (wrap64 (2 * (8 - (j : Int)) * (2 * (8 - (j : Int)) + 1)))) (dC j) := by rw [hm3]; exact intFr _
        clear hm3
        go_wp2_with (first | (go_at_call 124; refine (HP.out _).mono ?_; rintro e w' ⟨r, rfl, hr, hb⟩; have hz := hb.size; try simp only [World.size_alloc, World.size_setCell, World.heap_drewN, World.size_drew] at hz; obtain ⟨hc, hf⟩ := Fl.bcell hb; try (have g : w.heap.size < w'.heap.size := by omega); try (have g : w.heap.size ≤ w'.heap.size := by omega)) | (go_at_call 125; refine (Flat.long_product _ _ _ _ _ (by assumption) (by assumption)).mono ?_; rintro e w' ⟨r, rfl, hr, hb⟩; have hz := hb.size; try simp only [World.size_alloc, World.size_setCell, World.heap_drewN, World.size_drew] at hz; obtain ⟨hc, hf⟩ := Fl.bcell hb; try (have g : w.heap.size < w'.heap.size := by omega); try (have g : w.heap.size ≤ w'.heap.size := by omega)) | (refine Fl.wpList_cmp rfl rfl rfl rfl rfl (by assumption) (by assumption) ?_; try simp only [h2, h3]) | (refine Fl.wpList_fl rfl rfl rfl rfl rfl (by assumption) (by assumption) ?_; intro r n hr))
        go_roundw
        case rel => exact ⟨j + 1, _, by omega, by go_num, rfl, by assumption, by have hbel := HB.out; have hbz := hbel.size; (repeat' first | exact Below.refl _ _ | (refine Below.setCell ?_ (by first | omega | (simp; omega) | simp) _) | (refine below_drewN ?_ _) | (refine Below.alloc ?_ (by first | omega | (simp; omega) | simp) _) | (refine Below.trans ?_ (Below.mono (by assumption) (by first | omega | (simp; omega) | simp))))⟩
        case measure => simp [intOf]; omega
      · obtain rfl : j = 8 := by omega
        have HB := Lib.hid hbel; clear hbel
        go_wp2_with (first | (go_at_call 124; refine (HP.out _).mono ?_; rintro e w' ⟨r, rfl, hr, hb⟩; have hz := hb.size; try simp only [World.size_alloc, World.size_setCell, World.heap_drewN, World.size_drew] at hz; obtain ⟨hc, hf⟩ := Fl.bcell hb; try (have g : w.heap.size < w'.heap.size := by omega); try (have g : w.heap.size ≤ w'.heap.size := by omega)) | (go_at_call 125; refine (Flat.long_product _ _ _ _ _ (by assumption) (by assumption)).mono ?_; rintro e w' ⟨r, rfl, hr, hb⟩; have hz := hb.size; try simp only [World.size_alloc, World.size_setCell, World.heap_drewN, World.size_drew] at hz; obtain ⟨hc, hf⟩ := Fl.bcell hb; try (have g : w.heap.size < w'.heap.size := by omega); try (have g : w.heap.size ≤ w'.heap.size := by omega)) | (refine Fl.wpList_cmp rfl rfl rfl rfl rfl (by assumption) (by assumption) ?_; try simp only [h2, h3]) | (refine Fl.wpList_fl rfl rfl rfl rfl rfl (by assumption) (by assumption) ?_; intro r n hr))
        go_ret
        exact ⟨_, rfl, by first | exact hr | exact (neg_fr hr HE.out).1 | assumption, by have hbel := HB.out; have hbz := hbel.size; (repeat' first | exact Below.refl _ _ | (refine Below.setCell ?_ (by first | omega | (simp; omega) | simp) _) | (refine below_drewN ?_ _) | (refine Below.alloc ?_ (by first | omega | (simp; omega) | simp) _) | (refine Below.trans ?_ (Below.mono (by assumption) (by first | omega | (simp; omega) | simp))))⟩
  · go_enter Try.func105, Try.ntmps105
    go_wp2_with (first | (go_at_call 124; refine (HP.out _).mono ?_; rintro e w' ⟨r, rfl, hr, hb⟩; have hz := hb.size; try simp only [World.size_alloc, World.size_setCell, World.heap_drewN, World.size_drew] at hz; obtain ⟨hc, hf⟩ := Fl.bcell hb; try (have g : w.heap.size < w'.heap.size := by omega); try (have g : w.heap.size ≤ w'.heap.size := by omega)) | (go_at_call 125; refine (Flat.long_product _ _ _ _ _ (by assumption) (by assumption)).mono ?_; rintro e w' ⟨r, rfl, hr, hb⟩; have hz := hb.size; try simp only [World.size_alloc, World.size_setCell, World.heap_drewN, World.size_drew] at hz; obtain ⟨hc, hf⟩ := Fl.bcell hb; try (have g : w.heap.size < w'.heap.size := by omega); try (have g : w.heap.size ≤ w'.heap.size := by omega)) | (refine Fl.wpList_cmp rfl rfl rfl rfl rfl (by assumption) (by assumption) ?_; try simp only [h2, h3]) | (refine Fl.wpList_fl rfl rfl rfl rfl rfl (by assumption) (by assumption) ?_; intro r n hr))
    go_loopw [7, 8] (fun s i wr => ∃ j r : Nat, j ≤ 8 ∧ i = .int .i64 (8 - (j : Int)) ∧ s = .float .f64 r ∧ Fr .f64 r (sC (op2 .mul .f64 (op2 .mul .f64 (op2 .sub .f64 half (op2 .sub .f64 p half)) tau) (op2 .mul .f64 (op2 .sub .f64 half (op2 .sub .f64 p half)) tau)) j) ∧ Below w.heap.size w wr) (fun _ i _ => (intOf i).toNat)
    case atStart => exact ⟨0, _, by omega, rfl, rfl, f1, by (repeat' first | exact Below.refl _ _ | (refine Below.setCell ?_ (by first | omega | (simp; omega) | simp) _) | (refine below_drewN ?_ _) | (refine Below.alloc ?_ (by first | omega | (simp; omega) | simp) _) | (refine Below.trans ?_ (Below.mono (by assumption) (by first | omega | (simp; omega) | simp))))⟩
    case round =>
      obtain ⟨j, r, hj, rfl, rfl, fr, hbel⟩ := hrel
      by_cases hlt : j < 8
      · have HB := Lib.hid hbel; clear hbel
        have hm3 : wrap64 (2 * (8 - (j : Int)) * (2 * (8 - (j : Int)) + 1)) = 2 * (8 - (j : Int)) * (2 * (8 - (j : Int)) + 1) := by
          have : j = 0 ∨ j = 1 ∨ j = 2 ∨ j = 3 ∨ j = 4 ∨ j = 5 ∨ j = 6 ∨ j = 7 := by omega
          rcases this with rfl | rfl | rfl | rfl | rfl | rfl | rfl | rfl <;> (unfold wrap64; omega)
        have fk : Fr .f64 (floatOfInt .f64 (wrap64 (2 * (8 - (j : Int)) * (2 * (8 - (j : Int)) + 1)))) (dC j) := by rw [hm3]; exact intFr _
        clear hm3
        go_wp2_with (first | (go_at_call 124; refine (HP.out _).mono ?_; rintro e w' ⟨r, rfl, hr, hb⟩; have hz := hb.size; try simp only [World.size_alloc, World.size_setCell, World.heap_drewN, World.size_drew] at hz; obtain ⟨hc, hf⟩ := Fl.bcell hb; try (have g : w.heap.size < w'.heap.size := by omega); try (have g : w.heap.size ≤ w'.heap.size := by omega)) | (go_at_call 125; refine (Flat.long_product _ _ _ _ _ (by assumption) (by assumption)).mono ?_; rintro e w' ⟨r, rfl, hr, hb⟩; have hz := hb.size; try simp only [World.size_alloc, World.size_setCell, World.heap_drewN, World.size_drew] at hz; obtain ⟨hc, hf⟩ := Fl.bcell hb; try (have g : w.heap.size < w'.heap.size := by omega); try (have g : w.heap.size ≤ w'.heap.size := by omega)) | (refine Fl.wpList_cmp rfl rfl rfl rfl rfl (by assumption) (by assumption) ?_; try simp only [h2, h3]) | (refine Fl.wpList_fl rfl rfl rfl rfl rfl (by assumption) (by assumption) ?_; intro r n hr))
        go_roundw
        case rel => exact ⟨j + 1, _, by omega, by go_num, rfl, by assumption, by have hbel := HB.out; have hbz := hbel.size; (repeat' first | exact Below.refl _ _ | (refine Below.setCell ?_ (by first | omega | (simp; omega) | simp) _) | (refine below_drewN ?_ _) | (refine Below.alloc ?_ (by first | omega | (simp; omega) | simp) _) | (refine Below.trans ?_ (Below.mono (by assumption) (by first | omega | (simp; omega) | simp))))⟩
        case measure => simp [intOf]; omega
      · obtain rfl : j = 8 := by omega
        have HB := Lib.hid hbel; clear hbel
        go_wp2_with (first | (go_at_call 124; refine (HP.out _).mono ?_; rintro e w' ⟨r, rfl, hr, hb⟩; have hz := hb.size; try simp only [World.size_alloc, World.size_setCell, World.heap_drewN, World.size_drew] at hz; obtain ⟨hc, hf⟩ := Fl.bcell hb; try (have g : w.heap.size < w'.heap.size := by omega); try (have g : w.heap.size ≤ w'.heap.size := by omega)) | (go_at_call 125; refine (Flat.long_product _ _ _ _ _ (by assumption) (by assumption)).mono ?_; rintro e w' ⟨r, rfl, hr, hb⟩; have hz := hb.size; try simp only [World.size_alloc, World.size_setCell, World.heap_drewN, World.size_drew] at hz; obtain ⟨hc, hf⟩ := Fl.bcell hb; try (have g : w.heap.size < w'.heap.size := by omega); try (have g : w.heap.size ≤ w'.heap.size := by omega)) | (refine Fl.wpList_cmp rfl rfl rfl rfl rfl (by assumption) (by assumption) ?_; try simp only [h2, h3]) | (refine Fl.wpList_fl rfl rfl rfl rfl rfl (by assumption) (by assumption) ?_; intro r n hr))
        go_ret
        exact ⟨_, rfl, by first | exact hr | exact (neg_fr hr HE.out).1 | assumption, by have hbel := HB.out; have hbz := hbel.size; (repeat' first | exact Below.refl _ _ | (refine Below.setCell ?_ (by first | omega | (simp; omega) | simp) _) | (refine below_drewN ?_ _) | (refine Below.alloc ?_ (by first | omega | (simp; omega) | simp) _) | (refine Below.trans ?_ (Below.mono (by assumption) (by first | omega | (simp; omega) | simp))))⟩

set_option maxHeartbeats 4000000 in
theorem spec_sine (x : Nat) (c : Option Nat) (w : World) (f : Fr .f64 x c) (hn : floatToIntVal .f64 x .i64 = some (wholeC c)) (neg below high : Bool)
    (h0 : cmpC .neq (ord .f64 (op2 .sub .f64 c c) (some 0)) = false) (g1 : cmpC .geq (ord .f64 c (some 4841369599423283200)) = false) (g2 : cmpC .leq (ord .f64 c (some 14064741636278059008)) = false)
    (h1 : cmpC .lss (ord .f64 (rawC c) (some 0)) = neg)
    (h2 : cmpC .geq (ord .f64 (partC neg c) half) = below) (h3 : cmpC .gtr (ord .f64 (lowC below (partC neg c)) quarter) = high) (hb : Bd 110 (endC (backC high (lowC below (partC neg c))))) :
    Calls Try.prog 101 #[.float .f64 x] w (RetF .f64 (partSine below high (partC neg c)) w) := by
  have HE := Lib.hid hb
  clear hb
  have fk0 := intFr (wholeC c)
  have fu : Fr .f64 4841369599423283200 (some 4841369599423283200) := Fr.const (by decide +kernel) (by decide)
  have fd : Fr .f64 14064741636278059008 (some 14064741636278059008) := Fr.const (by decide +kernel) (by decide)
  unfold rawC at h1
  have f0 : Fr .f64 0 (some 0) := Fr.const (by decide +kernel) (by decide)
  have f1 : Fr .f64 4607182418800017408 one := Fr.const (by decide +kernel) (by decide)
  have fq : Fr .f64 4598175219545276416 quarter := Fr.const (by decide +kernel) (by decide)
  have fh : Fr .f64 4602678819172646912 half := Fr.const (by decide +kernel) (by decide)
  have ft : Fr .f64 4618760256179416344 tau := Fr.const (by decide +kernel) (by decide)
  cases neg <;> cases below <;> cases high
  all_goals unfold partC at h2 h3
  all_goals unfold lowC at h3
  all_goals unfold rawC at h2 h3
  all_goals simp only [reduceIte, Bool.false_eq_true] at h2 h3
  · go_enter Try.func101, Try.ntmps101
    go_wp2_with (first | (refine Fl.wpList_cmp rfl rfl rfl rfl rfl (by assumption) (by assumption) ?_; try simp only [h0, g1, g2, h1, h2, h3]) | (refine Fl.wpList_fint rfl rfl rfl (by kernel_rfl) Try.underlying2 (by assumption) ?_) | (refine Fl.wpList_fl rfl rfl rfl rfl rfl (by assumption) (by assumption) ?_; intro r n hr))
    go_loopw [7, 8] (fun s i wr => ∃ j r : Nat, j ≤ 8 ∧ i = .int .i64 (8 - (j : Int)) ∧ s = .float .f64 r ∧ Fr .f64 r (sC (op2 .mul .f64 (op2 .mul .f64 (op2 .sub .f64 c (cl .f64 (floatOfInt .f64 (wholeC c)))) tau) (op2 .mul .f64 (op2 .sub .f64 c (cl .f64 (floatOfInt .f64 (wholeC c)))) tau)) j) ∧ Below w.heap.size w wr) (fun _ i _ => (intOf i).toNat)
    case atStart => exact ⟨0, _, by omega, rfl, rfl, f1, by (repeat' first | exact Below.refl _ _ | (refine Below.setCell ?_ (by first | omega | (simp; omega) | simp) _) | (refine below_drewN ?_ _) | (refine Below.alloc ?_ (by first | omega | (simp; omega) | simp) _) | (refine Below.trans ?_ (Below.mono (by assumption) (by first | omega | (simp; omega) | simp))))⟩
    case round =>
      obtain ⟨j, r, hj, rfl, rfl, fr, hbel⟩ := hrel
      by_cases hlt : j < 8
      · have HB := Lib.hid hbel; clear hbel
        have hm3 : wrap64 (2 * (8 - (j : Int)) * (2 * (8 - (j : Int)) + 1)) = 2 * (8 - (j : Int)) * (2 * (8 - (j : Int)) + 1) := by
          have : j = 0 ∨ j = 1 ∨ j = 2 ∨ j = 3 ∨ j = 4 ∨ j = 5 ∨ j = 6 ∨ j = 7 := by omega
          rcases this with rfl | rfl | rfl | rfl | rfl | rfl | rfl | rfl <;> (unfold wrap64; omega)
        have fk : Fr .f64 (floatOfInt .f64 (wrap64 (2 * (8 - (j : Int)) * (2 * (8 - (j : Int)) + 1)))) (dC j) := by rw [hm3]; exact intFr _
        clear hm3
        go_wp2_with (first | (refine Fl.wpList_cmp rfl rfl rfl rfl rfl (by assumption) (by assumption) ?_; try simp only [h0, g1, g2, h1, h2, h3]) | (refine Fl.wpList_fint rfl rfl rfl (by kernel_rfl) Try.underlying2 (by assumption) ?_) | (refine Fl.wpList_fl rfl rfl rfl rfl rfl (by assumption) (by assumption) ?_; intro r n hr))
        go_roundw
        case rel => exact ⟨j + 1, _, by omega, by go_num, rfl, by assumption, by have hbel := HB.out; have hbz := hbel.size; (repeat' first | exact Below.refl _ _ | (refine Below.setCell ?_ (by first | omega | (simp; omega) | simp) _) | (refine below_drewN ?_ _) | (refine Below.alloc ?_ (by first | omega | (simp; omega) | simp) _) | (refine Below.trans ?_ (Below.mono (by assumption) (by first | omega | (simp; omega) | simp))))⟩
        case measure => simp [intOf]; omega
      · obtain rfl : j = 8 := by omega
        have HB := Lib.hid hbel; clear hbel
        go_wp2_with (first | (refine Fl.wpList_cmp rfl rfl rfl rfl rfl (by assumption) (by assumption) ?_; try simp only [h0, g1, g2, h1, h2, h3]) | (refine Fl.wpList_fint rfl rfl rfl (by kernel_rfl) Try.underlying2 (by assumption) ?_) | (refine Fl.wpList_fl rfl rfl rfl rfl rfl (by assumption) (by assumption) ?_; intro r n hr))
        go_ret
        exact ⟨_, rfl, by first | exact hr | exact (neg_fr hr HE.out).1 | assumption, by have hbel := HB.out; have hbz := hbel.size; (repeat' first | exact Below.refl _ _ | (refine Below.setCell ?_ (by first | omega | (simp; omega) | simp) _) | (refine below_drewN ?_ _) | (refine Below.alloc ?_ (by first | omega | (simp; omega) | simp) _) | (refine Below.trans ?_ (Below.mono (by assumption) (by first | omega | (simp; omega) | simp))))⟩
  · go_enter Try.func101, Try.ntmps101
    go_wp2_with (first | (refine Fl.wpList_cmp rfl rfl rfl rfl rfl (by assumption) (by assumption) ?_; try simp only [h0, g1, g2, h1, h2, h3]) | (refine Fl.wpList_fint rfl rfl rfl (by kernel_rfl) Try.underlying2 (by assumption) ?_) | (refine Fl.wpList_fl rfl rfl rfl rfl rfl (by assumption) (by assumption) ?_; intro r n hr))
    go_loopw [7, 8] (fun s i wr => ∃ j r : Nat, j ≤ 8 ∧ i = .int .i64 (8 - (j : Int)) ∧ s = .float .f64 r ∧ Fr .f64 r (sC (op2 .mul .f64 (op2 .mul .f64 (op2 .sub .f64 half (op2 .sub .f64 c (cl .f64 (floatOfInt .f64 (wholeC c))))) tau) (op2 .mul .f64 (op2 .sub .f64 half (op2 .sub .f64 c (cl .f64 (floatOfInt .f64 (wholeC c))))) tau)) j) ∧ Below w.heap.size w wr) (fun _ i _ => (intOf i).toNat)
    case atStart => exact ⟨0, _, by omega, rfl, rfl, f1, by (repeat' first | exact Below.refl _ _ | (refine Below.setCell ?_ (by first | omega | (simp; omega) | simp) _) | (refine below_drewN ?_ _) | (refine Below.alloc ?_ (by first | omega | (simp; omega) | simp) _) | (refine Below.trans ?_ (Below.mono (by assumption) (by first | omega | (simp; omega) | simp))))⟩
    case round =>
      obtain ⟨j, r, hj, rfl, rfl, fr, hbel⟩ := hrel
      by_cases hlt : j < 8
      · have HB := Lib.hid hbel; clear hbel
        have hm3 : wrap64 (2 * (8 - (j : Int)) * (2 * (8 - (j : Int)) + 1)) = 2 * (8 - (j : Int)) * (2 * (8 - (j : Int)) + 1) := by
          have : j = 0 ∨ j = 1 ∨ j = 2 ∨ j = 3 ∨ j = 4 ∨ j = 5 ∨ j = 6 ∨ j = 7 := by omega
          rcases this with rfl | rfl | rfl | rfl | rfl | rfl | rfl | rfl <;> (unfold wrap64; omega)
        have fk : Fr .f64 (floatOfInt .f64 (wrap64 (2 * (8 - (j : Int)) * (2 * (8 - (j : Int)) + 1)))) (dC j) := by rw [hm3]; exact intFr _
        clear hm3
        go_wp2_with (first | (refine Fl.wpList_cmp rfl rfl rfl rfl rfl (by assumption) (by assumption) ?_; try simp only [h0, g1, g2, h1, h2, h3]) | (refine Fl.wpList_fint rfl rfl rfl (by kernel_rfl) Try.underlying2 (by assumption) ?_) | (refine Fl.wpList_fl rfl rfl rfl rfl rfl (by assumption) (by assumption) ?_; intro r n hr))
        go_roundw
        case rel => exact ⟨j + 1, _, by omega, by go_num, rfl, by assumption, by have hbel := HB.out; have hbz := hbel.size; (repeat' first | exact Below.refl _ _ | (refine Below.setCell ?_ (by first | omega | (simp; omega) | simp) _) | (refine below_drewN ?_ _) | (refine Below.alloc ?_ (by first | omega | (simp; omega) | simp) _) | (refine Below.trans ?_ (Below.mono (by assumption) (by first | omega | (simp; omega) | simp))))⟩
        case measure => simp [intOf]; omega
      · obtain rfl : j = 8 := by omega
        have HB := Lib.hid hbel; clear hbel
        go_wp2_with (first | (refine Fl.wpList_cmp rfl rfl rfl rfl rfl (by assumption) (by assumption) ?_; try simp only [h0, g1, g2, h1, h2, h3]) | (refine Fl.wpList_fint rfl rfl rfl (by kernel_rfl) Try.underlying2 (by assumption) ?_) | (refine Fl.wpList_fl rfl rfl rfl rfl rfl (by assumption) (by assumption) ?_; intro r n hr))
        go_ret
        exact ⟨_, rfl, by first | exact hr | exact (neg_fr hr HE.out).1 | assumption, by have hbel := HB.out; have hbz := hbel.size; (repeat' first | exact Below.refl _ _ | (refine Below.setCell ?_ (by first | omega | (simp; omega) | simp) _) | (refine below_drewN ?_ _) | (refine Below.alloc ?_ (by first | omega | (simp; omega) | simp) _) | (refine Below.trans ?_ (Below.mono (by assumption) (by first | omega | (simp; omega) | simp))))⟩
  · go_enter Try.func101, Try.ntmps101
    go_wp2_with (first | (refine Fl.wpList_cmp rfl rfl rfl rfl rfl (by assumption) (by assumption) ?_; try simp only [h0, g1, g2, h1, h2, h3]) | (refine Fl.wpList_fint rfl rfl rfl (by kernel_rfl) Try.underlying2 (by assumption) ?_) | (refine Fl.wpList_fl rfl rfl rfl rfl rfl (by assumption) (by assumption) ?_; intro r n hr))
    go_loopw [7, 8] (fun s i wr => ∃ j r : Nat, j ≤ 8 ∧ i = .int .i64 (8 - (j : Int)) ∧ s = .float .f64 r ∧ Fr .f64 r (sC (op2 .mul .f64 (op2 .mul .f64 (op2 .sub .f64 (op2 .sub .f64 c (cl .f64 (floatOfInt .f64 (wholeC c)))) half) tau) (op2 .mul .f64 (op2 .sub .f64 (op2 .sub .f64 c (cl .f64 (floatOfInt .f64 (wholeC c)))) half) tau)) j) ∧ Below w.heap.size w wr) (fun _ i _ => (intOf i).toNat)
    case atStart => exact ⟨0, _, by omega, rfl, rfl, f1, by (repeat' first | exact Below.refl _ _ | (refine Below.setCell ?_ (by first | omega | (simp; omega) | simp) _) | (refine below_drewN ?_ _) | (refine Below.alloc ?_ (by first | omega | (simp; omega) | simp) _) | (refine Below.trans ?_ (Below.mono (by assumption) (by first | omega | (simp; omega) | simp))))⟩
    case round =>
      obtain ⟨j, r, hj, rfl, rfl, fr, hbel⟩ := hrel
      by_cases hlt : j < 8
      · have HB := Lib.hid hbel; clear hbel
        have hm3 : wrap64 (2 * (8 - (j : Int)) * (2 * (8 - (j : Int)) + 1)) = 2 * (8 - (j : Int)) * (2 * (8 - (j : Int)) + 1) := by
          have : j = 0 ∨ j = 1 ∨ j = 2 ∨ j = 3 ∨ j = 4 ∨ j = 5 ∨ j = 6 ∨ j = 7 := by omega
          rcases this with rfl | rfl | rfl | rfl | rfl | rfl | rfl | rfl <;> (unfold wrap64; omega)
        have fk : Fr .f64 (floatOfInt .f64 (wrap64 (2 * (8 - (j : Int)) * (2 * (8 - (j : Int)) + 1)))) (dC j) := by rw [hm3]; exact intFr _
        clear hm3
        go_wp2_with (first | (refine Fl.wpList_cmp rfl rfl rfl rfl rfl (by assumption) (by assumption) ?_; try simp only [h0, g1, g2, h1, h2, h3]) | (refine Fl.wpList_fint rfl rfl rfl (by kernel_rfl) Try.underlying2 (by assumption) ?_) | (refine Fl.wpList_fl rfl rfl rfl rfl rfl (by assumption) (by assumption) ?_; intro r n hr))
        go_roundw
        case rel => exact ⟨j + 1, _, by omega, by go_num, rfl, by assumption, by have hbel := HB.out; have hbz := hbel.size; (repeat' first | exact Below.refl _ _ | (refine Below.setCell ?_ (by first | omega | (simp; omega) | simp) _) | (refine below_drewN ?_ _) | (refine Below.alloc ?_ (by first | omega | (simp; omega) | simp) _) | (refine Below.trans ?_ (Below.mono (by assumption) (by first | omega | (simp; omega) | simp))))⟩
        case measure => simp [intOf]; omega
      · obtain rfl : j = 8 := by omega
        have HB := Lib.hid hbel; clear hbel
        go_wp2_with (first | (refine Fl.wpList_cmp rfl rfl rfl rfl rfl (by assumption) (by assumption) ?_; try simp only [h0, g1, g2, h1, h2, h3]) | (refine Fl.wpList_fint rfl rfl rfl (by kernel_rfl) Try.underlying2 (by assumption) ?_) | (refine Fl.wpList_fl rfl rfl rfl rfl rfl (by assumption) (by assumption) ?_; intro r n hr))
        go_ret
        exact ⟨_, rfl, by first | exact hr | exact (neg_fr hr HE.out).1 | assumption, by have hbel := HB.out; have hbz := hbel.size; (repeat' first | exact Below.refl _ _ | (refine Below.setCell ?_ (by first | omega | (simp; omega) | simp) _) | (refine below_drewN ?_ _) | (refine Below.alloc ?_ (by first | omega | (simp; omega) | simp) _) | (refine Below.trans ?_ (Below.mono (by assumption) (by first | omega | (simp; omega) | simp))))⟩
  · go_enter Try.func101, Try.ntmps101
    go_wp2_with (first | (refine Fl.wpList_cmp rfl rfl rfl rfl rfl (by assumption) (by assumption) ?_; try simp only [h0, g1, g2, h1, h2, h3]) | (refine Fl.wpList_fint rfl rfl rfl (by kernel_rfl) Try.underlying2 (by assumption) ?_) | (refine Fl.wpList_fl rfl rfl rfl rfl rfl (by assumption) (by assumption) ?_; intro r n hr))
    go_loopw [7, 8] (fun s i wr => ∃ j r : Nat, j ≤ 8 ∧ i = .int .i64 (8 - (j : Int)) ∧ s = .float .f64 r ∧ Fr .f64 r (sC (op2 .mul .f64 (op2 .mul .f64 (op2 .sub .f64 half (op2 .sub .f64 (op2 .sub .f64 c (cl .f64 (floatOfInt .f64 (wholeC c)))) half)) tau) (op2 .mul .f64 (op2 .sub .f64 half (op2 .sub .f64 (op2 .sub .f64 c (cl .f64 (floatOfInt .f64 (wholeC c)))) half)) tau)) j) ∧ Below w.heap.size w wr) (fun _ i _ => (intOf i).toNat)
    case atStart => exact ⟨0, _, by omega, rfl, rfl, f1, by (repeat' first | exact Below.refl _ _ | (refine Below.setCell ?_ (by first | omega | (simp; omega) | simp) _) | (refine below_drewN ?_ _) | (refine Below.alloc ?_ (by first | omega | (simp; omega) | simp) _) | (refine Below.trans ?_ (Below.mono (by assumption) (by first | omega | (simp; omega) | simp))))⟩
    case round =>
      obtain ⟨j, r, hj, rfl, rfl, fr, hbel⟩ := hrel
      by_cases hlt : j < 8
      · have HB := Lib.hid hbel; clear hbel
        have hm3 : wrap64 (2 * (8 - (j : Int)) * (2 * (8 - (j : Int)) + 1)) = 2 * (8 - (j : Int)) * (2 * (8 - (j : Int)) + 1) := by
          have : j = 0 ∨ j = 1 ∨ j = 2 ∨ j = 3 ∨ j = 4 ∨ j = 5 ∨ j = 6 ∨ j = 7 := by omega
          rcases this with rfl | rfl | rfl | rfl | rfl | rfl | rfl | rfl <;> (unfold wrap64; omega)
        have fk : Fr .f64 (floatOfInt .f64 (wrap64 (2 * (8 - (j : Int)) * (2 * (8 - (j : Int)) + 1)))) (dC j) := by rw [hm3]; exact intFr _
        clear hm3
        go_wp2_with (first | (refine Fl.wpList_cmp rfl rfl rfl rfl rfl (by assumption) (by assumption) ?_; try simp only [h0, g1, g2, h1, h2, h3]) | (refine Fl.wpList_fint rfl rfl rfl (by kernel_rfl) Try.underlying2 (by assumption) ?_) | (refine Fl.wpList_fl rfl rfl rfl rfl rfl (by assumption) (by assumption) ?_; intro r n hr))
        go_roundw
        case rel => exact ⟨j + 1, _, by omega, by go_num, rfl, by assumption, by have hbel := HB.out; have hbz := hbel.size; (repeat' first | exact Below.refl _ _ | (refine Below.setCell ?_ (by first | omega | (simp; omega) | simp) _) | (refine below_drewN ?_ _) | (refine Below.alloc ?_ (by first | omega | (simp; omega) | simp) _) | (refine Below.trans ?_ (Below.mono (by assumption) (by first | omega | (simp; omega) | simp))))⟩
        case measure => simp [intOf]; omega
      · obtain rfl : j = 8 := by omega
        have HB := Lib.hid hbel; clear hbel
        go_wp2_with (first | (refine Fl.wpList_cmp rfl rfl rfl rfl rfl (by assumption) (by assumption) ?_; try simp only [h0, g1, g2, h1, h2, h3]) | (refine Fl.wpList_fint rfl rfl rfl (by kernel_rfl) Try.underlying2 (by assumption) ?_) | (refine Fl.wpList_fl rfl rfl rfl rfl rfl (by assumption) (by assumption) ?_; intro r n hr))
        go_ret
        exact ⟨_, rfl, by first | exact hr | exact (neg_fr hr HE.out).1 | assumption, by have hbel := HB.out; have hbz := hbel.size; (repeat' first | exact Below.refl _ _ | (refine Below.setCell ?_ (by first | omega | (simp; omega) | simp) _) | (refine below_drewN ?_ _) | (refine Below.alloc ?_ (by first | omega | (simp; omega) | simp) _) | (refine Below.trans ?_ (Below.mono (by assumption) (by first | omega | (simp; omega) | simp))))⟩
  · go_enter Try.func101, Try.ntmps101
    go_wp2_with (first | (refine Fl.wpList_cmp rfl rfl rfl rfl rfl (by assumption) (by assumption) ?_; try simp only [h0, g1, g2, h1, h2, h3]) | (refine Fl.wpList_fint rfl rfl rfl (by kernel_rfl) Try.underlying2 (by assumption) ?_) | (refine Fl.wpList_fl rfl rfl rfl rfl rfl (by assumption) (by assumption) ?_; intro r n hr))
    go_loopw [7, 8] (fun s i wr => ∃ j r : Nat, j ≤ 8 ∧ i = .int .i64 (8 - (j : Int)) ∧ s = .float .f64 r ∧ Fr .f64 r (sC (op2 .mul .f64 (op2 .mul .f64 (op2 .add .f64 (op2 .sub .f64 c (cl .f64 (floatOfInt .f64 (wholeC c)))) one) tau) (op2 .mul .f64 (op2 .add .f64 (op2 .sub .f64 c (cl .f64 (floatOfInt .f64 (wholeC c)))) one) tau)) j) ∧ Below w.heap.size w wr) (fun _ i _ => (intOf i).toNat)
    case atStart => exact ⟨0, _, by omega, rfl, rfl, f1, by (repeat' first | exact Below.refl _ _ | (refine Below.setCell ?_ (by first | omega | (simp; omega) | simp) _) | (refine below_drewN ?_ _) | (refine Below.alloc ?_ (by first | omega | (simp; omega) | simp) _) | (refine Below.trans ?_ (Below.mono (by assumption) (by first | omega | (simp; omega) | simp))))⟩
    case round =>
      obtain ⟨j, r, hj, rfl, rfl, fr, hbel⟩ := hrel
      by_cases hlt : j < 8
      · have HB := Lib.hid hbel; clear hbel
        have hm3 : wrap64 (2 * (8 - (j : Int)) * (2 * (8 - (j : Int)) + 1)) = 2 * (8 - (j : Int)) * (2 * (8 - (j : Int)) + 1) := by
          have : j = 0 ∨ j = 1 ∨ j = 2 ∨ j = 3 ∨ j = 4 ∨ j = 5 ∨ j = 6 ∨ j = 7 := by omega
          rcases this with rfl | rfl | rfl | rfl | rfl | rfl | rfl | rfl <;> (unfold wrap64; omega)
        have fk : Fr .f64 (floatOfInt .f64 (wrap64 (2 * (8 - (j : Int)) * (2 * (8 - (j : Int)) + 1)))) (dC j) := by rw [hm3]; exact intFr _
        clear hm3
        go_wp2_with (first | (refine Fl.wpList_cmp rfl rfl rfl rfl rfl (by assumption) (by assumption) ?_; try simp only [h0, g1, g2, h1, h2, h3]) | (refine Fl.wpList_fint rfl rfl rfl (by kernel_rfl) Try.underlying2 (by assumption) ?_) | (refine Fl.wpList_fl rfl rfl rfl rfl rfl (by assumption) (by assumption) ?_; intro r n hr))
        go_roundw
        case rel => exact ⟨j + 1, _, by omega, by go_num, rfl, by assumption, by have hbel := HB.out; have hbz := hbel.size; (repeat' first | exact Below.refl _ _ | (refine Below.setCell ?_ (by first | omega | (simp; omega) | simp) _) | (refine below_drewN ?_ _) | (refine Below.alloc ?_ (by first | omega | (simp; omega) | simp) _) | (refine Below.trans ?_ (Below.mono (by assumption) (by first | omega | (simp; omega) | simp))))⟩
        case measure => simp [intOf]; omega
      · obtain rfl : j = 8 := by omega
        have HB := Lib.hid hbel; clear hbel
        go_wp2_with (first | (refine Fl.wpList_cmp rfl rfl rfl rfl rfl (by assumption) (by assumption) ?_; try simp only [h0, g1, g2, h1, h2, h3]) | (refine Fl.wpList_fint rfl rfl rfl (by kernel_rfl) Try.underlying2 (by assumption) ?_) | (refine Fl.wpList_fl rfl rfl rfl rfl rfl (by assumption) (by assumption) ?_; intro r n hr))
        go_ret
        exact ⟨_, rfl, by first | exact hr | exact (neg_fr hr HE.out).1 | assumption, by have hbel := HB.out; have hbz := hbel.size; (repeat' first | exact Below.refl _ _ | (refine Below.setCell ?_ (by first | omega | (simp; omega) | simp) _) | (refine below_drewN ?_ _) | (refine Below.alloc ?_ (by first | omega | (simp; omega) | simp) _) | (refine Below.trans ?_ (Below.mono (by assumption) (by first | omega | (simp; omega) | simp))))⟩
  · go_enter Try.func101, Try.ntmps101
    go_wp2_with (first | (refine Fl.wpList_cmp rfl rfl rfl rfl rfl (by assumption) (by assumption) ?_; try simp only [h0, g1, g2, h1, h2, h3]) | (refine Fl.wpList_fint rfl rfl rfl (by kernel_rfl) Try.underlying2 (by assumption) ?_) | (refine Fl.wpList_fl rfl rfl rfl rfl rfl (by assumption) (by assumption) ?_; intro r n hr))
    go_loopw [7, 8] (fun s i wr => ∃ j r : Nat, j ≤ 8 ∧ i = .int .i64 (8 - (j : Int)) ∧ s = .float .f64 r ∧ Fr .f64 r (sC (op2 .mul .f64 (op2 .mul .f64 (op2 .sub .f64 half (op2 .add .f64 (op2 .sub .f64 c (cl .f64 (floatOfInt .f64 (wholeC c)))) one)) tau) (op2 .mul .f64 (op2 .sub .f64 half (op2 .add .f64 (op2 .sub .f64 c (cl .f64 (floatOfInt .f64 (wholeC c)))) one)) tau)) j) ∧ Below w.heap.size w wr) (fun _ i _ => (intOf i).toNat)
    case atStart => exact ⟨0, _, by omega, rfl, rfl, f1, by (repeat' first | exact Below.refl _ _ | (refine Below.setCell ?_ (by first | omega | (simp; omega) | simp) _) | (refine below_drewN ?_ _) | (refine Below.alloc ?_ (by first | omega | (simp; omega) | simp) _) | (refine Below.trans ?_ (Below.mono (by assumption) (by first | omega | (simp; omega) | simp))))⟩
    case round =>
      obtain ⟨j, r, hj, rfl, rfl, fr, hbel⟩ := hrel
      by_cases hlt : j < 8
      · have HB := Lib.hid hbel; clear hbel
        have hm3 : wrap64 (2 * (8 - (j : Int)) * (2 * (8 - (j : Int)) + 1)) = 2 * (8 - (j : Int)) * (2 * (8 - (j : Int)) + 1) := by
          have : j = 0 ∨ j = 1 ∨ j = 2 ∨ j = 3 ∨ j = 4 ∨ j = 5 ∨ j = 6 ∨ j = 7 := by omega
          rcases this with rfl | rfl | rfl | rfl | rfl | rfl | rfl | rfl <;> (unfold wrap64; omega)
        have fk : Fr .f64 (floatOfInt .f64 (wrap64 (2 * (8 - (j : Int)) * (2 * (8 - (j : Int)) + 1)))) (dC j) := by rw [hm3]; exact intFr _
        clear hm3
        go_wp2_with (first | (refine Fl.wpList_cmp rfl rfl rfl rfl rfl (by assumption) (by assumption) ?_; try simp only [h0, g1, g2, h1, h2, h3]) | (refine Fl.wpList_fint rfl rfl rfl (by kernel_rfl) Try.underlying2 (by assumption) ?_) | (refine Fl.wpList_fl rfl rfl rfl rfl rfl (by assumption) (by assumption) ?_; intro r n hr))
        go_roundw
        case rel => exact ⟨j + 1, _, by omega, by go_num, rfl, by assumption, by have hbel := HB.out; have hbz := hbel.size; (repeat' first | exact Below.refl _ _ | (refine Below.setCell ?_ (by first | omega | (simp; omega) | simp) _) | (refine below_drewN ?_ _) | (refine Below.alloc ?_ (by first | omega | (simp; omega) | simp) _) | (refine Below.trans ?_ (Below.mono (by assumption) (by first | omega | (simp; omega) | simp))))⟩
        case measure => simp [intOf]; omega
      · obtain rfl : j = 8 := by omega
        have HB := Lib.hid hbel; clear hbel
        go_wp2_with (first | (refine Fl.wpList_cmp rfl rfl rfl rfl rfl (by assumption) (by assumption) ?_; try simp only [h0, g1, g2, h1, h2, h3]) | (refine Fl.wpList_fint rfl rfl rfl (by kernel_rfl) Try.underlying2 (by assumption) ?_) | (refine Fl.wpList_fl rfl rfl rfl rfl rfl (by assumption) (by assumption) ?_; intro r n hr))
        go_ret
        exact ⟨_, rfl, by first | exact hr | exact (neg_fr hr HE.out).1 | assumption, by have hbel := HB.out; have hbz := hbel.size; (repeat' first | exact Below.refl _ _ | (refine Below.setCell ?_ (by first | omega | (simp; omega) | simp) _) | (refine below_drewN ?_ _) | (refine Below.alloc ?_ (by first | omega | (simp; omega) | simp) _) | (refine Below.trans ?_ (Below.mono (by assumption) (by first | omega | (simp; omega) | simp))))⟩
  · go_enter Try.func101, Try.ntmps101
    go_wp2_with (first | (refine Fl.wpList_cmp rfl rfl rfl rfl rfl (by assumption) (by assumption) ?_; try simp only [h0, g1, g2, h1, h2, h3]) | (refine Fl.wpList_fint rfl rfl rfl (by kernel_rfl) Try.underlying2 (by assumption) ?_) | (refine Fl.wpList_fl rfl rfl rfl rfl rfl (by assumption) (by assumption) ?_; intro r n hr))
    go_loopw [7, 8] (fun s i wr => ∃ j r : Nat, j ≤ 8 ∧ i = .int .i64 (8 - (j : Int)) ∧ s = .float .f64 r ∧ Fr .f64 r (sC (op2 .mul .f64 (op2 .mul .f64 (op2 .sub .f64 (op2 .add .f64 (op2 .sub .f64 c (cl .f64 (floatOfInt .f64 (wholeC c)))) one) half) tau) (op2 .mul .f64 (op2 .sub .f64 (op2 .add .f64 (op2 .sub .f64 c (cl .f64 (floatOfInt .f64 (wholeC c)))) one) half) tau)) j) ∧ Below w.heap.size w wr) (fun _ i _ => (intOf i).toNat)
    case atStart => exact ⟨0, _, by omega, rfl, rfl, f1, by (repeat' first | exact Below.refl _ _ | (refine Below.setCell ?_ (by first | omega | (simp; omega) | simp) _) | (refine below_drewN ?_ _) | (refine Below.alloc ?_ (by first | omega | (simp; omega) | simp) _) | (refine Below.trans ?_ (Below.mono (by assumption) (by first | omega | (simp; omega) | simp))))⟩
    case round =>
      obtain ⟨j, r, hj, rfl, rfl, fr, hbel⟩ := hrel
      by_cases hlt : j < 8
      · have HB := Lib.hid hbel; clear hbel
        have hm3 : wrap64 (2 * (8 - (j : Int)) * (2 * (8 - (j : Int)) + 1)) = 2 * (8 - (j : Int)) * (2 * (8 - (j : Int)) + 1) := by
          have : j = 0 ∨ j = 1 ∨ j = 2 ∨ j = 3 ∨ j = 4 ∨ j = 5 ∨ j = 6 ∨ j = 7 := by omega
          rcases this with rfl | rfl | rfl | rfl | rfl | rfl | rfl | rfl <;> (unfold wrap64; omega)
        have fk : Fr .f64 (floatOfInt .f64 (wrap64 (2 * (8 - (j : Int)) * (2 * (8 - (j : Int)) + 1)))) (dC j) := by rw [hm3]; exact intFr _
        clear hm3
        go_wp2_with (first | (refine Fl.wpList_cmp rfl rfl rfl rfl rfl (by assumption) (by assumption) ?_; try simp only [h0, g1, g2, h1, h2, h3]) | (refine Fl.wpList_fint rfl rfl rfl (by kernel_rfl) Try.underlying2 (by assumption) ?_) | (refine Fl.wpList_fl rfl rfl rfl rfl rfl (by assumption) (by assumption) ?_; intro r n hr))
        go_roundw
        case rel => exact ⟨j + 1, _, by omega, by go_num, rfl, by assumption, by have hbel := HB.out; have hbz := hbel.size; (repeat' first | exact Below.refl _ _ | (refine Below.setCell ?_ (by first | omega | (simp; omega) | simp) _) | (refine below_drewN ?_ _) | (refine Below.alloc ?_ (by first | omega | (simp; omega) | simp) _) | (refine Below.trans ?_ (Below.mono (by assumption) (by first | omega | (simp; omega) | simp))))⟩
        case measure => simp [intOf]; omega
      · obtain rfl : j = 8 := by omega
        have HB := Lib.hid hbel; clear hbel
        go_wp2_with (first | (refine Fl.wpList_cmp rfl rfl rfl rfl rfl (by assumption) (by assumption) ?_; try simp only [h0, g1, g2, h1, h2, h3]) | (refine Fl.wpList_fint rfl rfl rfl (by kernel_rfl) Try.underlying2 (by assumption) ?_) | (refine Fl.wpList_fl rfl rfl rfl rfl rfl (by assumption) (by assumption) ?_; intro r n hr))
        go_ret
        exact ⟨_, rfl, by first | exact hr | exact (neg_fr hr HE.out).1 | assumption, by have hbel := HB.out; have hbz := hbel.size; (repeat' first | exact Below.refl _ _ | (refine Below.setCell ?_ (by first | omega | (simp; omega) | simp) _) | (refine below_drewN ?_ _) | (refine Below.alloc ?_ (by first | omega | (simp; omega) | simp) _) | (refine Below.trans ?_ (Below.mono (by assumption) (by first | omega | (simp; omega) | simp))))⟩
  · go_enter Try.func101, Try.ntmps101
    go_wp2_with (first | (refine Fl.wpList_cmp rfl rfl rfl rfl rfl (by assumption) (by assumption) ?_; try simp only [h0, g1, g2, h1, h2, h3]) | (refine Fl.wpList_fint rfl rfl rfl (by kernel_rfl) Try.underlying2 (by assumption) ?_) | (refine Fl.wpList_fl rfl rfl rfl rfl rfl (by assumption) (by assumption) ?_; intro r n hr))
    go_loopw [7, 8] (fun s i wr => ∃ j r : Nat, j ≤ 8 ∧ i = .int .i64 (8 - (j : Int)) ∧ s = .float .f64 r ∧ Fr .f64 r (sC (op2 .mul .f64 (op2 .mul .f64 (op2 .sub .f64 half (op2 .sub .f64 (op2 .add .f64 (op2 .sub .f64 c (cl .f64 (floatOfInt .f64 (wholeC c)))) one) half)) tau) (op2 .mul .f64 (op2 .sub .f64 half (op2 .sub .f64 (op2 .add .f64 (op2 .sub .f64 c (cl .f64 (floatOfInt .f64 (wholeC c)))) one) half)) tau)) j) ∧ Below w.heap.size w wr) (fun _ i _ => (intOf i).toNat)
    case atStart => exact ⟨0, _, by omega, rfl, rfl, f1, by (repeat' first | exact Below.refl _ _ | (refine Below.setCell ?_ (by first | omega | (simp; omega) | simp) _) | (refine below_drewN ?_ _) | (refine Below.alloc ?_ (by first | omega | (simp; omega) | simp) _) | (refine Below.trans ?_ (Below.mono (by assumption) (by first | omega | (simp; omega) | simp))))⟩
    case round =>
      obtain ⟨j, r, hj, rfl, rfl, fr, hbel⟩ := hrel
      by_cases hlt : j < 8
      · have HB := Lib.hid hbel; clear hbel
        have hm3 : wrap64 (2 * (8 - (j : Int)) * (2 * (8 - (j : Int)) + 1)) = 2 * (8 - (j : Int)) * (2 * (8 - (j : Int)) + 1) := by
          have : j = 0 ∨ j = 1 ∨ j = 2 ∨ j = 3 ∨ j = 4 ∨ j = 5 ∨ j = 6 ∨ j = 7 := by omega
          rcases this with rfl | rfl | rfl | rfl | rfl | rfl | rfl | rfl <;> (unfold wrap64; omega)
        have fk : Fr .f64 (floatOfInt .f64 (wrap64 (2 * (8 - (j : Int)) * (2 * (8 - (j : Int)) + 1)))) (dC j) := by rw [hm3]; exact intFr _
        clear hm3
        go_wp2_with (first | (refine Fl.wpList_cmp rfl rfl rfl rfl rfl (by assumption) (by assumption) ?_; try simp only [h0, g1, g2, h1, h2, h3]) | (refine Fl.wpList_fint rfl rfl rfl (by kernel_rfl) Try.underlying2 (by assumption) ?_) | (refine Fl.wpList_fl rfl rfl rfl rfl rfl (by assumption) (by assumption) ?_; intro r n hr))
        go_roundw
        case rel => exact ⟨j + 1, _, by omega, by go_num, rfl, by assumption, by have hbel := HB.out; have hbz := hbel.size; (repeat' first | exact Below.refl _ _ | (refine Below.setCell ?_ (by first | omega | (simp; omega) | simp) _) | (refine below_drewN ?_ _) | (refine Below.alloc ?_ (by first | omega | (simp; omega) | simp) _) | (refine Below.trans ?_ (Below.mono (by assumption) (by first | omega | (simp; omega) | simp))))⟩
        case measure => simp [intOf]; omega
      · obtain rfl : j = 8 := by omega
        have HB := Lib.hid hbel; clear hbel
        go_wp2_with (first | (refine Fl.wpList_cmp rfl rfl rfl rfl rfl (by assumption) (by assumption) ?_; try simp only [h0, g1, g2, h1, h2, h3]) | (refine Fl.wpList_fint rfl rfl rfl (by kernel_rfl) Try.underlying2 (by assumption) ?_) | (refine Fl.wpList_fl rfl rfl rfl rfl rfl (by assumption) (by assumption) ?_; intro r n hr))
        go_ret
        exact ⟨_, rfl, by first | exact hr | exact (neg_fr hr HE.out).1 | assumption, by have hbel := HB.out; have hbz := hbel.size; (repeat' first | exact Below.refl _ _ | (refine Below.setCell ?_ (by first | omega | (simp; omega) | simp) _) | (refine below_drewN ?_ _) | (refine Below.alloc ?_ (by first | omega | (simp; omega) | simp) _) | (refine Below.trans ?_ (Below.mono (by assumption) (by first | omega | (simp; omega) | simp))))⟩

end Turn
end Go.Proofs.Ytggklnanhiomjab
