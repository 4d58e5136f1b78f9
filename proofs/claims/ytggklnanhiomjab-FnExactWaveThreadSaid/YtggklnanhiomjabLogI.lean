/- The logarithm: the program's function and the model's, for a number above zero. -/
import Derived.Test.YtggklnanhiomjabLog
import Derived.Test.YtggklnanhiomjabRows
namespace Go.Proofs.Ytggklnanhiomjab
set_option linter.unusedSimpArgs false
set_option linter.unusedVariables false
open Go.RowKit
namespace Log
open Fl Flat

set_option maxHeartbeats 4000000 in
theorem impl_log (x : Nat) (c : Option Nat) (w : World) (f : Fr .f64 x c) (D V : Nat) (hD : D ≤ 400) (hV : V ≤ 400) (hd : ∀ k, k ≤ D → cmpC .geq (ord .f64 (hC c k) c15) = decide (k < D)) (hu : ∀ k, k ≤ V → cmpC .lss (ord .f64 (gC (hC c D) k) c075) = decide (k < V)) :
    Calls Try.prog 109 #[.float .f64 x] w (RetF .f64 (logC (gC (hC c D) V) ((D : Int) - V)) w) := by
  have HD := Lib.hid hd
  have HU := Lib.hid hu
  clear hd hu
  have f0 : Fr .f64 0 (some 0) := Fr.const (by decide +kernel) (by decide)
  have f1 : Fr .f64 4607182418800017408 one := Fr.const (by decide +kernel) (by decide)
  have f2 : Fr .f64 4611686018427387904 two := Fr.const (by decide +kernel) (by decide)
  have f15 : Fr .f64 4609434218613702656 c15 := Fr.const (by decide +kernel) (by decide)
  have f75 : Fr .f64 4604930618986332160 c075 := Fr.const (by decide +kernel) (by decide)
  have fl : Fr .f64 4604418534313441775 ln2 := Fr.const (by decide +kernel) (by decide)
  go_enter Try.func109, Try.ntmps109
  go_wp2_with (first | (refine Fl.wpList_fl rfl rfl rfl rfl rfl (by assumption) (by assumption) ?_; intro r n hr))
  go_loopw [0, 3] (fun s i wr => ∃ k r : Nat, k ≤ D ∧ i = .int .i64 k ∧ s = .float .f64 r ∧ Fr .f64 r (hC c k) ∧ Below w.heap.size w wr) (fun _ i _ => D - (intOf i).toNat)
  case atStart => exact ⟨0, _, by omega, rfl, rfl, f, by (repeat' first | exact Below.refl _ _ | (refine Below.setCell ?_ (by first | omega | (simp; omega) | simp) _) | (refine below_drewN ?_ _) | (refine Below.alloc ?_ (by first | omega | (simp; omega) | simp) _) | (refine Below.trans ?_ (Below.mono (by assumption) (by first | omega | (simp; omega) | simp))))⟩
  case round =>
    obtain ⟨k, r, hk, rfl, rfl, fr, hbel⟩ := hrel
    have h1 := (HD.out k hk)
    by_cases hlt : k < D
    · rw [decide_eq_true hlt] at h1
      have HB := Lib.hid hbel; clear hbel
      go_wp2_with (first | (refine Fl.wpList_cmp rfl rfl rfl rfl rfl (by assumption) (by assumption) ?_; try simp only [h1]) | (go_at_call 125; refine (Flat.long_product _ _ _ _ _ (by assumption) (by assumption)).mono ?_; rintro e w' ⟨r, rfl, hr, hb⟩; have hz := hb.size; try simp only [World.size_alloc, World.size_setCell, World.heap_drewN, World.size_drew] at hz; obtain ⟨hc, hf⟩ := Fl.bcell hb; try (have g : w.heap.size < w'.heap.size := by omega); try (have g : w.heap.size ≤ w'.heap.size := by omega)) | (refine Fl.wpList_fl rfl rfl rfl rfl rfl (by assumption) (by assumption) ?_; intro r n hr))
      go_roundw
      case rel => exact ⟨k + 1, _, by omega, by go_num, rfl, by assumption, by have hbel := HB.out; have hbz := hbel.size; (repeat' first | exact Below.refl _ _ | (refine Below.setCell ?_ (by first | omega | (simp; omega) | simp) _) | (refine below_drewN ?_ _) | (refine Below.alloc ?_ (by first | omega | (simp; omega) | simp) _) | (refine Below.trans ?_ (Below.mono (by assumption) (by first | omega | (simp; omega) | simp))))⟩
      case measure => simp [intOf]; omega
    · rw [decide_eq_false hlt] at h1
      obtain rfl : D = k := by omega
      have HB := Lib.hid hbel; clear hbel
      go_wp2_with (first | (refine Fl.wpList_cmp rfl rfl rfl rfl rfl (by assumption) (by assumption) ?_; try simp only [h1]) | (go_at_call 125; refine (Flat.long_product _ _ _ _ _ (by assumption) (by assumption)).mono ?_; rintro e w' ⟨r, rfl, hr, hb⟩; have hz := hb.size; try simp only [World.size_alloc, World.size_setCell, World.heap_drewN, World.size_drew] at hz; obtain ⟨hc, hf⟩ := Fl.bcell hb; try (have g : w.heap.size < w'.heap.size := by omega); try (have g : w.heap.size ≤ w'.heap.size := by omega)) | (refine Fl.wpList_fl rfl rfl rfl rfl rfl (by assumption) (by assumption) ?_; intro r n hr))
      go_simp
      go_loopw [0, 3] (fun s i wr => ∃ k r : Nat, k ≤ V ∧ i = .int .i64 ((D : Int) - k) ∧ s = .float .f64 r ∧ Fr .f64 r (gC (hC c D) k) ∧ Below w.heap.size w wr) (fun _ i _ => (V : Int) - D + intOf i |>.toNat)
      case atStart => exact ⟨0, _, by omega, by go_num, rfl, fr, by have hbel := HB.out; have hbz := hbel.size; (repeat' first | exact Below.refl _ _ | (refine Below.setCell ?_ (by first | omega | (simp; omega) | simp) _) | (refine below_drewN ?_ _) | (refine Below.alloc ?_ (by first | omega | (simp; omega) | simp) _) | (refine Below.trans ?_ (Below.mono (by assumption) (by first | omega | (simp; omega) | simp))))⟩
      case round =>
        obtain ⟨k, r, hk, rfl, rfl, fr, hbel⟩ := hrel
        have h1 := (HU.out k hk)
        by_cases hlt : k < V
        · rw [decide_eq_true hlt] at h1
          have HB := Lib.hid hbel; clear hbel
          go_wp2_with (first | (refine Fl.wpList_cmp rfl rfl rfl rfl rfl (by assumption) (by assumption) ?_; try simp only [h1]) | (go_at_call 125; refine (Flat.long_product _ _ _ _ _ (by assumption) (by assumption)).mono ?_; rintro e w' ⟨r, rfl, hr, hb⟩; have hz := hb.size; try simp only [World.size_alloc, World.size_setCell, World.heap_drewN, World.size_drew] at hz; obtain ⟨hc, hf⟩ := Fl.bcell hb; try (have g : w.heap.size < w'.heap.size := by omega); try (have g : w.heap.size ≤ w'.heap.size := by omega)) | (refine Fl.wpList_fl rfl rfl rfl rfl rfl (by assumption) (by assumption) ?_; intro r n hr))
          go_roundw
          case rel => exact ⟨k + 1, _, by omega, by go_num, rfl, by assumption, by have hbel := HB.out; have hbz := hbel.size; (repeat' first | exact Below.refl _ _ | (refine Below.setCell ?_ (by first | omega | (simp; omega) | simp) _) | (refine below_drewN ?_ _) | (refine Below.alloc ?_ (by first | omega | (simp; omega) | simp) _) | (refine Below.trans ?_ (Below.mono (by assumption) (by first | omega | (simp; omega) | simp))))⟩
          case measure => simp [intOf]; omega
        · rw [decide_eq_false hlt] at h1
          obtain rfl : V = k := by omega
          have HB := Lib.hid hbel; clear hbel
          go_wp2_with (first | (refine Fl.wpList_cmp rfl rfl rfl rfl rfl (by assumption) (by assumption) ?_; try simp only [h1]) | (go_at_call 125; refine (Flat.long_product _ _ _ _ _ (by assumption) (by assumption)).mono ?_; rintro e w' ⟨r, rfl, hr, hb⟩; have hz := hb.size; try simp only [World.size_alloc, World.size_setCell, World.heap_drewN, World.size_drew] at hz; obtain ⟨hc, hf⟩ := Fl.bcell hb; try (have g : w.heap.size < w'.heap.size := by omega); try (have g : w.heap.size ≤ w'.heap.size := by omega)) | (refine Fl.wpList_fl rfl rfl rfl rfl rfl (by assumption) (by assumption) ?_; intro r n hr))
          go_loopw [6, 7] (fun s i wr => ∃ j r : Nat, j ≤ 13 ∧ i = .int .i64 (25 - 2 * (j : Int)) ∧ s = .float .f64 r ∧ Fr .f64 r (qC (op2 .mul .f64 (op2 .quo .f64 (op2 .sub .f64 (gC (hC c D) V) one) (op2 .add .f64 (gC (hC c D) V) one)) (op2 .quo .f64 (op2 .sub .f64 (gC (hC c D) V) one) (op2 .add .f64 (gC (hC c D) V) one))) j) ∧ Below w.heap.size w wr) (fun _ i _ => (intOf i + 1).toNat)
          case atStart => exact ⟨0, _, by omega, rfl, rfl, f0, by have hbel := HB.out; have hbz := hbel.size; (repeat' first | exact Below.refl _ _ | (refine Below.setCell ?_ (by first | omega | (simp; omega) | simp) _) | (refine below_drewN ?_ _) | (refine Below.alloc ?_ (by first | omega | (simp; omega) | simp) _) | (refine Below.trans ?_ (Below.mono (by assumption) (by first | omega | (simp; omega) | simp))))⟩
          case round =>
            obtain ⟨j, q, hj, rfl, rfl, fq, hbel⟩ := hrel
            by_cases hlt : j < 13
            · have HB := Lib.hid hbel; clear hbel
              have hd : (1 : Int) ≤ 25 - 2 * (j : Int) := by omega
              have fk := Turn.intFr (25 - 2 * (j : Int))
              go_wp2_with (first | (refine Fl.wpList_cmp rfl rfl rfl rfl rfl (by assumption) (by assumption) ?_) | (go_at_call 125; refine (Flat.long_product _ _ _ _ _ (by assumption) (by assumption)).mono ?_; rintro e w' ⟨r, rfl, hr, hb⟩; have hz := hb.size; try simp only [World.size_alloc, World.size_setCell, World.heap_drewN, World.size_drew] at hz; obtain ⟨hc, hf⟩ := Fl.bcell hb; try (have g : w.heap.size < w'.heap.size := by omega); try (have g : w.heap.size ≤ w'.heap.size := by omega)) | (refine Fl.wpList_fl rfl rfl rfl rfl rfl (by assumption) (by assumption) ?_; intro r n hr))
              go_roundw
              case rel => exact ⟨j + 1, _, by omega, by go_num, rfl, by assumption, by have hbel := HB.out; have hbz := hbel.size; (repeat' first | exact Below.refl _ _ | (refine Below.setCell ?_ (by first | omega | (simp; omega) | simp) _) | (refine below_drewN ?_ _) | (refine Below.alloc ?_ (by first | omega | (simp; omega) | simp) _) | (refine Below.trans ?_ (Below.mono (by assumption) (by first | omega | (simp; omega) | simp))))⟩
              case measure => simp [intOf]; omega
            · obtain rfl : j = 13 := by omega
              have HB := Lib.hid hbel; clear hbel
              have fk := Turn.intFr ((D : Int) - (V : Int))
              go_wp2_with (first | (refine Fl.wpList_cmp rfl rfl rfl rfl rfl (by assumption) (by assumption) ?_) | (go_at_call 125; refine (Flat.long_product _ _ _ _ _ (by assumption) (by assumption)).mono ?_; rintro e w' ⟨r, rfl, hr, hb⟩; have hz := hb.size; try simp only [World.size_alloc, World.size_setCell, World.heap_drewN, World.size_drew] at hz; obtain ⟨hc, hf⟩ := Fl.bcell hb; try (have g : w.heap.size < w'.heap.size := by omega); try (have g : w.heap.size ≤ w'.heap.size := by omega)) | (refine Fl.wpList_fl rfl rfl rfl rfl rfl (by assumption) (by assumption) ?_; intro r n hr))
              go_ret
              exact ⟨_, rfl, by assumption, by have hbel := HB.out; have hbz := hbel.size; (repeat' first | exact Below.refl _ _ | (refine Below.setCell ?_ (by first | omega | (simp; omega) | simp) _) | (refine below_drewN ?_ _) | (refine Below.alloc ?_ (by first | omega | (simp; omega) | simp) _) | (refine Below.trans ?_ (Below.mono (by assumption) (by first | omega | (simp; omega) | simp))))⟩

set_option maxHeartbeats 4000000 in
theorem spec_log (x : Nat) (c : Option Nat) (w : World) (f : Fr .f64 x c) (D V : Nat) (hD : D ≤ 400) (hV : V ≤ 400) (hd : ∀ k, k ≤ D → cmpC .geq (ord .f64 (hC c k) c15) = decide (k < D)) (hu : ∀ k, k ≤ V → cmpC .lss (ord .f64 (gC (hC c D) k) c075) = decide (k < V)) (h1 : cmpC .neq (ord .f64 c c) = false) (h2 : cmpC .lss (ord .f64 c (some 0)) = false) (h3 : cmpC .eql (ord .f64 c (some 0)) = false) (hi : ∀ w, Calls Try.prog 126 #[.float .f64 x, .int .i64 1] w (RetD (.bool false) w)) :
    Calls Try.prog 106 #[.float .f64 x] w (RetF .f64 (logC (gC (hC c D) V) ((D : Int) - V)) w) := by
  have HD := Lib.hid hd
  have HU := Lib.hid hu
  have HI := Lib.hid hi
  clear hd hu hi
  have f0 : Fr .f64 0 (some 0) := Fr.const (by decide +kernel) (by decide)
  have f1 : Fr .f64 4607182418800017408 one := Fr.const (by decide +kernel) (by decide)
  have f2 : Fr .f64 4611686018427387904 two := Fr.const (by decide +kernel) (by decide)
  have f15 : Fr .f64 4609434218613702656 c15 := Fr.const (by decide +kernel) (by decide)
  have f75 : Fr .f64 4604930618986332160 c075 := Fr.const (by decide +kernel) (by decide)
  have fl : Fr .f64 4604418534313441775 ln2 := Fr.const (by decide +kernel) (by decide)
  go_enter Try.func106, Try.ntmps106
  go_wp2_with (first | (refine Fl.wpList_cmp rfl rfl rfl rfl rfl (by assumption) (by assumption) ?_; try simp only [h1, h2, h3]) | (go_at_call 126; refine (HI.out _).mono ?_; rintro e w' ⟨rfl, hb⟩; have hz := hb.size; try simp only [World.size_alloc, World.size_setCell, World.heap_drewN, World.size_drew] at hz; obtain ⟨hc, hf⟩ := Fl.bcell hb; try (have g : w.heap.size < w'.heap.size := by omega); try (have g : w.heap.size ≤ w'.heap.size := by omega)) | (refine Fl.wpList_fl rfl rfl rfl rfl rfl (by assumption) (by assumption) ?_; intro r n hr))
  go_loopw [0, 3] (fun s i wr => ∃ k r : Nat, k ≤ D ∧ i = .int .i64 k ∧ s = .float .f64 r ∧ Fr .f64 r (hC c k) ∧ Below w.heap.size w wr) (fun _ i _ => D - (intOf i).toNat)
  case atStart => exact ⟨0, _, by omega, rfl, rfl, f, by (repeat' first | exact Below.refl _ _ | (refine Below.setCell ?_ (by first | omega | (simp; omega) | simp) _) | (refine below_drewN ?_ _) | (refine Below.alloc ?_ (by first | omega | (simp; omega) | simp) _) | (refine Below.trans ?_ (Below.mono (by assumption) (by first | omega | (simp; omega) | simp))))⟩
  case round =>
    obtain ⟨k, r, hk, rfl, rfl, fr, hbel⟩ := hrel
    have h1 := (HD.out k hk)
    by_cases hlt : k < D
    · rw [decide_eq_true hlt] at h1
      have HB := Lib.hid hbel; clear hbel
      go_wp2_with (first | (refine Fl.wpList_cmp rfl rfl rfl rfl rfl (by assumption) (by assumption) ?_; try simp only [h1]) | (refine Fl.wpList_fl rfl rfl rfl rfl rfl (by assumption) (by assumption) ?_; intro r n hr))
      go_roundw
      case rel => exact ⟨k + 1, _, by omega, by go_num, rfl, by assumption, by have hbel := HB.out; have hbz := hbel.size; (repeat' first | exact Below.refl _ _ | (refine Below.setCell ?_ (by first | omega | (simp; omega) | simp) _) | (refine below_drewN ?_ _) | (refine Below.alloc ?_ (by first | omega | (simp; omega) | simp) _) | (refine Below.trans ?_ (Below.mono (by assumption) (by first | omega | (simp; omega) | simp))))⟩
      case measure => simp [intOf]; omega
    · rw [decide_eq_false hlt] at h1
      obtain rfl : D = k := by omega
      have HB := Lib.hid hbel; clear hbel
      go_wp2_with (first | (refine Fl.wpList_cmp rfl rfl rfl rfl rfl (by assumption) (by assumption) ?_; try simp only [h1]) | (refine Fl.wpList_fl rfl rfl rfl rfl rfl (by assumption) (by assumption) ?_; intro r n hr))
      go_simp
      go_loopw [0, 3] (fun s i wr => ∃ k r : Nat, k ≤ V ∧ i = .int .i64 ((D : Int) - k) ∧ s = .float .f64 r ∧ Fr .f64 r (gC (hC c D) k) ∧ Below w.heap.size w wr) (fun _ i _ => (V : Int) - D + intOf i |>.toNat)
      case atStart => exact ⟨0, _, by omega, by go_num, rfl, fr, by have hbel := HB.out; have hbz := hbel.size; (repeat' first | exact Below.refl _ _ | (refine Below.setCell ?_ (by first | omega | (simp; omega) | simp) _) | (refine below_drewN ?_ _) | (refine Below.alloc ?_ (by first | omega | (simp; omega) | simp) _) | (refine Below.trans ?_ (Below.mono (by assumption) (by first | omega | (simp; omega) | simp))))⟩
      case round =>
        obtain ⟨k, r, hk, rfl, rfl, fr, hbel⟩ := hrel
        have h1 := (HU.out k hk)
        by_cases hlt : k < V
        · rw [decide_eq_true hlt] at h1
          have HB := Lib.hid hbel; clear hbel
          go_wp2_with (first | (refine Fl.wpList_cmp rfl rfl rfl rfl rfl (by assumption) (by assumption) ?_; try simp only [h1]) | (refine Fl.wpList_fl rfl rfl rfl rfl rfl (by assumption) (by assumption) ?_; intro r n hr))
          go_roundw
          case rel => exact ⟨k + 1, _, by omega, by go_num, rfl, by assumption, by have hbel := HB.out; have hbz := hbel.size; (repeat' first | exact Below.refl _ _ | (refine Below.setCell ?_ (by first | omega | (simp; omega) | simp) _) | (refine below_drewN ?_ _) | (refine Below.alloc ?_ (by first | omega | (simp; omega) | simp) _) | (refine Below.trans ?_ (Below.mono (by assumption) (by first | omega | (simp; omega) | simp))))⟩
          case measure => simp [intOf]; omega
        · rw [decide_eq_false hlt] at h1
          obtain rfl : V = k := by omega
          have HB := Lib.hid hbel; clear hbel
          go_wp2_with (first | (refine Fl.wpList_cmp rfl rfl rfl rfl rfl (by assumption) (by assumption) ?_; try simp only [h1]) | (refine Fl.wpList_fl rfl rfl rfl rfl rfl (by assumption) (by assumption) ?_; intro r n hr))
          go_loopw [6, 7] (fun s i wr => ∃ j r : Nat, j ≤ 13 ∧ i = .int .i64 (25 - 2 * (j : Int)) ∧ s = .float .f64 r ∧ Fr .f64 r (qC (op2 .mul .f64 (op2 .quo .f64 (op2 .sub .f64 (gC (hC c D) V) one) (op2 .add .f64 (gC (hC c D) V) one)) (op2 .quo .f64 (op2 .sub .f64 (gC (hC c D) V) one) (op2 .add .f64 (gC (hC c D) V) one))) j) ∧ Below w.heap.size w wr) (fun _ i _ => (intOf i + 1).toNat)
          case atStart => exact ⟨0, _, by omega, rfl, rfl, f0, by have hbel := HB.out; have hbz := hbel.size; (repeat' first | exact Below.refl _ _ | (refine Below.setCell ?_ (by first | omega | (simp; omega) | simp) _) | (refine below_drewN ?_ _) | (refine Below.alloc ?_ (by first | omega | (simp; omega) | simp) _) | (refine Below.trans ?_ (Below.mono (by assumption) (by first | omega | (simp; omega) | simp))))⟩
          case round =>
            obtain ⟨j, q, hj, rfl, rfl, fq, hbel⟩ := hrel
            by_cases hlt : j < 13
            · have HB := Lib.hid hbel; clear hbel
              have hd : (1 : Int) ≤ 25 - 2 * (j : Int) := by omega
              have fk := Turn.intFr (25 - 2 * (j : Int))
              go_wp2_with (first | (refine Fl.wpList_cmp rfl rfl rfl rfl rfl (by assumption) (by assumption) ?_) | (refine Fl.wpList_fl rfl rfl rfl rfl rfl (by assumption) (by assumption) ?_; intro r n hr))
              go_roundw
              case rel => exact ⟨j + 1, _, by omega, by go_num, rfl, by assumption, by have hbel := HB.out; have hbz := hbel.size; (repeat' first | exact Below.refl _ _ | (refine Below.setCell ?_ (by first | omega | (simp; omega) | simp) _) | (refine below_drewN ?_ _) | (refine Below.alloc ?_ (by first | omega | (simp; omega) | simp) _) | (refine Below.trans ?_ (Below.mono (by assumption) (by first | omega | (simp; omega) | simp))))⟩
              case measure => simp [intOf]; omega
            · obtain rfl : j = 13 := by omega
              have HB := Lib.hid hbel; clear hbel
              have fk := Turn.intFr ((D : Int) - (V : Int))
              go_wp2_with (first | (refine Fl.wpList_cmp rfl rfl rfl rfl rfl (by assumption) (by assumption) ?_) | (refine Fl.wpList_fl rfl rfl rfl rfl rfl (by assumption) (by assumption) ?_; intro r n hr))
              go_ret
              exact ⟨_, rfl, by assumption, by have hbel := HB.out; have hbz := hbel.size; (repeat' first | exact Below.refl _ _ | (refine Below.setCell ?_ (by first | omega | (simp; omega) | simp) _) | (refine below_drewN ?_ _) | (refine Below.alloc ?_ (by first | omega | (simp; omega) | simp) _) | (refine Below.trans ?_ (Below.mono (by assumption) (by first | omega | (simp; omega) | simp))))⟩

end Log
end Go.Proofs.Ytggklnanhiomjab
