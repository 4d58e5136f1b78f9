/- The program's function of the turns of an angle. -/
import Derived.Test.YtpmnjbgfdhhomaaGreatDoorFlat
namespace Go.Proofs.YtpmnjbgfdhhomaaGreatDoor
set_option linter.unusedSimpArgs false
set_option linter.unusedVariables false
open Go.RowKit
namespace Flat
open Fl

theorem intFr (n : Int) : Fr .f64 (floatOfInt .f64 n) (cl .f64 (floatOfInt .f64 n)) := ⟨rfl, by unfold floatOfInt FloatKind.nearest; exact FloatKind.f64.format.write_lt _⟩

set_option maxHeartbeats 1600000 in
theorem impl_flat (x : Nat) (c : Option Nat) (w : World) (f : Fr .f64 x c) : Calls Tryz.prog 55 #[.float .f64 x] w (RetF .f64 (flatC c) w) := by
  have f1 : Fr .f64 4607182418800017408 one := Fr.const (by decide +kernel) (by decide)
  have f8 : Fr .f64 4620693217682128896 (some 4620693217682128896) := Fr.const (by decide +kernel) (by decide)
  have f9 : Fr .f64 4618760256179416344 (some 4618760256179416344) := Fr.const (by decide +kernel) (by decide)
  go_enter Tryz.func55, Tryz.ntmps55
  go_wp2
  go_loopw [0, 6] (fun s i wr => ∃ k r : Nat, k ≤ 3 ∧ i = .int .i64 k ∧ s = .float .f64 r ∧ Fr .f64 r (tC c k) ∧ Below w.heap.size w wr) (fun _ i _ => 3 - (intOf i).toNat)
  case atStart => exact ⟨0, x, by omega, rfl, rfl, f, Below.refl _ _⟩
  case round =>
    obtain ⟨k, r, hk, rfl, rfl, fr, hbel⟩ := hrel
    by_cases hlt : k < 3
    · have HB := Lib.hid hbel; clear hbel
      go_wp2_with (first | (go_at_call 84; refine (Flat.long_product _ _ _ _ _ (by assumption) (by assumption)).mono ?_; rintro e w' ⟨r, rfl, hr, hb⟩; have hz := hb.size; try simp only [World.size_alloc, World.size_setCell, World.heap_drewN, World.size_drew] at hz; obtain ⟨hc, hf⟩ := Fl.bcell hb; try (have g : w.heap.size < w'.heap.size := by omega); try (have g : w.heap.size ≤ w'.heap.size := by omega)) | (go_at_call 59; refine (Root.go_sqrt _ _ _ (by assumption)).mono ?_; rintro e w' ⟨r, rfl, hr, hb⟩; have hz := hb.size; try simp only [World.size_alloc, World.size_setCell, World.heap_drewN, World.size_drew] at hz; obtain ⟨hc, hf⟩ := Fl.bcell hb; try (have g : w.heap.size < w'.heap.size := by omega); try (have g : w.heap.size ≤ w'.heap.size := by omega)) | (refine Fl.wpList_fl rfl rfl rfl rfl rfl (by assumption) (by assumption) ?_; intro r n hr))
      go_roundw
      case rel => exact ⟨k + 1, _, by omega, by go_num, rfl, by assumption, by have hbel := HB.out; have hbz := hbel.size; (repeat' first | exact Below.refl _ _ | (refine Below.setCell ?_ (by first | omega | (simp; omega) | simp) _) | (refine below_drewN ?_ _) | (refine Below.alloc ?_ (by first | omega | (simp; omega) | simp) _) | (refine Below.trans ?_ (Below.mono (by assumption) (by first | omega | (simp; omega) | simp))))⟩
      case measure => simp [intOf]; omega
    · obtain rfl : k = 3 := by omega
      have HB := Lib.hid hbel; clear hbel
      go_wp2_with (first | (go_at_call 84; refine (Flat.long_product _ _ _ _ _ (by assumption) (by assumption)).mono ?_; rintro e w' ⟨r, rfl, hr, hb⟩; have hz := hb.size; try simp only [World.size_alloc, World.size_setCell, World.heap_drewN, World.size_drew] at hz; obtain ⟨hc, hf⟩ := Fl.bcell hb; try (have g : w.heap.size < w'.heap.size := by omega); try (have g : w.heap.size ≤ w'.heap.size := by omega)) | (go_at_call 59; refine (Root.go_sqrt _ _ _ (by assumption)).mono ?_; rintro e w' ⟨r, rfl, hr, hb⟩; have hz := hb.size; try simp only [World.size_alloc, World.size_setCell, World.heap_drewN, World.size_drew] at hz; obtain ⟨hc, hf⟩ := Fl.bcell hb; try (have g : w.heap.size < w'.heap.size := by omega); try (have g : w.heap.size ≤ w'.heap.size := by omega)) | (refine Fl.wpList_fl rfl rfl rfl rfl rfl (by assumption) (by assumption) ?_; intro r n hr))
      have hb2 : Below w.heap.size w w' := by have hbel := HB.out; have hbz := hbel.size; (repeat' first | exact Below.refl _ _ | (refine Below.setCell ?_ (by first | omega | (simp; omega) | simp) _) | (refine below_drewN ?_ _) | (refine Below.alloc ?_ (by first | omega | (simp; omega) | simp) _) | (refine Below.trans ?_ (Below.mono (by assumption) (by first | omega | (simp; omega) | simp))))
      have HB2 := Lib.hid hb2; clear hb2
      go_loopw [4, 5] (fun s i wr => ∃ j r : Nat, j ≤ 8 ∧ i = .int .i64 (15 - 2 * (j : Int)) ∧ s = .float .f64 r ∧ Fr .f64 r (pC (op2 .mul .f64 (tC c 3) (tC c 3)) j) ∧ Below w.heap.size w wr) (fun _ i _ => (intOf i + 1).toNat)
      case atStart => exact ⟨0, 0, by omega, rfl, rfl, Fr.const (by decide +kernel) (by decide), HB2.out⟩
      case round =>
        obtain ⟨j, q, hj, rfl, rfl, fq, hbel⟩ := hrel
        by_cases hlt : j < 8
        · have HB := Lib.hid hbel; clear hbel
          have hd : (1 : Int) ≤ 15 - 2 * (j : Int) := by omega
          have fk := intFr (15 - 2 * (j : Int))
          go_wp2_with (first | (go_at_call 84; refine (Flat.long_product _ _ _ _ _ (by assumption) (by assumption)).mono ?_; rintro e w' ⟨r, rfl, hr, hb⟩; have hz := hb.size; try simp only [World.size_alloc, World.size_setCell, World.heap_drewN, World.size_drew] at hz; obtain ⟨hc, hf⟩ := Fl.bcell hb; try (have g : w.heap.size < w'.heap.size := by omega); try (have g : w.heap.size ≤ w'.heap.size := by omega)) | (go_at_call 59; refine (Root.go_sqrt _ _ _ (by assumption)).mono ?_; rintro e w' ⟨r, rfl, hr, hb⟩; have hz := hb.size; try simp only [World.size_alloc, World.size_setCell, World.heap_drewN, World.size_drew] at hz; obtain ⟨hc, hf⟩ := Fl.bcell hb; try (have g : w.heap.size < w'.heap.size := by omega); try (have g : w.heap.size ≤ w'.heap.size := by omega)) | (refine Fl.wpList_fl rfl rfl rfl rfl rfl (by assumption) (by assumption) ?_; intro r n hr))
          go_roundw
          case rel => exact ⟨j + 1, _, by omega, by go_num, rfl, by assumption, by have hbel := HB.out; have hbz := hbel.size; (repeat' first | exact Below.refl _ _ | (refine Below.setCell ?_ (by first | omega | (simp; omega) | simp) _) | (refine below_drewN ?_ _) | (refine Below.alloc ?_ (by first | omega | (simp; omega) | simp) _) | (refine Below.trans ?_ (Below.mono (by assumption) (by first | omega | (simp; omega) | simp))))⟩
          case measure => simp [intOf]; omega
        · obtain rfl : j = 8 := by omega
          have HB := Lib.hid hbel; clear hbel
          go_wp2_with (first | (go_at_call 84; refine (Flat.long_product _ _ _ _ _ (by assumption) (by assumption)).mono ?_; rintro e w' ⟨r, rfl, hr, hb⟩; have hz := hb.size; try simp only [World.size_alloc, World.size_setCell, World.heap_drewN, World.size_drew] at hz; obtain ⟨hc, hf⟩ := Fl.bcell hb; try (have g : w.heap.size < w'.heap.size := by omega); try (have g : w.heap.size ≤ w'.heap.size := by omega)) | (go_at_call 59; refine (Root.go_sqrt _ _ _ (by assumption)).mono ?_; rintro e w' ⟨r, rfl, hr, hb⟩; have hz := hb.size; try simp only [World.size_alloc, World.size_setCell, World.heap_drewN, World.size_drew] at hz; obtain ⟨hc, hf⟩ := Fl.bcell hb; try (have g : w.heap.size < w'.heap.size := by omega); try (have g : w.heap.size ≤ w'.heap.size := by omega)) | (refine Fl.wpList_fl rfl rfl rfl rfl rfl (by assumption) (by assumption) ?_; intro r n hr))
          go_ret
          exact ⟨_, rfl, by assumption, by have hbel := HB.out; have hbz := hbel.size; (repeat' first | exact Below.refl _ _ | (refine Below.setCell ?_ (by first | omega | (simp; omega) | simp) _) | (refine below_drewN ?_ _) | (refine Below.alloc ?_ (by first | omega | (simp; omega) | simp) _) | (refine Below.trans ?_ (Below.mono (by assumption) (by first | omega | (simp; omega) | simp))))⟩

end Flat
end Go.Proofs.YtpmnjbgfdhhomaaGreatDoor
