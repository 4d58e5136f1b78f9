/- The angle of a point: the program's function, and the short cases of the model's. -/
import Derived.Test.YtpmnjbgfdhhomaaGreatDoorAng
import Derived.Test.YtpmnjbgfdhhomaaGreatDoorFinite
namespace Go.Proofs.YtpmnjbgfdhhomaaGreatDoor
set_option linter.unusedSimpArgs false
set_option linter.unusedVariables false
open Go.RowKit
namespace Flat
open Fl

def Num (c : Option Nat) : Prop := ∃ b, c = some b ∧ ∃ s m p, FloatKind.f64.decode b = .number s m p

theorem abs_num (x : Nat) (c : Option Nat) (w : World) (f : Fr .f64 x c) (hc : Num c) : Calls Tryz.prog 54 #[.float .f64 x] w (RetF .f64 (c.map fun b => b % 9223372036854775808) w) := by
  obtain ⟨b, rfl, h⟩ := hc
  obtain rfl := eq_of_some f
  exact abs_walk _ _ w f h

theorem impl_zero (y x : Nat) (cy cx : Option Nat) (w : World) (fy : Fr .f32 y cy) (fx : Fr .f32 x cx) (ffy : fin .f32 y = true) (ffx : fin .f32 x = true)
    (h3 : cmpC .eql (ord .f32 cx (some 0)) = true) (h4 : cmpC .eql (ord .f32 cy (some 0)) = true) :
    Calls Tryz.prog 17 #[.float .f32 y, .float .f32 x] w (RetF .f32 (some 0) w) := by
  have ly : y < 4294967296 := fy.2
  have lx : x < 4294967296 := fx.2
  have f0 : Fr .f64 0 (some 0) := Fr.const (by decide +kernel) (by decide)
  have z0 : Fr .f32 0 (some 0) := Fr.const (by decide +kernel) (by decide)
  have fq : Fr .f64 4598175219545276416 (some 4598175219545276416) := Fr.const (by decide +kernel) (by decide)
  have fh : Fr .f64 4602678819172646912 (some 4602678819172646912) := Fr.const (by decide +kernel) (by decide)
  go_enter Tryz.func17, Tryz.ntmps17
  go_wp2_with (first | (go_at_call 52; refine (Finite.impl_finite _ _ (by assumption)).mono ?_; rintro e w' ⟨rfl, rfl⟩) | (refine Fl.wpList_cmp rfl rfl rfl rfl rfl (by assumption) (by assumption) ?_) | (refine Fl.wpList_fl rfl rfl rfl rfl rfl (by assumption) (by assumption) ?_; intro r n hr))
  go_ret
  exact ⟨_, rfl, z0, by (repeat' first | exact Below.refl _ _ | (refine Below.setCell ?_ (by first | omega | (simp; omega) | simp) _) | (refine below_drewN ?_ _) | (refine Below.alloc ?_ (by first | omega | (simp; omega) | simp) _) | (refine Below.trans ?_ (Below.mono (by assumption) (by first | omega | (simp; omega) | simp))))⟩

theorem impl_nan (y x : Nat) (cy cx : Option Nat) (w : World) (fy : Fr .f32 y cy) (fx : Fr .f32 x cx) (ff : (fin .f32 x && fin .f32 y) = false) :
    Calls Tryz.prog 17 #[.float .f32 y, .float .f32 x] w (RetF .f32 none w) := by
  have ly : y < 4294967296 := fy.2
  have lx : x < 4294967296 := fx.2
  have hn : Fr .f32 2143289344 none := ⟨by decide +kernel, by decide⟩
  have hb := Bits.frombits_run 2143289344
  have hnan : ∀ w, Calls Tryz.prog 53 #[] w (RetF .f32 none w) := by
    intro w
    go_enter Tryz.func53, Tryz.ntmps53
    go_wp2
    go_ret
    exact ⟨_, rfl, hn, Below.refl _ _⟩
  have HN := Lib.hid hnan
  clear hnan
  cases ex : fin .f32 x
  · clear ff
    go_enter Tryz.func17, Tryz.ntmps17
    go_wp2_with (first | (go_at_call 52; refine (Finite.impl_finite _ _ (by assumption)).mono ?_; rintro e w' ⟨rfl, rfl⟩) | (go_at_call 53; refine (HN.out _).mono ?_; rintro e w' ⟨r, rfl, hr, hb⟩; have hz := hb.size; try simp only [World.size_alloc, World.size_setCell, World.heap_drewN, World.size_drew] at hz; obtain ⟨hc, hf⟩ := Fl.bcell hb; try (have g : w.heap.size < w'.heap.size := by omega); try (have g : w.heap.size ≤ w'.heap.size := by omega)))
    go_ret
    exact ⟨_, rfl, by assumption, by (repeat' first | exact Below.refl _ _ | (refine Below.setCell ?_ (by first | omega | (simp; omega) | simp) _) | (refine below_drewN ?_ _) | (refine Below.alloc ?_ (by first | omega | (simp; omega) | simp) _) | (refine Below.trans ?_ (Below.mono (by assumption) (by first | omega | (simp; omega) | simp))))⟩
  · have ey : fin .f32 y = false := by rw [ex] at ff; exact ff
    clear ff
    go_enter Tryz.func17, Tryz.ntmps17
    go_wp2_with (first | (go_at_call 52; refine (Finite.impl_finite _ _ (by assumption)).mono ?_; rintro e w' ⟨rfl, rfl⟩) | (go_at_call 53; refine (HN.out _).mono ?_; rintro e w' ⟨r, rfl, hr, hb⟩; have hz := hb.size; try simp only [World.size_alloc, World.size_setCell, World.heap_drewN, World.size_drew] at hz; obtain ⟨hc, hf⟩ := Fl.bcell hb; try (have g : w.heap.size < w'.heap.size := by omega); try (have g : w.heap.size ≤ w'.heap.size := by omega)))
    go_ret
    exact ⟨_, rfl, by assumption, by (repeat' first | exact Below.refl _ _ | (refine Below.setCell ?_ (by first | omega | (simp; omega) | simp) _) | (refine below_drewN ?_ _) | (refine Below.alloc ?_ (by first | omega | (simp; omega) | simp) _) | (refine Below.trans ?_ (Below.mono (by assumption) (by first | omega | (simp; omega) | simp))))⟩

set_option maxHeartbeats 4000000 in
theorem impl_main (y x : Nat) (cy cx : Option Nat) (w : World) (fy : Fr .f32 y cy) (fx : Fr .f32 x cx) (ffy : fin .f32 y = true) (ffx : fin .f32 x = true)
    (ny' : Num (convC .f32 .f64 cy)) (nx' : Num (convC .f32 .f64 cx)) (over nx ny ex ey : Bool) (h3 : cmpC .eql (ord .f32 cx (some 0)) = ex) (h4 : cmpC .eql (ord .f32 cy (some 0)) = ey) (h34 : (ex && ey) = false)
    (h5 : cmpC .gtr (ord .f64 (ab (convC .f32 .f64 cy)) (ab (convC .f32 .f64 cx))) = over) (h6 : cmpC .lss (ord .f32 cx (some 0)) = nx) (h7 : cmpC .lss (ord .f32 cy (some 0)) = ny) (hT : Bd 0 (tanC over (ab (convC .f32 .f64 cy)) (ab (convC .f32 .f64 cx)))) :
    Calls Tryz.prog 17 #[.float .f32 y, .float .f32 x] w (RetF .f32 (convC .f64 .f32 (angC over nx ny (ab (convC .f32 .f64 cy)) (ab (convC .f32 .f64 cx)))) w) := by
  have ly : y < 4294967296 := fy.2
  have lx : x < 4294967296 := fx.2
  have f0 : Fr .f64 0 (some 0) := Fr.const (by decide +kernel) (by decide)
  have z0 : Fr .f32 0 (some 0) := Fr.const (by decide +kernel) (by decide)
  have fq : Fr .f64 4598175219545276416 (some 4598175219545276416) := Fr.const (by decide +kernel) (by decide)
  have fh : Fr .f64 4602678819172646912 (some 4602678819172646912) := Fr.const (by decide +kernel) (by decide)
  have HF := Lib.hid ((ang_bd (nx := nx) (ny := ny) hT).fits (by omega))
  have HBN := Lib.hid (back_bd (over_bd (flat_bd hT) over) nx)
  clear hT
  obtain ⟨O, hO⟩ : ∃ O, O = over := ⟨_, rfl⟩
  obtain ⟨X, hX⟩ : ∃ O, O = nx := ⟨_, rfl⟩
  obtain ⟨Y, hY⟩ : ∃ O, O = ny := ⟨_, rfl⟩
  cases ex
  all_goals (try (cases ey; all_goals (first | (exfalso; revert h34; decide) | skip)))
  all_goals clear h34
  all_goals cases O
  all_goals cases X
  all_goals cases Y
  all_goals subst hO hX hY
  all_goals
    go_enter Tryz.func17, Tryz.ntmps17
    go_wp2_with (first | (go_at_call 52; refine (Finite.impl_finite _ _ (by assumption)).mono ?_; rintro e w' ⟨rfl, rfl⟩) | (refine Fl.wpList_cmp rfl rfl rfl rfl rfl (by assumption) (by assumption) ?_; try simp only [h3, h4, h5, h6, h7]) | (refine Fl.wpList_conv rfl rfl rfl (by kernel_rfl) Tryz.underlying44 (by assumption) (Fl.fits_wide _) ?_; intro r n hr) | (go_at_call 54; refine (abs_num _ _ _ (by assumption) (by assumption)).mono ?_; rintro e w' ⟨r, rfl, hr, hb⟩; have hz := hb.size; try simp only [World.size_alloc, World.size_setCell, World.heap_drewN, World.size_drew] at hz) | (go_at_call 55; refine (impl_flat _ _ _ (by assumption)).mono ?_; rintro e w' ⟨r, rfl, hr, hb⟩; have hz := hb.size; try simp only [World.size_alloc, World.size_setCell, World.heap_drewN, World.size_drew] at hz; obtain ⟨hc, hf⟩ := Fl.bcell hb; try (have g : w.heap.size < w'.heap.size := by omega); try (have g : w.heap.size ≤ w'.heap.size := by omega)) | (go_at_call 19; refine (Root.impl_narrow _ (angC _ _ _ _ _) _ (by first | exact hr | exact neg_fr' hr HBN.out) HF.out).mono ?_; rintro e w' ⟨r, rfl, hr, hb⟩; have hz := hb.size; try simp only [World.size_alloc, World.size_setCell, World.heap_drewN, World.size_drew] at hz) | (refine Fl.wpList_fl rfl rfl rfl rfl rfl (by assumption) (by assumption) ?_; intro r n hr))
    go_ret
    exact ⟨_, rfl, by assumption, by (repeat' first | exact Below.refl _ _ | (refine Below.setCell ?_ (by first | omega | (simp; omega) | simp) _) | (refine below_drewN ?_ _) | (refine Below.alloc ?_ (by first | omega | (simp; omega) | simp) _) | (refine Below.trans ?_ (Below.mono (by assumption) (by first | omega | (simp; omega) | simp))))⟩

end Flat
end Go.Proofs.YtpmnjbgfdhhomaaGreatDoor
