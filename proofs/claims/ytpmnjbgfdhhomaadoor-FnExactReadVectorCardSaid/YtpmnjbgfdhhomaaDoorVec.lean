/- Vectors of three numbers: what the functions return, number by number, as classes. -/
import Derived.Test.YtpmnjbgfdhhomaaDoorRows
import Derived.Test.YtpmnjbgfdhhomaaDoorRet
import Derived.Test.YtpmnjbgfdhhomaaDoorSame
namespace Go.Proofs.YtpmnjbgfdhhomaaDoor
set_option linter.unusedSimpArgs false
set_option linter.unusedVariables false
set_option maxRecDepth 20000
open Go.RowKit
namespace Vec
open Fl

set_option maxHeartbeats 400000 in
theorem to_vector (a0 a1 a2 : Nat) (c0 c1 c2 : Option Nat) (w : World) (f0 : Fr .f32 a0 c0) (f1 : Fr .f32 a1 c1) (f2 : Fr .f32 a2 c2) :
    Calls Tryd.prog 17 #[.agg #[.float .f32 a0, .float .f32 a1, .float .f32 a2]] w (RetV c0 c1 c2 w) := by
  go_enter Tryd.func17, Tryd.ntmps17
  go_wp2_with (first | (refine Fl.wpList_fl rfl rfl rfl rfl rfl (by assumption) (by assumption) ?_; intro r n hr))
  refine bodyPost_ret ?ohr rfl ⟨?ox, ?oy, ?oz, rfl, ?of0, ?of1, ?of2, ?obel⟩
  case of0 => assumption
  case of1 => assumption
  case of2 => assumption
  case ohr => simp [results, Tryd.results17, go_sem, *]
  case obel => (repeat' first | exact Below.refl _ _ | (refine Below.setCell ?_ (by first | omega | (simp; omega) | simp) _) | (refine below_drewN ?_ _) | (refine Below.alloc ?_ (by first | omega | (simp; omega) | simp) _) | (refine Below.trans ?_ (Below.mono (by assumption) (by first | omega | (simp; omega) | simp))))

set_option maxHeartbeats 800000 in
theorem eq_vector (a0 a1 a2 b0 b1 b2 : Nat) (c0 c1 c2 : Option Nat) (w : World) (f0 : Fr .f32 a0 c0) (f1 : Fr .f32 a1 c1) (f2 : Fr .f32 a2 c2) (g0 : Fr .f32 b0 c0) (g1 : Fr .f32 b1 c1) (g2 : Fr .f32 b2 c2) :
    Calls Tryd.prog 21 #[.agg #[.float .f32 a0, .float .f32 a1, .float .f32 a2], .agg #[.float .f32 b0, .float .f32 b1, .float .f32 b2]] w (RetD (.bool true) w) := by
  go_enter Tryd.func21, Tryd.ntmps21
  go_wp2_with (first | (go_at_call 31; refine (Same.same_true _ _ _ _ (by assumption) (by assumption)).mono ?_; rintro e w' ⟨n, rfl, rfl⟩) | (refine Fl.wpList_conv rfl rfl rfl (by kernel_rfl) Tryd.underlying51 (by assumption) (Fl.fits_wide _) ?_; intro r n hr))
  go_ret
  exact ⟨rfl, by (repeat' first | exact Below.refl _ _ | (refine Below.setCell ?_ (by first | omega | (simp; omega) | simp) _) | (refine below_drewN ?_ _) | (refine Below.alloc ?_ (by first | omega | (simp; omega) | simp) _) | (refine Below.trans ?_ (Below.mono (by assumption) (by first | omega | (simp; omega) | simp))))⟩

end Vec
end Go.Proofs.YtpmnjbgfdhhomaaDoor
