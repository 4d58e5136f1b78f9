/- Square roots: the told function, narrowing of what fits, and the two functions on 32-bit numbers. -/
import Derived.Test.YtaacneppnpognaaRows
import Derived.Test.YtaacneppnpognaaRet
import Derived.Test.YtaacneppnpognaaRange
namespace Go.Proofs.Ytaacneppnpognaa
set_option linter.unusedSimpArgs false
set_option linter.unusedVariables false
open Go.RowKit
namespace Root
open Fl

theorem cl_cases' (c : Option Nat) (x : Nat) {k : FloatKind} (f : Fr k x c) : c = none ∨ c = some x := by
  rw [← f.1]; unfold cl; split
  · exact .inl rfl
  · exact .inr rfl

theorem spec_narrow (x : Nat) (c : Option Nat) (w : World) (f : Fr .f64 x c) (hf : Fits .f64 .f32 c) : Calls Try.prog 59 #[.float .f64 x] w (RetF .f32 (convC .f64 .f32 c) w) := by
  go_enter Try.func59, Try.ntmps59
  go_wp2_with (first | (refine Fl.wpList_conv rfl rfl rfl (by kernel_rfl) Try.underlying22 (by assumption) (by assumption) ?_; intro r n hr))
  go_ret
  exact ⟨_, rfl, by assumption, below_drewN (Below.refl _ _) _⟩

theorem impl_narrow (x : Nat) (c : Option Nat) (w : World) (f : Fr .f64 x c) (hf : Fits .f64 .f32 c) : Calls Try.prog 33 #[.float .f64 x] w (RetF .f32 (convC .f64 .f32 c) w) := by
  go_enter Try.func33, Try.ntmps33
  go_wp2_with (first | (refine Fl.wpList_conv rfl rfl rfl (by kernel_rfl) Try.underlying22 (by assumption) (by assumption) ?_; intro r n hr))
  go_ret
  exact ⟨_, rfl, by assumption, below_drewN (Below.refl _ _) _⟩

end Root
end Go.Proofs.Ytaacneppnpognaa
