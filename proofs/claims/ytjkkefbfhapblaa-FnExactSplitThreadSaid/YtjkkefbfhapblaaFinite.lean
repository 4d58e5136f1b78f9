/- Finite numbers: what the two functions return. -/
import Derived.Test.YtjkkefbfhapblaaRows
import Derived.Test.YtjkkefbfhapblaaFlWalk
import Derived.Test.YtjkkefbfhapblaaFin
import Derived.Test.YtjkkefbfhapblaaBits
namespace Go.Proofs.Ytjkkefbfhapblaa
set_option linter.unusedSimpArgs false
set_option linter.unusedVariables false
open Go.RowKit
namespace Finite
open Fl

theorem and_mask (x : Nat) (hx : x < 4294967296) : bits .and .u32 (x : Int) 2147483647 = ((x % 2147483648 : Nat) : Int) := by
  rw [show (2147483647 : Int) = ((2147483647 : Nat) : Int) from rfl, u32_and_nat x 2147483647 hx (by decide)]
  have := Nat.and_two_pow_sub_one_eq_mod x 31
  rw [show 2 ^ 31 - 1 = 2147483647 from by decide] at this
  rw [this]

theorem impl_finite (x : Nat) (w : World) (hx : x < 4294967296) :
    Calls Try.prog 68 #[.float .f32 x] w fun e w' => e = .returned (.bool (fin .f32 x)) ∧ w = w' := by
  have hb := Bits.float32bits_run x
  have hm := and_mask x hx
  go_enter Try.func68, Try.ntmps68
  go_wp2
  go_ret
  refine ⟨?_, rfl⟩
  have e : decide ((x : Int) % 2147483648 < 2139095040) = fin .f32 x := by
    have : (x % 2147483648 < 2139095040) ↔ ((x : Int) % 2147483648 < 2139095040) := by omega
    show _ = decide (x % 2147483648 < 2139095040)
    rw [decide_eq_decide]; exact this.symm
  simp [e]

theorem spec_finite (x : Nat) (w : World) (hx : (Lit.float .f32 x).wf = true) :
    Calls Try.prog 64 #[.float .f32 x] w fun e w' => ∃ n, e = .returned (.bool (fin .f32 x)) ∧ w' = w.drewN n := by
  have fx := Fr.wf hx
  have H := Lib.hid hx; clear hx
  go_enter Try.func64, Try.ntmps64
  go_wp2_with (refine wpList_fl rfl rfl rfl rfl rfl fx fx ?_; intro r n hr)
  go_ret
  refine ⟨n, ?_, rfl⟩
  rw [fin_test hr]
  rfl
end Finite
end Go.Proofs.Ytjkkefbfhapblaa
