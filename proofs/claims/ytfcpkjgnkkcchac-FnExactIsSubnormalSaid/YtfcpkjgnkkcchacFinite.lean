/- Finite numbers: what the two functions return. -/
import Derived.Test.YtfcpkjgnkkcchacRows
import Derived.Test.YtfcpkjgnkkcchacFlWalk
import Derived.Test.YtfcpkjgnkkcchacFin
import Derived.Test.YtfcpkjgnkkcchacBits
namespace Go.Proofs.Ytfcpkjgnkkcchac
set_option linter.unusedSimpArgs false
set_option linter.unusedVariables false
open Go.RowKit
namespace Finite
open Fl

theorem and_mask (x : Nat) (hx : x < 4294967296) : bits .and .u32 (x : Int) 2147483647 = ((x % 2147483648 : Nat) : Int) := by
  rw [show (2147483647 : Int) = ((2147483647 : Nat) : Int) from rfl, u32_and_nat x 2147483647 hx (by decide)]
  have := Nat.and_two_pow_sub_one_eq_mod x 31
  rw [show 2 ^ 31 - 1 = 2147483647 from by decide] at this
  rw [this]