/- The comparison of two numbers that the exact laws use: words of one class are the same number. -/
import Derived.Test.YtpmnjbgfdhhomabGreatDoorRows
import Derived.Test.YtpmnjbgfdhhomabGreatDoorFlWalk
import Derived.Test.YtpmnjbgfdhhomabGreatDoorBits
namespace Go.Proofs.YtpmnjbgfdhhomabGreatDoor
set_option linter.unusedSimpArgs false
set_option linter.unusedVariables false
open Go.RowKit
namespace Same
open Fl

theorem ord_self {k : FloatKind} {x r : Nat} (h : Fr k r (some x)) : ord k (some x) (some x) = some .eq := by
  obtain rfl := eq_of_some h
  rw [← order_self k h.1, order_cl, h.1]