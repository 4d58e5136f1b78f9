/- Reading a list of numbers: the model's function. -/
import Derived.Test.YtpmnjbgfdhhomaaGreatDoorFList
namespace Go.Proofs.YtpmnjbgfdhhomaaGreatDoor
set_option linter.unusedSimpArgs false
set_option linter.unusedVariables false
open Go.RowKit
namespace FList
open Cut Fl