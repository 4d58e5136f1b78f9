/- Reading a list of numbers: the model's function. -/
import Derived.Test.YtpmnjbgfdhhomabGreatDoorFList
namespace Go.Proofs.YtpmnjbgfdhhomabGreatDoor
set_option linter.unusedSimpArgs false
set_option linter.unusedVariables false
open Go.RowKit
namespace FList
open Cut Fl