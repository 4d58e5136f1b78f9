/- The text of a list of numbers, whole. -/
import Derived.Test.YtpmnjbgfdhhomabGreatDoorNTL
import Derived.Lib.LaidTab
import Derived.Stop.Joined
import Derived.Stop.LaidErr
import Derived.LaidMore
namespace Go.Proofs.YtpmnjbgfdhhomabGreatDoor
set_option linter.unusedSimpArgs false
set_option linter.unusedVariables false
open Go.RowKit
namespace NTL
open Fl _root_.Go.Proofs.YtpmnjbgfdhhomabGreatDoor.Frame Hex

def tab64 : List Int := [0, 1, 56, 2, 57, 49, 28, 3, 61, 58, 42, 50, 38, 29, 17, 4, 62, 47, 59, 36, 45, 43, 51, 22, 53, 39, 33, 30, 24, 18, 12, 5, 63, 55, 48, 27, 60, 41, 37, 16, 46, 35, 44, 21, 52, 32, 23, 11, 54, 26, 40, 15, 34, 20, 31, 10, 25, 14, 19, 9, 13, 8, 7, 6]

theorem cell64 {W : World} {pre post : List (String × DataW Unit)} (h : laidMet Tryz.prog (pre ++ ("math/bits.deBruijn64tab", Rows.laid_math_bits_deBruijn64tab) :: post) W) : W.cell? ⟨6, 15, none⟩ = some (.int .u8 4) := by
  induction pre with
  | nil =>
    have ht : Lib.TabIs Tryz.prog W "math/bits.deBruijn64tab" .u8 tab64 := Lib.tabIs_of_head (g := 6) (n := 64) (by kernel_rfl) (by kernel_rfl) Tryz.underlying139 Tryz.underlying5 (by kernel_rfl) (by kernel_rfl) h
    exact ht.cell (by kernel_rfl) 15 (by decide)
  | cons x r ih => exact ih (laidMet.tail h)

set_option maxRecDepth 20000 in
theorem impl_numberstext (a : Option Addr) (len cap : Nat) (zs : List Nat) (w : World) (hn : IsNums .f32 w a len cap zs) (h64 : w.cell? ⟨6, 15, none⟩ = some (.int .u8 4)) :
    Calls Tryz.prog 28 #[.slice a len cap] w fun e w' => e = .returned (.tuple #[.string (ans zs (decide (len ≤ 256))), .bool (decide (len ≤ 256))]) ∧ Below w.heap.size w w' := by
  have HC := Lib.hid (impl_items32 a len cap zs w hn h64)
  clear hn h64
  generalize decide (len ≤ 256) = b at *
  go_enter Tryz.func28, Tryz.ntmps28
  go_wp2_with fail
  refine HC.out.mono ?_
  rintro e w1 ⟨rfl, hb⟩
  go_wp2
  go_ret2
  exact ⟨rfl, hb⟩
end NTL
end Go.Proofs.YtpmnjbgfdhhomabGreatDoor
