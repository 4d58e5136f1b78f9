/- The text of a list of numbers, whole. -/
import Derived.Test.YtpmnjbgfdhhomaaDoorNTL
import Derived.Lib.LaidTab
import Derived.Stop.Joined
import Derived.Stop.LaidErr
import Derived.LaidMore
namespace Go.Proofs.YtpmnjbgfdhhomaaDoor
set_option linter.unusedSimpArgs false
set_option linter.unusedVariables false
open Go.RowKit
namespace NTL
open Fl _root_.Go.Proofs.YtpmnjbgfdhhomaaDoor.Frame Hex

def tab64 : List Int := [0, 1, 56, 2, 57, 49, 28, 3, 61, 58, 42, 50, 38, 29, 17, 4, 62, 47, 59, 36, 45, 43, 51, 22, 53, 39, 33, 30, 24, 18, 12, 5, 63, 55, 48, 27, 60, 41, 37, 16, 46, 35, 44, 21, 52, 32, 23, 11, 54, 26, 40, 15, 34, 20, 31, 10, 25, 14, 19, 9, 13, 8, 7, 6]

theorem cell64 {W : World} {pre post : List (String × DataW Unit)} (h : laidMet Tryd.prog (pre ++ ("math/bits.deBruijn64tab", Rows.laid_math_bits_deBruijn64tab) :: post) W) : W.cell? ⟨6, 15, none⟩ = some (.int .u8 4) := by
  induction pre with
  | nil =>
    have ht : Lib.TabIs Tryd.prog W "math/bits.deBruijn64tab" .u8 tab64 := Lib.tabIs_of_head (g := 6) (n := 64) (by kernel_rfl) (by kernel_rfl) Tryd.underlying133 Tryd.underlying5 (by kernel_rfl) (by kernel_rfl) h
    exact ht.cell (by kernel_rfl) 15 (by decide)
  | cons x r ih => exact ih (laidMet.tail h)

set_option maxRecDepth 20000 in
theorem spec_numberstext (a : Option Addr) (len cap : Nat) (zs : List Nat) (w : World) (hn : IsNums .f32 w a len cap zs) :
    Calls Tryd.prog 8 #[.slice a len cap] w fun e w' => e = .returned (.tuple #[.string (ans zs (decide (len ≤ 256))), .bool (decide (len ≤ 256))]) ∧ Below w.heap.size w w' := by
  have hm : len ≤ 9223372036854775807 := by have h2 := hn.2.1; have h3 := hn.2.2.1; unfold maxLen at h3; omega
  have HN := Lib.hid hn
  clear hn
  by_cases h : len ≤ 256
  · have hd : decide (len ≤ 256) = true := by simpa using h
    rw [hd]
    have HT := Lib.hid (spec_text a len cap zs w HN.out h)
    have hd' : decide ((len : Int) ≤ 256) = true := by simp; omega
    clear hd
    go_enter Tryd.func8, Tryd.ntmps8
    go_wp2_with (first | (go_at_call 28; refine HT.out.mono ?_; rintro e w' ⟨rfl, hb⟩) | go_in)
    go_ret2
    exact ⟨rfl, by assumption⟩
  · have hd : decide (len ≤ 256) = false := by simpa using h
    rw [hd]
    have hd' : decide ((len : Int) ≤ 256) = false := by simp; omega
    clear hd
    go_enter Tryd.func8, Tryd.ntmps8
    go_wp2_with go_in
    go_ret2
    exact ⟨rfl, Below.refl _ _⟩

set_option maxRecDepth 20000 in
theorem impl_numberstext (a : Option Addr) (len cap : Nat) (zs : List Nat) (w : World) (hn : IsNums .f32 w a len cap zs) (h64 : w.cell? ⟨6, 15, none⟩ = some (.int .u8 4)) :
    Calls Tryd.prog 10 #[.slice a len cap] w fun e w' => e = .returned (.tuple #[.string (ans zs (decide (len ≤ 256))), .bool (decide (len ≤ 256))]) ∧ Below w.heap.size w w' := by
  have HC := Lib.hid (impl_items32 a len cap zs w hn h64)
  clear hn h64
  generalize decide (len ≤ 256) = b at *
  go_enter Tryd.func10, Tryd.ntmps10
  go_wp2_with fail
  refine HC.out.mono ?_
  rintro e w1 ⟨rfl, hb⟩
  go_wp2
  go_ret2
  exact ⟨rfl, hb⟩
end NTL
end Go.Proofs.YtpmnjbgfdhhomaaDoor
