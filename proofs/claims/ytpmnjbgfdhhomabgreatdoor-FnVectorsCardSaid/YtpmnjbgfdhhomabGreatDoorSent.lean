/- The two errors of strconv, as the program's text lays them. -/
import Derived.Test.YtpmnjbgfdhhomabGreatDoorRows
import Derived.Stop.LaidErr
import Derived.Stop.Joined
import Derived.LaidMore
import Derived.LaidLaws
namespace Go.Proofs.YtpmnjbgfdhhomabGreatDoor
set_option linter.unusedSimpArgs false
set_option linter.unusedVariables false
open Go.RowKit
namespace Dec

theorem star : "*" ++ "errors.errorString" = "*errors.errorString" := by decide
theorem row_err : ∀ u, Tryz.prog.typeName? 3 u = some "*errors.errorString" → u = 135 := fun u h =>
  typeName_ptr_named (nm := "errors.errorString") (by rw [star]; kernel_rfl) (by kernel_rfl) (by decide) u (by rw [star]; exact h)

theorem err_of {n : String} {g : Nat} {text : List UInt8} {r : List (String × DataW Unit)} {W : World} (hg : Tryz.prog.globalNamed n = some g) (ht : (Tryz.prog.globals[g]?).map (·.type) = some 81) (h : laidMet Tryz.prog ((n, .iface "*errors.errorString" (.ptr (.agg [.lit (.string text)]))) :: r) W) : ∃ te pe, W.cell? ⟨g, 0, none⟩ = some (.iface te pe) := by
  obtain ⟨a, s, hv, _, _, _⟩ := laid_sentinel h hg ht Tryz.underlying81 row_err Tryz.underlying135 Tryz.underlying137 rfl rfl Tryz.underlying9 (by kernel_rfl) (by kernel_rfl)
  exact ⟨_, _, by simpa using World.var?_cell hg hv 0⟩

theorem errs_of {W : World} {pre post : List (String × DataW Unit)} (h : laidMet Tryz.prog (pre ++ ("strconv.ErrRange", Rows.laid_strconv_ErrRange) :: ("strconv.ErrSyntax", Rows.laid_strconv_ErrSyntax) :: post) W) : (∃ te pe, W.cell? ⟨3, 0, none⟩ = some (.iface te pe)) ∧ ∃ te pe, W.cell? ⟨4, 0, none⟩ = some (.iface te pe) := by
  induction pre with
  | nil => exact ⟨err_of (by kernel_rfl) (by kernel_rfl) (laidMet.tail h), err_of (by kernel_rfl) (by kernel_rfl) h⟩
  | cons x r ih => exact ih (laidMet.tail h)
end Dec
end Go.Proofs.YtpmnjbgfdhhomabGreatDoor
