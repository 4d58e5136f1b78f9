/- The two errors of strconv, as the program's text lays them. -/
import Derived.Test.YtpmnjbgfdhhomaaDoorRows
import Derived.Stop.LaidErr
import Derived.Stop.Joined
import Derived.LaidMore
import Derived.LaidLaws
namespace Go.Proofs.YtpmnjbgfdhhomaaDoor
set_option linter.unusedSimpArgs false
set_option linter.unusedVariables false
open Go.RowKit
namespace Dec

theorem star : "*" ++ "errors.errorString" = "*errors.errorString" := by decide
theorem row_err : ∀ u, Tryd.prog.typeName? 3 u = some "*errors.errorString" → u = 129 := fun u h =>
  typeName_ptr_named (nm := "errors.errorString") (by rw [star]; kernel_rfl) (by kernel_rfl) (by decide) u (by rw [star]; exact h)

theorem err_of {n : String} {g : Nat} {text : List UInt8} {r : List (String × DataW Unit)} {W : World} (hg : Tryd.prog.globalNamed n = some g) (ht : (Tryd.prog.globals[g]?).map (·.type) = some 71) (h : laidMet Tryd.prog ((n, .iface "*errors.errorString" (.ptr (.agg [.lit (.string text)]))) :: r) W) : ∃ te pe, W.cell? ⟨g, 0, none⟩ = some (.iface te pe) := by
  obtain ⟨a, s, hv, _, _, _⟩ := laid_sentinel h hg ht Tryd.underlying71 row_err Tryd.underlying129 Tryd.underlying131 rfl rfl Tryd.underlying9 (by kernel_rfl) (by kernel_rfl)
  exact ⟨_, _, by simpa using World.var?_cell hg hv 0⟩

theorem errs_of {W : World} {pre post : List (String × DataW Unit)} (h : laidMet Tryd.prog (pre ++ ("strconv.ErrRange", Rows.laid_strconv_ErrRange) :: ("strconv.ErrSyntax", Rows.laid_strconv_ErrSyntax) :: post) W) : (∃ te pe, W.cell? ⟨3, 0, none⟩ = some (.iface te pe)) ∧ ∃ te pe, W.cell? ⟨4, 0, none⟩ = some (.iface te pe) := by
  induction pre with
  | nil => exact ⟨err_of (by kernel_rfl) (by kernel_rfl) (laidMet.tail h), err_of (by kernel_rfl) (by kernel_rfl) h⟩
  | cons x r ih => exact ih (laidMet.tail h)
end Dec
end Go.Proofs.YtpmnjbgfdhhomaaDoor
