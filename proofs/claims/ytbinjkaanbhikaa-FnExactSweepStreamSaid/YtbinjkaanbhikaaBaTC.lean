/- Arguments of a region's call, without the last of three. -/
import Derived.Test.YtbinjkaanbhikaaBaTS
namespace Go.Proofs.Ytbinjkaanbhikaa
set_option linter.unusedSimpArgs false
set_option linter.unusedVariables false
open Go.RowKit
set_option maxRecDepth 20000
namespace Ba
open Fl Rate

theorem cut3 {x y z x' y' z' : Value} (h : #[x, y, z] = #[x', y', z']) : #[x, y] = #[x', y'] := by
  simp only [Array.mk.injEq, List.cons.injEq] at h
  rw [h.1, h.2.1]

end Ba
end Go.Proofs.Ytbinjkaanbhikaa
