/- One number put into a basin. -/
import Derived.Test.YtbinjkaanbhikaaBaOw
import Derived.Test.YtbinjkaanbhikaaBaC
namespace Go.Proofs.Ytbinjkaanbhikaa
set_option linter.unusedSimpArgs false
set_option linter.unusedVariables false
open Go.RowKit
set_option maxRecDepth 20000
namespace Ba
open Fl Rate

end Ba
end Go.Proofs.Ytbinjkaanbhikaa
