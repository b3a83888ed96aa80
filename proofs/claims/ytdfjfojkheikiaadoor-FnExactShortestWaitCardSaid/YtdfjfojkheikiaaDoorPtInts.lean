/- Rows of integers, beside tosses. -/
import Derived.Test.YtdfjfojkheikiaaDoorPart
import Derived.Test.YtdfjfojkheikiaaDoorRowI
namespace Go.Proofs.YtdfjfojkheikiaaDoor
set_option linter.unusedVariables false
set_option linter.unusedSimpArgs false
end Go.Proofs.YtdfjfojkheikiaaDoor
