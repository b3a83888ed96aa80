/- Rows of integers, beside tosses. -/
import Derived.Test.YthaoelenleedmaaDoorPart
import Derived.Test.YthaoelenleedmaaDoorRowI
namespace Go.Proofs.YthaoelenleedmaaDoor
set_option linter.unusedVariables false
set_option linter.unusedSimpArgs false
end Go.Proofs.YthaoelenleedmaaDoor
