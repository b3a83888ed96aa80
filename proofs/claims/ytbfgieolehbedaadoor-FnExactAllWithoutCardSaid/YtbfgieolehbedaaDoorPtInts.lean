/- Rows of integers, beside tosses. -/
import Derived.Test.YtbfgieolehbedaaDoorPart
import Derived.Test.YtbfgieolehbedaaDoorRowI
namespace Go.Proofs.YtbfgieolehbedaaDoor
set_option linter.unusedVariables false
set_option linter.unusedSimpArgs false
end Go.Proofs.YtbfgieolehbedaaDoor
