/- Rows of integers, beside tosses. -/
import Derived.Test.YtjckmnbpfmcadaaDoorPart
import Derived.Test.YtjckmnbpfmcadaaDoorRowI
namespace Go.Proofs.YtjckmnbpfmcadaaDoor
set_option linter.unusedVariables false
set_option linter.unusedSimpArgs false
end Go.Proofs.YtjckmnbpfmcadaaDoor
