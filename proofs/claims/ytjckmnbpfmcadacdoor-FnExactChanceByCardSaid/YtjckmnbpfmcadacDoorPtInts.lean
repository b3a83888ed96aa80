/- Rows of integers, beside tosses. -/
import Derived.Test.YtjckmnbpfmcadacDoorPart
import Derived.Test.YtjckmnbpfmcadacDoorRowI
namespace Go.Proofs.YtjckmnbpfmcadacDoor
set_option linter.unusedVariables false
set_option linter.unusedSimpArgs false
end Go.Proofs.YtjckmnbpfmcadacDoor
