/- Rows of integers, beside tosses. -/
import Derived.Test.YtjckmnbpfmcadabDoorPart
import Derived.Test.YtjckmnbpfmcadabDoorRowI
namespace Go.Proofs.YtjckmnbpfmcadabDoor
set_option linter.unusedVariables false
set_option linter.unusedSimpArgs false
end Go.Proofs.YtjckmnbpfmcadabDoor
