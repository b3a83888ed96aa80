/- The chance of tosses, as the program and as its model tell it. -/
import Derived.Test.YtjckmnbpfmcadacDoorPt
import Derived.Test.YtjckmnbpfmcadacDoorPow
import Derived.Deep.RegionHeld3
namespace Go.Proofs.YtjckmnbpfmcadacDoor
set_option linter.unusedSimpArgs false
open Go.ChangeShapes Go.WideShapes Go.ChangeAt Go.RowKit
set_option linter.unusedVariables false

end Go.Proofs.YtjckmnbpfmcadacDoor
