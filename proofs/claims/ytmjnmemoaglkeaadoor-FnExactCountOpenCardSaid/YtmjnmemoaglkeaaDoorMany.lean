/- AreManyRacers: the walk. WinnerOfMany and WinnerOfRace: the contracts of the program and of its model, and the walks. -/
import Derived.Test.YtmjnmemoaglkeaaDoorRdS
import Derived.Test.YtmjnmemoaglkeaaDoorRac3
namespace Go.Proofs.YtmjnmemoaglkeaaDoor
open Go.ChangeShapes Go.WideShapes Go.ChangeAt Go.RowKit
set_option linter.unusedVariables false

end Go.Proofs.YtmjnmemoaglkeaaDoor
