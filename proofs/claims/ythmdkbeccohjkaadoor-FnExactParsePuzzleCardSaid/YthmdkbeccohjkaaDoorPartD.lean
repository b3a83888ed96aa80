/- Contracts of the parts of chances: what follows a day, long shares, powers. -/
import Derived.Test.YthmdkbeccohjkaaDoorWeather
import Derived.Test.YthmdkbeccohjkaaDoorPow
namespace Go.Proofs.YthmdkbeccohjkaaDoor
set_option linter.unusedSimpArgs false
open Go.ChangeShapes Go.WideShapes Go.ChangeAt Go.RowKit
set_option linter.unusedVariables false

def mixB (a b : Int) : Bool := decide (1 ≤ a) && decide (1 ≤ b)

theorem dayV_turn {d : Int} (hd : dayV d) : dayV (219 - d) := by unfold dayV at *; omega

end Go.Proofs.YthmdkbeccohjkaaDoor
