/- WordOverlaps: contracts and the walk. -/
import Derived.Test.YtiblggfihpobkabDoorWo
import Derived.Test.YtiblggfihpobkabDoorWoOo
namespace Go.Proofs.YtiblggfihpobkabDoor
set_option linter.unusedSimpArgs false
open Go.ChangeShapes Go.WideShapes Go.ChangeAt Go.RowKit
set_option linter.unusedVariables false


def ansWov (s : ByteArray) : List Int := if woG 26 s then selR (ovlB s) 1 (s.size - 1) else []
theorem ansWov_len (s : ByteArray) : (ansWov s).length ≤ 1000 := by
  unfold ansWov
  split
  · rename_i h
    have := selR_len (ovlB s) 1 (s.size - 1)
    have := wo_in h
    omega
  · simp
end Go.Proofs.YtiblggfihpobkabDoor
