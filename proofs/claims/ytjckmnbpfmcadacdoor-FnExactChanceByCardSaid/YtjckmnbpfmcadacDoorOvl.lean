/- OverlapsOf: the contracts of the program and of its model. -/
import Derived.Test.YtjckmnbpfmcadacDoorPtInts
namespace Go.Proofs.YtjckmnbpfmcadacDoor
set_option linter.unusedSimpArgs false
open Go.ChangeShapes Go.WideShapes Go.ChangeAt Go.RowKit
set_option linter.unusedVariables false

theorem suffix_any (s p : ByteArray) (w : World) (hs : s.size ≤ 9223372036854775807) :
    Calls Tryd.prog 57 #[.string s, .string p] w fun e w' => e = .returned (.bool (Lib.hasSuffix s.data.toList p.data.toList)) ∧ w = w' :=
  (Tryd.strings_HasSuffix s p w hs).mono fun _ _ ⟨a, b⟩ => ⟨a, b.symm⟩

theorem ba_beq (a b : ByteArray) : (a.toList == b.toList) = decide (a = b) := by
  rw [Bool.eq_iff_iff, beq_iff_eq, decide_eq_true_iff, ba_eq, ByteArray.toList_eq, ByteArray.toList_eq]

end Go.Proofs.YtjckmnbpfmcadacDoor
