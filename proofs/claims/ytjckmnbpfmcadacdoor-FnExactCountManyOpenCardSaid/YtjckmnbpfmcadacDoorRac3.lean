/- AreRacers: the contracts of the program and of its model, and the walk. -/
import Derived.Test.YtjckmnbpfmcadacDoorWinP
import Derived.Test.YtjckmnbpfmcadacDoorRac2
namespace Go.Proofs.YtjckmnbpfmcadacDoor
set_option linter.unusedSimpArgs false
open Go.ChangeShapes Go.WideShapes Go.ChangeAt Go.RowKit
set_option linter.unusedVariables false

theorem SRow.lit2 (w : World) (a b : ByteArray) : SRow (w.alloc (.cells #[.string a, .string b] 9)) w.heap.size (.slice (some ⟨w.heap.size, 0, none⟩) 2 2) [a, b] :=
  World.ownsRow_lit w #[.string a, .string b] 2 (Nat.le_refl _) (by simp [maxLen]) rfl
theorem two_mem {a b : ByteArray} (ha : a.size ≤ maxLen) (hb : b.size ≤ maxLen) : ∀ x ∈ [a, b], x.size ≤ maxLen := by
  intro x hx
  simp only [List.mem_cons, List.not_mem_nil, or_false] at hx
  rcases hx with rfl | rfl
  · exact ha
  · exact hb
end Go.Proofs.YtjckmnbpfmcadacDoor
