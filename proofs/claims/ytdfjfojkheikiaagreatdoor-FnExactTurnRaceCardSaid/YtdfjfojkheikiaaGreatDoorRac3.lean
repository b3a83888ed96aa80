/- AreRacers: the contracts of the program and of its model, and the walk. -/
import Derived.Test.YtdfjfojkheikiaaGreatDoorWinP
import Derived.Test.YtdfjfojkheikiaaGreatDoorRac2
namespace Go.Proofs.YtdfjfojkheikiaaGreatDoor
set_option linter.unusedSimpArgs false
open Go.ChangeShapes Go.WideShapes Go.ChangeAt Go.RowKit
set_option linter.unusedVariables false

theorem SRow.lit2 (w : World) (a b : ByteArray) : SRow (w.alloc (.cells #[.string a, .string b] 9)) w.heap.size (.slice (some ⟨w.heap.size, 0, none⟩) 2 2) [a, b] :=
  World.ownsRow_lit w #[.string a, .string b] 2 (Nat.le_refl _) (by simp [maxLen]) rfl
theorem two_mem {a b : ByteArray} (ha : a.size ≤ maxLen) (hb : b.size ≤ maxLen) : ∀ x ∈ [a, b], x.size ≤ maxLen := by
  intro x hx
  simp only [List.mem_cons, List.not_mem_nil, or_false] at hx
  rcases hx with rfl | rfl
  · exact ha
  · exact hb
theorem implAreR_any (a b : ByteArray) (w : World) (ha : a.size ≤ maxLen) (hb : b.size ≤ maxLen) :
    Calls Tryz.prog 8 #[.string a, .string b] w fun e w' => e = .returned (.bool (twoG a b)) ∧ Below w.heap.size w w' := by
  have hR := Lib.hid (SRow.lit2 w a b)
  have hm := Lib.hid (two_mem ha hb)
  go_enter Tryz.func8, Tryz.ntmps8
  go_wp2_with fail
  refine (implMany_any [a, b] _ _ _ hR.out hm.out).mono ?_
  rintro e w1 ⟨rfl, hb1⟩
  rw [two_many]
  go_wp2_with fail
  go_ret
  exact ⟨rfl, bel_trans (bel_alloc (Below.refl _ _) _) hb1⟩
end Go.Proofs.YtdfjfojkheikiaaGreatDoor
