/- Many racers, as the model knows them, and racers of both sides. -/
import Derived.Test.YtdfjfojkheikiaaGreatDoorRac
namespace Go.Proofs.YtdfjfojkheikiaaGreatDoor
set_option linter.unusedSimpArgs false
open Go.ChangeShapes Go.WideShapes Go.ChangeAt Go.RowKit
set_option linter.unusedVariables false

theorem con_no {xs : List ByteArray} {k : Nat} {x : ByteArray} (h : ∀ j, j < k → decide (x = xs.getD j noS) = false) (hk : k ≤ xs.length) : Lib.containsS (xs.take k) x = false := by
  cases hc : Lib.containsS (xs.take k) x with
  | false => rfl
  | true =>
    rw [Lib.containsS_iff] at hc
    obtain ⟨j, hj, e⟩ := List.getElem_of_mem hc
    have hj2 : j < k := by simp at hj; omega
    have := h j hj2
    rw [List.getElem_take] at e
    rw [List.getD_eq_getElem?_getD, List.getElem?_eq_getElem (by omega)] at this
    simp [e] at this
theorem con_yes {xs : List ByteArray} {k j : Nat} {x : ByteArray} (hj : j < k) (hk : k ≤ xs.length) (h : decide (x = xs.getD j noS) = true) : Lib.containsS (xs.take k) x = true := by
  rw [Lib.containsS_iff, of_decide_eq_true h, List.getD_eq_getElem?_getD, List.getElem?_eq_getElem (by omega)]
  show xs[j] ∈ _
  rw [List.mem_iff_getElem]
  exact ⟨j, by simp; omega, by rw [List.getElem_take]⟩

end Go.Proofs.YtdfjfojkheikiaaGreatDoor
