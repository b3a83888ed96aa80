/- Boxes of two cells that can be written. -/
import Derived.Test.YthmdkbeccohjkaaDoorCn
import Derived.OwnWalk
import Derived.WalkSmall
import Derived.Maps.AppendAt
namespace Go.Proofs.YthmdkbeccohjkaaDoor
set_option linter.unusedSimpArgs false
open Go.ChangeShapes Go.WideShapes Go.ChangeAt Go.RowKit
set_option linter.unusedVariables false

/-- A box that can be written. -/
def BoxW (w : World) (k : Nat) (x y : Value) : Prop := Box2 w k x y ∧ w.frozen? ⟨k, 0, none⟩ = false ∧ w.frozen? ⟨k, 1, none⟩ = false
theorem BoxW.grown {w w' : World} {k b : Nat} {x y : Value} (h : BoxW w k x y) (hg : w.grownBy w' (some b)) (hne : k ≠ b) : BoxW w' k x y := by
  have e := hg.block k h.1.2.2 (by simpa using hne)
  have ec : ∀ o, w'.cell? ⟨k, o, none⟩ = w.cell? ⟨k, o, none⟩ := fun o => by unfold World.cell?; simp only [e]
  have ef : ∀ o, w'.frozen? ⟨k, o, none⟩ = w.frozen? ⟨k, o, none⟩ := fun o => by unfold World.frozen?; simp only [e]
  exact ⟨⟨(ec 0).trans h.1.1, (ec 1).trans h.1.2.1, Nat.lt_of_lt_of_le h.1.2.2 hg.size⟩, (ef 0).trans h.2.1, (ef 1).trans h.2.2⟩
theorem BoxW.keep {w w1 : World} {k : Nat} {x y : Value} (h : BoxW w k x y) (hb : Below w.heap.size w w1) : BoxW w1 k x y :=
  ⟨h.1.keep hb, (hb.frozen (p := ⟨k, 0, none⟩) h.1.2.2).trans h.2.1, (hb.frozen (p := ⟨k, 1, none⟩) h.1.2.2).trans h.2.2⟩
theorem BoxW.set {w : World} {k : Nat} {x y : Value} (h : BoxW w k x y) (a b : Value) : BoxW ((w.setCell ⟨k, 0, none⟩ a).setCell ⟨k, 1, none⟩ b) k a b := by
  obtain ⟨⟨h0, h1, h2⟩, h3, h4⟩ := h
  refine ⟨⟨?_, ?_, ?_⟩, ?_, ?_⟩
  all_goals simp [go_sem, h0, h1, h2, h3, h4]
theorem grown_one (w : World) (k o : Nat) (v : Value) : w.grownBy (w.setCell ⟨k, o, none⟩ v) (some k) :=
  ⟨rfl, rfl, rfl, by simp [World.setCell], fun j _ hj => by
    have hne : k ≠ j := fun e => hj (by rw [e])
    simp [World.setCell, Array.getElem?_modify, hne]⟩
theorem grown_set {w : World} {k : Nat} (a b : Value) : w.grownBy ((w.setCell ⟨k, 0, none⟩ a).setCell ⟨k, 1, none⟩ b) (some k) :=
  (grown_one w k 0 a).trans (grown_one _ k 1 b)
theorem set_cell0 {w : World} {k : Nat} {x y : Value} (h : BoxW w k x y) (a b : Value) : ((w.setCell ⟨k, 0, none⟩ a).setCell ⟨k, 1, none⟩ b).cell? ⟨k, 0, none⟩ = some a := (h.set a b).1.1
theorem BoxW.new (w : World) (x y : Value) (t : TypeId) : BoxW (w.alloc (.cells #[x, y] t)) w.heap.size x y := by
  refine ⟨Box2.new w x y t, ?_, ?_⟩ <;> simp [go_sem]
theorem BoxW.drewN {w : World} {k : Nat} {x y : Value} (h : BoxW w k x y) (n : Nat) : BoxW (w.drewN n) k x y := h
end Go.Proofs.YthmdkbeccohjkaaDoor
