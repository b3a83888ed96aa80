/- Laws over states: what their walks share; the law AreStates. -/
import Derived.Test.YthmdkbeccohjkaaMv3
import Derived.Deep.RegionHeld3
namespace Go.Proofs.Ythmdkbeccohjkaa
set_option linter.unusedSimpArgs false
open Go.ChangeShapes Go.WideShapes Go.ChangeAt Go.RowKit
set_option linter.unusedVariables false

/-- Block k begins with the cells x, y. -/
def Box2 (w : World) (k : Nat) (x y : Value) : Prop := w.cell? ⟨k, 0, none⟩ = some x ∧ w.cell? ⟨k, 1, none⟩ = some y ∧ k < w.heap.size
theorem Box2.new (w : World) (x y : Value) (t : TypeId) : Box2 (w.alloc (.cells #[x, y] t)) w.heap.size x y := by
  refine ⟨?_, ?_, ?_⟩ <;> simp [go_sem]
theorem Box2.keep {w w1 : World} {k : Nat} {x y : Value} (h : Box2 w k x y) (hb : Below w.heap.size w w1) : Box2 w1 k x y :=
  ⟨(hb.cell (p := ⟨k, 0, none⟩) h.2.2).trans h.1, (hb.cell (p := ⟨k, 1, none⟩) h.2.2).trans h.2.1, Nat.lt_of_lt_of_le h.2.2 hb.size⟩
/-- It reads as slices of integers, all of them older than now. -/
def RdMS (w : World) (v : Value) (m : List (List Int)) : Prop := RdM w w.heap.size v m
theorem RdMS.belowS {w w' : World} {v : Value} {m : List (List Int)} (h : RdMS w v m) (hb : Below w.heap.size w w') : RdMS w' v m := (RdM.below h hb (Nat.le_refl _)).more hb.size
def RdIS (w : World) (v : Value) (xs : List Int) : Prop := RdI w w.heap.size v xs
theorem RdIS.belowS {w w' : World} {v : Value} {xs : List Int} (h : RdIS w v xs) (hb : Below w.heap.size w w') : RdIS w' v xs := (RdI.below h hb (Nat.le_refl _)).more hb.size
theorem held22_start {W0 : World} {k l : Nat} {x y p q : Value} (h : Box2 W0 k x y) (h2 : Box2 W0 l p q) : let V := W0.drew
    V.cell? ⟨k, 0, none⟩ = some x ∧ V.cell? ⟨k, 1, none⟩ = some y ∧ k < V.heap.size ∧ V.cell? ⟨l, 0, none⟩ = some p ∧ V.cell? ⟨l, 1, none⟩ = some q ∧ l < V.heap.size ∧ Below W0.heap.size W0 V :=
  ⟨h.1, h.2.1, h.2.2, h2.1, h2.2.1, h2.2.2, (Below.refl _ W0).drew⟩
theorem held22_keep {W0 W w1 : World} {k l : Nat} {x y p q : Value} (h : W.cell? ⟨k, 0, none⟩ = some x ∧ W.cell? ⟨k, 1, none⟩ = some y ∧ k < W.heap.size ∧ W.cell? ⟨l, 0, none⟩ = some p ∧ W.cell? ⟨l, 1, none⟩ = some q ∧ l < W.heap.size ∧ Below W0.heap.size W0 W) (hb : Below W.heap.size W w1) :
    w1.cell? ⟨k, 0, none⟩ = some x ∧ w1.cell? ⟨k, 1, none⟩ = some y ∧ k < w1.heap.size ∧ w1.cell? ⟨l, 0, none⟩ = some p ∧ w1.cell? ⟨l, 1, none⟩ = some q ∧ l < w1.heap.size ∧ Below W0.heap.size W0 w1 := by
  obtain ⟨a, b, c, d, e, f, g⟩ := h
  have b1 : Box2 w1 k x y := Box2.keep ⟨a, b, c⟩ hb
  have b2 : Box2 w1 l p q := Box2.keep ⟨d, e, f⟩ hb
  exact ⟨b1.1, b1.2.1, b1.2.2, b2.1, b2.2.1, b2.2.2, bel_trans g hb⟩
theorem held22_below {W0 W : World} {k l : Nat} {x y p q : Value} (h : W.cell? ⟨k, 0, none⟩ = some x ∧ W.cell? ⟨k, 1, none⟩ = some y ∧ k < W.heap.size ∧ W.cell? ⟨l, 0, none⟩ = some p ∧ W.cell? ⟨l, 1, none⟩ = some q ∧ l < W.heap.size ∧ Below W0.heap.size W0 W) : Below W0.heap.size W0 W := h.2.2.2.2.2.2


end Go.Proofs.Ythmdkbeccohjkaa
