/- Coins: contracts of the functions that look at them, and the walk of IsCoin. -/
import Derived.Test.YtdfjfojkheikiaaGreatDoorPtPure
namespace Go.Proofs.YtdfjfojkheikiaaGreatDoor
set_option linter.unusedSimpArgs false
open Go.ChangeShapes Go.WideShapes Go.ChangeAt Go.RowKit
set_option linter.unusedVariables false

def Box2 (w : World) (k : Nat) (x y : Value) : Prop := w.cell? ⟨k, 0, none⟩ = some x ∧ w.cell? ⟨k, 1, none⟩ = some y ∧ k < w.heap.size
theorem Box2.new (w : World) (x y : Value) (t : TypeId) : Box2 (w.alloc (.cells #[x, y] t)) w.heap.size x y := by
  refine ⟨?_, ?_, ?_⟩ <;> simp [go_sem]
theorem Box2.keep {w w1 : World} {k : Nat} {x y : Value} (h : Box2 w k x y) (hb : Below w.heap.size w w1) : Box2 w1 k x y :=
  ⟨(hb.cell (p := ⟨k, 0, none⟩) h.2.2).trans h.1, (hb.cell (p := ⟨k, 1, none⟩) h.2.2).trans h.2.1, Nat.lt_of_lt_of_le h.2.2 hb.size⟩
theorem held2_start {w W : World} {k : Nat} {x y : Value} (h : Box2 W k x y) (hb : Below w.heap.size w W) : let V := W.drew
    V.cell? ⟨k, 0, none⟩ = some x ∧ V.cell? ⟨k, 1, none⟩ = some y ∧ k < V.heap.size ∧ Below w.heap.size w V :=
  ⟨h.1, h.2.1, h.2.2, hb.drew⟩
theorem held2_keep {w W w1 : World} {k : Nat} {x y : Value} (h : W.cell? ⟨k, 0, none⟩ = some x ∧ W.cell? ⟨k, 1, none⟩ = some y ∧ k < W.heap.size ∧ Below w.heap.size w W)
    (hb : Below W.heap.size W w1) : w1.cell? ⟨k, 0, none⟩ = some x ∧ w1.cell? ⟨k, 1, none⟩ = some y ∧ k < w1.heap.size ∧ Below w.heap.size w w1 := by
  have b : Box2 w1 k x y := Box2.keep ⟨h.1, h.2.1, h.2.2.1⟩ hb
  exact ⟨b.1, b.2.1, b.2.2, bel_trans h.2.2.2 hb⟩
theorem held2_drewN {w W : World} {k : Nat} {x y : Value} (h : W.cell? ⟨k, 0, none⟩ = some x ∧ W.cell? ⟨k, 1, none⟩ = some y ∧ k < W.heap.size ∧ Below w.heap.size w W) (n : Nat) :
    let V := W.drewN n
    V.cell? ⟨k, 0, none⟩ = some x ∧ V.cell? ⟨k, 1, none⟩ = some y ∧ k < V.heap.size ∧ Below w.heap.size w V := ⟨h.1, h.2.1, h.2.2.1, bel_drewN h.2.2.2 n⟩
theorem held2_below {w W : World} {k : Nat} {x y : Value} (h : W.cell? ⟨k, 0, none⟩ = some x ∧ W.cell? ⟨k, 1, none⟩ = some y ∧ k < W.heap.size ∧ Below w.heap.size w W) : Box2 W k x y ∧ Below w.heap.size w W :=
  ⟨⟨h.1, h.2.1, h.2.2.1⟩, h.2.2.2⟩

abbrev cn (h o : Int) : Value := .agg #[.int .i64 h, .int .i64 o]
def coinG (h o : Int) : Bool := inB o 2 10 && inB h 1 (o - 1)
theorem coin_in {h o : Int} (g : coinG h o = true) : 1 ≤ h ∧ h < o ∧ 2 ≤ o ∧ o ≤ 10 := by
  unfold coinG inB at g
  simp at g
  omega

end Go.Proofs.YtdfjfojkheikiaaGreatDoor
