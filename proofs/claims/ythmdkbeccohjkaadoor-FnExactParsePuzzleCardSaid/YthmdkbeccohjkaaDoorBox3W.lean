/- Boxes of three cells that can be written. -/
import Derived.Test.YthmdkbeccohjkaaDoorBoxW
namespace Go.Proofs.YthmdkbeccohjkaaDoor
set_option linter.unusedSimpArgs false
open Go.ChangeShapes Go.WideShapes Go.ChangeAt Go.RowKit
set_option linter.unusedVariables false

def Box3W (w : World) (k : Nat) (x y z : Value) : Prop := Box3 w k x y z ∧ w.frozen? ⟨k, 0, none⟩ = false ∧ w.frozen? ⟨k, 1, none⟩ = false ∧ w.frozen? ⟨k, 2, none⟩ = false
theorem Box3W.keep {w w1 : World} {k : Nat} {x y z : Value} (h : Box3W w k x y z) (hb : Below w.heap.size w w1) : Box3W w1 k x y z :=
  ⟨h.1.keep hb, (hb.frozen (p := ⟨k, 0, none⟩) h.1.2.2.2).trans h.2.1, (hb.frozen (p := ⟨k, 1, none⟩) h.1.2.2.2).trans h.2.2.1, (hb.frozen (p := ⟨k, 2, none⟩) h.1.2.2.2).trans h.2.2.2⟩
theorem Box3W.set {w : World} {k : Nat} {x y z : Value} (h : Box3W w k x y z) (a b c : Value) : Box3W (((w.setCell ⟨k, 0, none⟩ a).setCell ⟨k, 1, none⟩ b).setCell ⟨k, 2, none⟩ c) k a b c := by
  obtain ⟨⟨h0, h1, h2, h3⟩, h4, h5, h6⟩ := h
  refine ⟨⟨?_, ?_, ?_, ?_⟩, ?_, ?_, ?_⟩
  all_goals simp [go_sem, h0, h1, h2, h3, h4, h5, h6]
theorem Box3W.new (w : World) (x y z : Value) (t : TypeId) : Box3W (w.alloc (.cells #[x, y, z] t)) w.heap.size x y z := by
  refine ⟨Box3.new w x y z t, ?_, ?_, ?_⟩ <;> simp [go_sem]
theorem Box3W.drewN {w : World} {k : Nat} {x y z : Value} (h : Box3W w k x y z) (n : Nat) : Box3W (w.drewN n) k x y z := h
theorem bel_set3 {w W : World} {k : Nat} (h : Below w.heap.size w W) (hk : w.heap.size ≤ k) (a b c : Value) : Below w.heap.size w (((W.setCell ⟨k, 0, none⟩ a).setCell ⟨k, 1, none⟩ b).setCell ⟨k, 2, none⟩ c) :=
  ((h.setCell (p := ⟨k, 0, none⟩) hk a).setCell (p := ⟨k, 1, none⟩) hk b).setCell (p := ⟨k, 2, none⟩) hk c
end Go.Proofs.YthmdkbeccohjkaaDoor
