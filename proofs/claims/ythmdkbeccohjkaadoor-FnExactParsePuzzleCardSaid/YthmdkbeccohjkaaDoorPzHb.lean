/- Laws over puzzles: what their walks share. -/
import Derived.Test.YthmdkbeccohjkaaDoorPzB
import Derived.Deep.RegionHeld3
namespace Go.Proofs.YthmdkbeccohjkaaDoor
set_option linter.unusedSimpArgs false
open Go.ChangeShapes Go.WideShapes Go.ChangeAt Go.RowKit
set_option linter.unusedVariables false

/-- It reads as triples, all of them older than now. -/
def RdTS (w : World) (v : Value) (m : List Tri) : Prop := RdT w w.heap.size v m
theorem RdTS.belowS {w w' : World} {v : Value} {m : List Tri} (h : RdTS w v m) (hb : Below w.heap.size w w') : RdTS w' v m := (RdT.below h hb (Nat.le_refl _)).more hb.size
theorem TRow.belowS {q : TypeId} {w w' : World} {base : Nat} {v : Value} {xs : List Tri} (h : TRow q w base v xs) (hb : Below w.heap.size w w') : TRow q w' base v xs := h.below hb
theorem IRow.belowS {w w' : World} {base : Nat} {v : Value} {xs : List Int} (h : IRow w base v xs) (hb : Below w.heap.size w w') : IRow w' base v xs := h.below hb
theorem held22_start {W0 : World} {k l : Nat} {x y p q : Value} (h : Box2 W0 k x y) (h2 : Box2 W0 l p q) : let V := W0.drew
    V.cell? ⟨k, 0, none⟩ = some x ∧ V.cell? ⟨k, 1, none⟩ = some y ∧ k < V.heap.size ∧ V.cell? ⟨l, 0, none⟩ = some p ∧ V.cell? ⟨l, 1, none⟩ = some q ∧ l < V.heap.size ∧ Below W0.heap.size W0 V :=
  ⟨h.1, h.2.1, h.2.2, h2.1, h2.2.1, h2.2.2, (Below.refl _ W0).drew⟩
theorem held22_keep {W0 W w1 : World} {k l : Nat} {x y p q : Value} (h : W.cell? ⟨k, 0, none⟩ = some x ∧ W.cell? ⟨k, 1, none⟩ = some y ∧ k < W.heap.size ∧ W.cell? ⟨l, 0, none⟩ = some p ∧ W.cell? ⟨l, 1, none⟩ = some q ∧ l < W.heap.size ∧ Below W0.heap.size W0 W) (hb : Below W.heap.size W w1) :
    w1.cell? ⟨k, 0, none⟩ = some x ∧ w1.cell? ⟨k, 1, none⟩ = some y ∧ k < w1.heap.size ∧ w1.cell? ⟨l, 0, none⟩ = some p ∧ w1.cell? ⟨l, 1, none⟩ = some q ∧ l < w1.heap.size ∧ Below W0.heap.size W0 w1 := by
  obtain ⟨a, b, c, d, e, f, g⟩ := h
  have b1 : Box2 w1 k x y := Box2.keep ⟨a, b, c⟩ hb
  have b2 : Box2 w1 l p q := Box2.keep ⟨d, e, f⟩ hb
  exact ⟨b1.1, b1.2.1, b1.2.2, b2.1, b2.2.1, b2.2.2, bel_trans g hb⟩
theorem held22_below {W0 W : World} {k l : Nat} {x y p q : Value} (h : W.cell? ⟨k, 0, none⟩ = some x ∧ W.cell? ⟨k, 1, none⟩ = some y ∧ k < W.heap.size ∧ W.cell? ⟨l, 0, none⟩ = some p ∧ W.cell? ⟨l, 1, none⟩ = some q ∧ l < W.heap.size ∧ Below W0.heap.size W0 W) : Below W0.heap.size W0 W := h.2.2.2.2.2.2
theorem TRow.formS {q : TypeId} {w : World} {b : Nat} {v : Value} {xs : List Tri} (h : TRow q w b v xs) : ∃ A cap, v = .slice A xs.length cap ∧ xs.length ≤ cap := by
  obtain ⟨A, cap, e, h1, _⟩ := h.rd.form
  exact ⟨A, cap, e, h1⟩
end Go.Proofs.YthmdkbeccohjkaaDoor
