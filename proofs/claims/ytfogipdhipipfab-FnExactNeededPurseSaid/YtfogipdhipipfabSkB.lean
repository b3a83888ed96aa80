/- Two boxes of two cells, in a region that draws its order. -/
import Derived.Test.YtfogipdhipipfabCn
namespace Go.Proofs.Ytfogipdhipipfab
set_option linter.unusedSimpArgs false
open Go.ChangeShapes Go.WideShapes Go.ChangeAt Go.RowKit
set_option linter.unusedVariables false

theorem h22_start {w W : World} {k l : Nat} {a b c d : Value} (x : Box2 W k a b) (y : Box2 W l c d) (z : Below w.heap.size w W) : let V := W.drew
    V.cell? ⟨k, 0, none⟩ = some a ∧ V.cell? ⟨k, 1, none⟩ = some b ∧ k < V.heap.size ∧ V.cell? ⟨l, 0, none⟩ = some c ∧ V.cell? ⟨l, 1, none⟩ = some d ∧ l < V.heap.size ∧ Below w.heap.size w V :=
  ⟨x.1, x.2.1, x.2.2, y.1, y.2.1, y.2.2, z.drew⟩
theorem h22_below {w W : World} {k l : Nat} {a b c d : Value} (h : W.cell? ⟨k, 0, none⟩ = some a ∧ W.cell? ⟨k, 1, none⟩ = some b ∧ k < W.heap.size ∧ W.cell? ⟨l, 0, none⟩ = some c ∧ W.cell? ⟨l, 1, none⟩ = some d ∧ l < W.heap.size ∧ Below w.heap.size w W) :
    Box2 W k a b ∧ Box2 W l c d ∧ Below w.heap.size w W := ⟨⟨h.1, h.2.1, h.2.2.1⟩, ⟨h.2.2.2.1, h.2.2.2.2.1, h.2.2.2.2.2.1⟩, h.2.2.2.2.2.2⟩
theorem h22_keep {w W w1 : World} {k l : Nat} {a b c d : Value} (h : W.cell? ⟨k, 0, none⟩ = some a ∧ W.cell? ⟨k, 1, none⟩ = some b ∧ k < W.heap.size ∧ W.cell? ⟨l, 0, none⟩ = some c ∧ W.cell? ⟨l, 1, none⟩ = some d ∧ l < W.heap.size ∧ Below w.heap.size w W) (hb : Below W.heap.size W w1) :
    w1.cell? ⟨k, 0, none⟩ = some a ∧ w1.cell? ⟨k, 1, none⟩ = some b ∧ k < w1.heap.size ∧ w1.cell? ⟨l, 0, none⟩ = some c ∧ w1.cell? ⟨l, 1, none⟩ = some d ∧ l < w1.heap.size ∧ Below w.heap.size w w1 := by
  obtain ⟨x, y, z⟩ := h22_below h
  have x1 := x.keep hb
  have y1 := y.keep hb
  exact ⟨x1.1, x1.2.1, x1.2.2, y1.1, y1.2.1, y1.2.2, bel_trans z hb⟩
theorem h22_drewN {w W : World} {k l : Nat} {a b c d : Value} (h : W.cell? ⟨k, 0, none⟩ = some a ∧ W.cell? ⟨k, 1, none⟩ = some b ∧ k < W.heap.size ∧ W.cell? ⟨l, 0, none⟩ = some c ∧ W.cell? ⟨l, 1, none⟩ = some d ∧ l < W.heap.size ∧ Below w.heap.size w W) (n : Nat) : let V := W.drewN n
    V.cell? ⟨k, 0, none⟩ = some a ∧ V.cell? ⟨k, 1, none⟩ = some b ∧ k < V.heap.size ∧ V.cell? ⟨l, 0, none⟩ = some c ∧ V.cell? ⟨l, 1, none⟩ = some d ∧ l < V.heap.size ∧ Below w.heap.size w V :=
  ⟨h.1, h.2.1, h.2.2.1, h.2.2.2.1, h.2.2.2.2.1, h.2.2.2.2.2.1, bel_drewN h.2.2.2.2.2.2 n⟩
end Go.Proofs.Ytfogipdhipipfab
