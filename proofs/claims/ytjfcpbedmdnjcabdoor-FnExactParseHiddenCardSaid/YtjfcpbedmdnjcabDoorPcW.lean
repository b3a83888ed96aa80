/- ParseCoin: the contracts of the program and of its model, and the walk. -/
import Derived.Test.YtjfcpbedmdnjcabDoorPcP
import Derived.Test.YtjfcpbedmdnjcabDoorNmI
import Derived.Test.YtjfcpbedmdnjcabDoorBoxW
import Derived.Deep.RegionHeld3
namespace Go.Proofs.YtjfcpbedmdnjcabDoor
set_option linter.unusedSimpArgs false
open Go.ChangeShapes Go.WideShapes Go.ChangeAt Go.RowKit
set_option linter.unusedVariables false

theorem SRow.two {w : World} {b : Nat} {v : Value} {x y : ByteArray} (h : SRow w b v [x, y]) : ∃ g cap, v = .slice (some ⟨g, 0, none⟩) 2 cap ∧ w.cell? ⟨g, 0, none⟩ = some (.string x) ∧ w.cell? ⟨g, 1, none⟩ = some (.string y) ∧ g < w.heap.size ∧ b ≤ g ∧ 2 ≤ cap ∧ cap ≤ maxLen := by
  rcases h.form with ⟨hx, _⟩ | ⟨_, g, cap, rfl, hb, hg, h1, h2⟩
  · cases hx
  · refine ⟨g, cap, rfl, ?_, ?_, hg, hb, h1, h2⟩
    · exact h.at_ 0 (by simp)
    · exact h.at_ 1 (by simp)

/-- Written into a box of the call's own: nothing of the caller's has turned. -/
theorem bel_set {w W : World} {k : Nat} (h : Below w.heap.size w W) (hk : w.heap.size ≤ k) (a b : Value) : Below w.heap.size w ((W.setCell ⟨k, 0, none⟩ a).setCell ⟨k, 1, none⟩ b) :=
  (h.setCell (p := ⟨k, 0, none⟩) hk a).setCell (p := ⟨k, 1, none⟩) hk b
theorem two_keep {w W W' : World} {g : Nat} {x y u v : Value} (h : W.cell? ⟨g, 0, none⟩ = some x ∧ W.cell? ⟨g, 1, none⟩ = some y ∧ g < W.heap.size ∧ W.cell? ⟨w.heap.size, 0, none⟩ = some u ∧ W.cell? ⟨w.heap.size, 1, none⟩ = some v ∧ w.heap.size < W.heap.size ∧ Below w.heap.size w W) (hb : Below W.heap.size W W') : W'.cell? ⟨g, 0, none⟩ = some x ∧ W'.cell? ⟨g, 1, none⟩ = some y ∧ g < W'.heap.size ∧ W'.cell? ⟨w.heap.size, 0, none⟩ = some u ∧ W'.cell? ⟨w.heap.size, 1, none⟩ = some v ∧ w.heap.size < W'.heap.size ∧ Below w.heap.size w W' :=
  ⟨(hb.cell (p := ⟨g, 0, none⟩) h.2.2.1).trans h.1, (hb.cell (p := ⟨g, 1, none⟩) h.2.2.1).trans h.2.1, Nat.lt_of_lt_of_le h.2.2.1 hb.size, (hb.cell (p := ⟨w.heap.size, 0, none⟩) h.2.2.2.2.2.1).trans h.2.2.2.1, (hb.cell (p := ⟨w.heap.size, 1, none⟩) h.2.2.2.2.2.1).trans h.2.2.2.2.1, Nat.lt_of_lt_of_le h.2.2.2.2.2.1 hb.size, bel_trans h.2.2.2.2.2.2 hb⟩
theorem two_alloc {w W : World} {g : Nat} {x y u v : Value} (h : W.cell? ⟨g, 0, none⟩ = some x ∧ W.cell? ⟨g, 1, none⟩ = some y ∧ g < W.heap.size ∧ W.cell? ⟨w.heap.size, 0, none⟩ = some u ∧ W.cell? ⟨w.heap.size, 1, none⟩ = some v ∧ w.heap.size < W.heap.size ∧ Below w.heap.size w W) (o : Obj) : let V := (W.alloc o).drew
    V.cell? ⟨g, 0, none⟩ = some x ∧ V.cell? ⟨g, 1, none⟩ = some y ∧ g < V.heap.size ∧ V.cell? ⟨w.heap.size, 0, none⟩ = some u ∧ V.cell? ⟨w.heap.size, 1, none⟩ = some v ∧ w.heap.size < V.heap.size ∧ Below w.heap.size w V := two_keep (W' := (W.alloc o).drew) h (bel_alloc (Below.refl _ W) o).drew
theorem two_alloc0 {w W : World} {g : Nat} {x y u v : Value} (h : W.cell? ⟨g, 0, none⟩ = some x ∧ W.cell? ⟨g, 1, none⟩ = some y ∧ g < W.heap.size ∧ W.cell? ⟨w.heap.size, 0, none⟩ = some u ∧ W.cell? ⟨w.heap.size, 1, none⟩ = some v ∧ w.heap.size < W.heap.size ∧ Below w.heap.size w W) (o : Obj) : let V := W.alloc o
    V.cell? ⟨g, 0, none⟩ = some x ∧ V.cell? ⟨g, 1, none⟩ = some y ∧ g < V.heap.size ∧ V.cell? ⟨w.heap.size, 0, none⟩ = some u ∧ V.cell? ⟨w.heap.size, 1, none⟩ = some v ∧ w.heap.size < V.heap.size ∧ Below w.heap.size w V := two_keep (W' := W.alloc o) h (bel_alloc (Below.refl _ W) o)
end Go.Proofs.YtjfcpbedmdnjcabDoor
