/- ParseStates: the contracts of the model. -/
import Derived.Test.YtbfgieolehbedaaDoorPsI
namespace Go.Proofs.YtbfgieolehbedaaDoor
open Go.ChangeShapes Go.WideShapes Go.ChangeAt Go.RowKit
set_option linter.unusedVariables false
set_option linter.unusedSimpArgs false

theorem OwnM.offK {w w' : World} {lo hi a b : Nat} {v : Value} {m : List (List Int)} (h : OwnM w lo hi v m) (ho : Off a b w w') (hc : b ≤ lo) : OwnM w' lo hi v m := h.move (fun k h1 h2 => ho.block k (Nat.lt_of_lt_of_le h2 h.1) (.inr (by omega))) ho.size
theorem bel_undrawP {W w1 : World} (h : Below W.drew.heap.size W.drew w1) : Below W.heap.size W w1 := ⟨h.os, h.tape, h.output, h.size, h.block⟩
def limQ (s : ByteArray) : Int := if s.size ≤ 90 then limM s.data.toList else 0
def mQ (s : ByteArray) : List (List Int) := if s.size ≤ 90 then rowsM s.data.toList else []

theorem Off.below_ {lo hi : Nat} {a b c : World} (h : Off lo hi a b) (hb : Below b.heap.size b c) : Off lo hi a c :=
  h.trans ⟨hb.os, hb.tape, hb.output, hb.size, fun k hk _ => hb.block k hk⟩
theorem sp_start {wo : World} {kx k2 : Nat} {x y a b : Value} (h : Bx2 wo kx x y) (h2 : Bx2 wo k2 a b) : let V := wo.drew
    V.cell? ⟨kx, 0, none⟩ = some x ∧ V.cell? ⟨kx, 1, none⟩ = some y ∧ kx < V.heap.size ∧ V.frozen? ⟨k2, 0, none⟩ = false ∧ V.frozen? ⟨k2, 1, none⟩ = false ∧ k2 < V.heap.size ∧ Off k2 (k2 + 1) wo V :=
  ⟨h.1, h.2.1, h.2.2.2.2, h2.2.2.1, h2.2.2.2.1, h2.2.2.2.2, (Off.refl k2 (k2 + 1) wo).below_ (Below.refl _ _).drew⟩
theorem sp_keep {wo W w1 : World} {kx k2 : Nat} {x y : Value} (h : W.cell? ⟨kx, 0, none⟩ = some x ∧ W.cell? ⟨kx, 1, none⟩ = some y ∧ kx < W.heap.size ∧ W.frozen? ⟨k2, 0, none⟩ = false ∧ W.frozen? ⟨k2, 1, none⟩ = false ∧ k2 < W.heap.size ∧ Off k2 (k2 + 1) wo W) (hb : Below W.heap.size W w1) :
    w1.cell? ⟨kx, 0, none⟩ = some x ∧ w1.cell? ⟨kx, 1, none⟩ = some y ∧ kx < w1.heap.size ∧ w1.frozen? ⟨k2, 0, none⟩ = false ∧ w1.frozen? ⟨k2, 1, none⟩ = false ∧ k2 < w1.heap.size ∧ Off k2 (k2 + 1) wo w1 := by
  obtain ⟨a0, a1, a2, a3, a4, a5, a6⟩ := h
  exact ⟨(hb.cell (p := ⟨kx, 0, none⟩) a2).trans a0, (hb.cell (p := ⟨kx, 1, none⟩) a2).trans a1, Nat.lt_of_lt_of_le a2 hb.size, (hb.frozen (p := ⟨k2, 0, none⟩) a5).trans a3, (hb.frozen (p := ⟨k2, 1, none⟩) a5).trans a4, Nat.lt_of_lt_of_le a5 hb.size, a6.below_ hb⟩
theorem sp_store {wo W : World} {kx k2 : Nat} {x y : Value} (h : W.cell? ⟨kx, 0, none⟩ = some x ∧ W.cell? ⟨kx, 1, none⟩ = some y ∧ kx < W.heap.size ∧ W.frozen? ⟨k2, 0, none⟩ = false ∧ W.frozen? ⟨k2, 1, none⟩ = false ∧ k2 < W.heap.size ∧ Off k2 (k2 + 1) wo W) (hne : kx ≠ k2) (a b : Value) : let V := (W.setCell ⟨k2, 0, none⟩ a).setCell ⟨k2, 1, none⟩ b
    V.cell? ⟨kx, 0, none⟩ = some x ∧ V.cell? ⟨kx, 1, none⟩ = some y ∧ kx < V.heap.size ∧ V.frozen? ⟨k2, 0, none⟩ = false ∧ V.frozen? ⟨k2, 1, none⟩ = false ∧ k2 < V.heap.size ∧ Off k2 (k2 + 1) wo V := by
  obtain ⟨a0, a1, a2, a3, a4, a5, a6⟩ := h
  refine ⟨?_, ?_, ?_, ?_, ?_, ?_, a6.trans ⟨rfl, rfl, rfl, by simp [World.setCell], fun k hk hc => ?_⟩⟩
  · simp [go_sem, a0, hne, hne.symm]
  · simp [go_sem, a1, hne, hne.symm]
  · simpa [World.setCell] using a2
  · simp [go_sem, a3, a4]
  · simp [go_sem, a3, a4]
  · simpa [World.setCell] using a5
  · rw [Below.heap_setCell _ _ _ _ (by dsimp only; omega), Below.heap_setCell _ _ _ _ (by dsimp only; omega)]
theorem sp_off {wo W : World} {kx k2 : Nat} {x y : Value} (h : W.cell? ⟨kx, 0, none⟩ = some x ∧ W.cell? ⟨kx, 1, none⟩ = some y ∧ kx < W.heap.size ∧ W.frozen? ⟨k2, 0, none⟩ = false ∧ W.frozen? ⟨k2, 1, none⟩ = false ∧ k2 < W.heap.size ∧ Off k2 (k2 + 1) wo W) : Off k2 (k2 + 1) wo W := h.2.2.2.2.2.2

end Go.Proofs.YtbfgieolehbedaaDoor
