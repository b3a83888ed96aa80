/- Laws over puzzles whose answer is a row: what their walks share. -/
import Derived.Test.YtggflgmjncjmbaaPzH
namespace Go.Proofs.Ytggflgmjncjmbaa
set_option linter.unusedSimpArgs false
open Go.ChangeShapes Go.WideShapes Go.ChangeAt Go.RowKit
set_option linter.unusedVariables false

theorem TRow.keptN {q : TypeId} {W w' : World} {b : Nat} {v : Value} {xs : List Tri} {row : Option Nat} (h : TRow q W b v xs) (hg : W.grownBy w' row) (hne : ∀ k, v.ownBlock = some k → row ≠ some k) : TRow q w' b v xs := by
  refine World.ownsRow.kept h hg ?_
  cases hv : v.ownBlock with
  | none => exact .inl rfl
  | some k => exact .inr fun e => hne k hv e.symm
theorem IRow.keptN {W w' : World} {b : Nat} {v : Value} {xs : List Int} {row : Option Nat} (h : IRow W b v xs) (hg : W.grownBy w' row) (hne : ∀ k, v.ownBlock = some k → row ≠ some k) : IRow w' b v xs := by
  refine World.ownsRow.kept h hg ?_
  cases hv : v.ownBlock with
  | none => exact .inl rfl
  | some k => exact .inr fun e => hne k hv e.symm
theorem Box2.grownN {w w' : World} {k : Nat} {x y : Value} {row : Option Nat} (h : Box2 w k x y) (hg : w.grownBy w' row) (hr : ∀ j, row = some j → j ≠ k) : Box2 w' k x y := by
  have e := hg.block k h.2.2 (fun e => hr k e.symm rfl)
  exact ⟨(World.cell?_of_block (w := w) (a := ⟨k, 0, none⟩) e).trans h.1, (World.cell?_of_block (w := w) (a := ⟨k, 1, none⟩) e).trans h.2.1, Nat.lt_of_lt_of_le h.2.2 hg.size⟩
theorem Box3.grownN {w w' : World} {k : Nat} {x y z : Value} {row : Option Nat} (h : Box3 w k x y z) (hg : w.grownBy w' row) (hr : ∀ j, row = some j → j ≠ k) : Box3 w' k x y z := by
  have e := hg.block k h.2.2.2 (fun e => hr k e.symm rfl)
  exact ⟨(World.cell?_of_block (w := w) (a := ⟨k, 0, none⟩) e).trans h.1, (World.cell?_of_block (w := w) (a := ⟨k, 1, none⟩) e).trans h.2.1, (World.cell?_of_block (w := w) (a := ⟨k, 2, none⟩) e).trans h.2.2.1, Nat.lt_of_lt_of_le h.2.2.2 hg.size⟩
theorem Box2.drewN {w : World} {k : Nat} {x y : Value} (h : Box2 w k x y) (n : Nat) : Box2 (w.drewN n) k x y := h
theorem Box3.drewN {w : World} {k : Nat} {x y z : Value} (h : Box3 w k x y z) (n : Nat) : Box3 (w.drewN n) k x y z := h
theorem RdTS.drewN {w : World} {v : Value} {m : List Tri} (h : RdTS w v m) (n : Nat) : RdTS (w.drewN n) v m := h
theorem bel_grownR {w W w' : World} {row : Option Nat} (h : Below w.heap.size w W) (hg : W.grownBy w' row) (hr : ∀ k, row = some k → w.heap.size ≤ k) : Below w.heap.size w w' := h.grown hg h.size hr
def PzAns (ro : Int) (xs : List Tri) (ok : Bool) (w : World) (e : Ending) (w' : World) : Prop :=
  ∃ v, e = .returned (.tuple #[pz ro v, .bool ok]) ∧ TRow 39 w' w.heap.size v xs ∧ Below w.heap.size w w'
end Go.Proofs.Ytggflgmjncjmbaa
