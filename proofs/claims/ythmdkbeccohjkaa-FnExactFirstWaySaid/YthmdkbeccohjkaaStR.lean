/- The walks of laws over states. -/
import Derived.Test.YthmdkbeccohjkaaEnds
namespace Go.Proofs.Ythmdkbeccohjkaa
set_option linter.unusedSimpArgs false
open Go.ChangeShapes Go.WideShapes Go.ChangeAt Go.RowKit
set_option linter.unusedVariables false


theorem Box2.drewN {w : World} {k : Nat} {x y : Value} (h : Box2 w k x y) (n : Nat) : Box2 (w.drewN n) k x y := h
theorem RdMS.drewN {w : World} {v : Value} {m : List (List Int)} (h : RdMS w v m) (n : Nat) : RdMS (w.drewN n) v m := h
theorem RdIS.drewN {w : World} {v : Value} {m : List Int} (h : RdIS w v m) (n : Nat) : RdIS (w.drewN n) v m := h
theorem OwnM.belowS {w w' : World} {lo hi : Nat} {v : Value} {m : List (List Int)} (h : OwnM w lo hi v m) (hb : Below w.heap.size w w') : OwnM w' lo hi v m := h.below hb h.1
theorem IRow.belowS {w w' : World} {b : Nat} {v : Value} {xs : List Int} (h : IRow w b v xs) (hb : Below w.heap.size w w') : IRow w' b v xs := h.below hb
theorem Box2.off {w w' : World} {k lo hi : Nat} {x y : Value} (h : Box2 w k x y) (ho : Off lo hi w w') (hk : k < lo) : Box2 w' k x y := by
  have e := ho.block k h.2.2 (.inl hk)
  exact ⟨(World.cell?_of_block (w := w) (a := ⟨k, 0, none⟩) e).trans h.1, (World.cell?_of_block (w := w) (a := ⟨k, 1, none⟩) e).trans h.2.1, Nat.lt_of_lt_of_le h.2.2 ho.size⟩
theorem Box2.grown {w w' : World} {k : Nat} {x y : Value} {row : Option Nat} (h : Box2 w k x y) (hg : w.grownBy w' row) (hr : ∀ j, row = some j → k < j) : Box2 w' k x y := by
  have e := hg.block k h.2.2 (fun e => by have := hr k e.symm; omega)
  exact ⟨(World.cell?_of_block (w := w) (a := ⟨k, 0, none⟩) e).trans h.1, (World.cell?_of_block (w := w) (a := ⟨k, 1, none⟩) e).trans h.2.1, Nat.lt_of_lt_of_le h.2.2 hg.size⟩

end Go.Proofs.Ythmdkbeccohjkaa
