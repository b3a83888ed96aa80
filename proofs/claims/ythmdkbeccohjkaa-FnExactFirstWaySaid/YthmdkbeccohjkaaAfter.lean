/- So many steps of moves: the program's contract; moves that count ways. -/
import Derived.Test.YthmdkbeccohjkaaStep
namespace Go.Proofs.Ythmdkbeccohjkaa
set_option linter.unusedSimpArgs false
open Go.ChangeShapes Go.WideShapes Go.ChangeAt Go.RowKit
set_option linter.unusedVariables false

theorem bel_block {w W : World} (h : Below w.heap.size w W) {k : Nat} (hk : k < w.heap.size) {o : Obj} (ho : w.heap[k]? = some o) : W.heap[k]? = some o := (h.block k hk).trans ho
theorem rowC_aft0 (f : Nat → Nat → Int) (n frm : Nat) (h : frm < 5) : (rowC zer).setIfInBounds frm (.int .i64 1) = rowC (aft f n frm 0) := by
  rw [rowC_set _ _ frm h]
  apply rowC_ext
  intro q _
  simp [upd, aft, zer]

def one (x : Int) : Int := if 1 < x then 1 else x
/-- The moves with 1 for each chance that is not 0, those ahead of row i, and of row i those ahead of j. -/
def partC (g : Nat → Int) (i j : Nat) : Nat → Int := fun q => if q / 5 < i ∨ (q / 5 = i ∧ q % 5 < j) then one (g q) else g q
theorem partC_zero (g : Nat → Int) : partC g 0 0 = g := by funext q; unfold partC; rw [if_neg (by omega)]
theorem partC_at (g : Nat → Int) (i j : Nat) (hj : j < 5) : partC g i j (i * 5 + j) = g (i * 5 + j) := by unfold partC; rw [if_neg (by omega)]
theorem partC_next (g : Nat → Int) (i j : Nat) (hj : j < 5) : upd (partC g i j) (i * 5 + j) (one (g (i * 5 + j))) = partC g i (j + 1) := by
  funext q
  unfold upd partC
  by_cases e : q = i * 5 + j
  · subst e; rw [if_pos rfl, if_pos (by omega)]
  · rw [if_neg e]
    by_cases h : q / 5 < i ∨ (q / 5 = i ∧ q % 5 < j)
    · rw [if_pos h, if_pos (by omega)]
    · rw [if_neg h, if_neg (by omega)]
theorem partC_row (g : Nat → Int) (i n : Nat) (hz : ∀ q, n ≤ q % 5 → g q = 0) : partC g i n = partC g (i + 1) 0 := by
  funext q
  unfold partC
  by_cases h : q / 5 < i ∨ (q / 5 = i ∧ q % 5 < n)
  · rw [if_pos h, if_pos (by omega)]
  · rw [if_neg h]
    by_cases h2 : q / 5 < i + 1 ∨ (q / 5 = i + 1 ∧ q % 5 < 0)
    · rw [if_pos h2, hz q (by omega)]; rfl
    · rw [if_neg h2]
def cntG (g : Nat → Int) : Nat → Int := fun q => one (g q)
theorem partC_all (g : Nat → Int) (n : Nat) (hz : ∀ q, n ≤ q / 5 → g q = 0) : partC g n 0 = cntG g := by
  funext q
  unfold partC cntG
  by_cases h : q / 5 < n ∨ (q / 5 = n ∧ q % 5 < 0)
  · rw [if_pos h]
  · rw [if_neg h, hz q (by omega)]; rfl
theorem set2 (w : World) (c c' : Array Value) (t : TypeId) (D : Obj) (n i : Nat) (v : Value) (h : c.setIfInBounds i v = c') :
    ((((w.alloc (.cells c t)).alloc D).drewN n).setCell ⟨w.heap.size, i, none⟩ v) = ((w.alloc (.cells c' t)).alloc D).drewN n := by
  show ((((w.alloc (.cells c t)).alloc D)).setCell ⟨w.heap.size, i, none⟩ v).drewN n = _
  rw [World.setCell_alloc_past _ _ _ _ (by rw [← size1]; omega), World.setCell_alloc_at _ _ _ _ _ rfl, h]

end Go.Proofs.Ythmdkbeccohjkaa
