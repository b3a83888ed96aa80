/- EndStates: the contracts of the program and of its model. -/
import Derived.Test.YthmdkbeccohjkaaWays
namespace Go.Proofs.Ythmdkbeccohjkaa
set_option linter.unusedSimpArgs false
open Go.ChangeShapes Go.WideShapes Go.ChangeAt Go.RowKit
set_option linter.unusedVariables false

/-- The numbers below k that are told by p, increasing. -/
def selK (p : Nat → Bool) : Nat → List Int
  | 0 => []
  | k + 1 => if p k then selK p k ++ [(k : Int)] else selK p k
theorem selK_len (p : Nat → Bool) : ∀ k, (selK p k).length ≤ k
  | 0 => by simp [selK]
  | k + 1 => by
    have := selK_len p k
    unfold selK
    split
    · simp; omega
    · omega
theorem selK_yes {p : Nat → Bool} {k : Nat} (h : p k = true) : selK p (k + 1) = selK p k ++ [(k : Int)] := by simp [selK, h]
theorem selK_no {p : Nat → Bool} {k : Nat} (h : p k = false) : selK p (k + 1) = selK p k := by simp [selK, h]
theorem selK_congr {p q : Nat → Bool} : ∀ k, (∀ i, i < k → p i = q i) → selK p k = selK q k
  | 0, _ => rfl
  | k + 1, h => by
    unfold selK
    rw [h k (by omega), selK_congr k (fun i hi => h i (by omega))]
/-- A state that follows itself with the chance 1. -/
def endB (lim : Int) (m : List (List Int)) (i : Nat) : Bool := atM m i i == lim

theorem IRow.push {w : World} {base : Nat} {v : Value} {xs : List Int} {u : Int} (h : w.ownsRow base 3 1 v (xs.length + 1) (xs.map (Value.int .i64) ++ [.int .i64 u])) : IRow w base v (xs ++ [u]) := by
  unfold IRow
  rw [List.map_append, List.length_append]
  exact h
theorem new_cell (w : World) (u : Value) (t : TypeId) : (w.alloc (.cells #[u] t)).cell? ⟨w.heap.size, 0, none⟩ = some u := by simp [go_sem]
/-- One number is appended that was just laid into a block of its own. -/
theorem wpList_push1 {ops : Array Oper} {rest : List Oper} {o : Oper} {a : Act} {Q : Exit → Act → World → Prop} {W : World} (hgd : o.guard = none) (s x : Operand)
    (ho : o.op = .call { callee := .builtin .append, args := #[s, x], argTypes := #[26, 26] }) (base : Nat) (v : Value) (xs : List Int) (hown : IRow W base v xs) (hlen : xs.length ≤ 1000000) (hbase : base ≤ W.heap.size) (u : Int)
    (hs : a.eval s = v) (hx : a.eval x = .slice (some ⟨W.heap.size, 0, none⟩) 1 1)
    (h : ∀ v' w', IRow w' base v' (xs ++ [u]) → Below base W w' → wpList Try.prog ops Q rest (a.put o.dst v') w') : wpList Try.prog ops Q (o :: rest) a (W.alloc (.cells #[.int .i64 u] 3)) := by
  obtain ⟨i0, hi, hz0, hz1, hz2⟩ := info_parts info_int
  refine wpList_append_own _ hgd s x 26 ho base 3 i0 (.int .i64 0) 1 8 Try.underlying26 hi hz0 hz1 hz2 rfl (by decide) v xs.length (xs.map (Value.int .i64)) hs (World.ownsRow.alloc hown _) ⟨W.heap.size, 0, none⟩ 1 1 [.int .i64 u] hx rfl ?_ ?_ ?_ ?_ ?_ ?_
  · intro j y hy
    cases j with
    | zero => simp at hy; subst hy; exact new_cell _ _ _
    | succ j => simp at hy
  · intro y hy; simp at hy; subst hy; rfl
  · unfold maxLen; omega
  · omega
  · rw [← size1]; omega
  · intro v' w' h1 h2 _
    refine h v' w' (IRow.push h1) ?_
    refine Below.grown (((Below.refl base W).alloc hbase _)) h2 (by rw [← size1]; omega) fun k hk => ?_
    exact (World.ownsRow.lt hown k hk).1

def ansEnds (lim : Int) (m : List (List Int)) : List Int := if saG lim m then selK (endB lim m) m.length else []
theorem ansEnds_len (lim : Int) (m : List (List Int)) : (ansEnds lim m).length ≤ 1000 := by
  unfold ansEnds
  split
  · rename_i h
    have := selK_len (endB lim m) m.length
    have := (good_of h).five
    omega
  · simp

end Go.Proofs.Ythmdkbeccohjkaa
