/- What is reached from each state: the program's contract. -/
import Derived.Test.YthmdkbeccohjkaaEnds
namespace Go.Proofs.Ythmdkbeccohjkaa
set_option linter.unusedSimpArgs false
open Go.ChangeShapes Go.WideShapes Go.ChangeAt Go.RowKit
set_option linter.unusedVariables false

/-- The cells of marks of all states. -/
def marC (r : Nat → Bool) : Array Value := #[.bool (r 0), .bool (r 1), .bool (r 2), .bool (r 3), .bool (r 4), .bool (r 5), .bool (r 6), .bool (r 7), .bool (r 8), .bool (r 9), .bool (r 10), .bool (r 11), .bool (r 12), .bool (r 13), .bool (r 14), .bool (r 15), .bool (r 16), .bool (r 17), .bool (r 18), .bool (r 19), .bool (r 20), .bool (r 21), .bool (r 22), .bool (r 23), .bool (r 24)]
def noB : Nat → Bool := fun _ => false
def updB (g : Nat → Bool) (q : Nat) (x : Bool) : Nat → Bool := fun p => if p = q then x else g p
theorem marC_one (r : Nat → Bool) : (marC r).all (·.oneCell') = true := by simp [marC, Value.oneCell']
theorem marC_get (r : Nat → Bool) : ∀ q, q < 25 → (marC r)[q]? = some (.bool (r q)) := by apply cases25 <;> rfl
theorem marC_set (r : Nat → Bool) (x : Bool) : ∀ q, q < 25 → (marC r).setIfInBounds q (.bool x) = marC (updB r q x) := by apply cases25 <;> rfl
theorem marC_ext {r r' : Nat → Bool} (h : ∀ q, q < 25 → r q = r' q) : marC r = marC r' := by
  unfold marC
  simp only [h 0 (by omega), h 1 (by omega), h 2 (by omega), h 3 (by omega), h 4 (by omega), h 5 (by omega), h 6 (by omega), h 7 (by omega), h 8 (by omega), h 9 (by omega), h 10 (by omega), h 11 (by omega), h 12 (by omega), h 13 (by omega), h 14 (by omega), h 15 (by omega), h 16 (by omega), h 17 (by omega), h 18 (by omega), h 19 (by omega), h 20 (by omega), h 21 (by omega), h 22 (by omega), h 23 (by omega), h 24 (by omega)]
/-- There is a chance from i to j. -/
def edgeB (m : List (List Int)) (i j : Nat) : Bool := decide (0 < atM m i j)
/-- From i to j over states below k, of n states. -/
def reachG (m : List (List Int)) (n k : Nat) : Nat → Bool := fun q => decide (q / 5 < n) && decide (q % 5 < n) && thr (edgeB m) k (q / 5) (q % 5)
/-- The first marks, those ahead of row i, and of row i those ahead of j. -/
def firstG (m : List (List Int)) (n i j : Nat) : Nat → Bool := fun q => if q / 5 < i ∨ (q / 5 = i ∧ q % 5 < j) then reachG m n 0 q else false
def overG (m : List (List Int)) (n k i j : Nat) : Nat → Bool := fun q => if q / 5 < i ∨ (q / 5 = i ∧ q % 5 < j) then reachG m n (k + 1) q else reachG m n k q
theorem reachG_at (m : List (List Int)) (n k i j : Nat) (hi : i < n) (hj : j < n) (hj5 : j < 5) : reachG m n k (i * 5 + j) = thr (edgeB m) k i j := by
  unfold reachG
  have h1 : (i * 5 + j) / 5 = i := by omega
  have h2 : (i * 5 + j) % 5 = j := by omega
  rw [h1, h2]
  simp [hi, hj]
theorem firstG_next (m : List (List Int)) (n i j : Nat) (hj5 : j < 5) : updB (firstG m n i j) (i * 5 + j) (reachG m n 0 (i * 5 + j)) = firstG m n i (j + 1) := by
  funext q
  unfold updB firstG
  by_cases e : q = i * 5 + j
  · subst e; rw [if_pos rfl, if_pos (by omega)]
  · rw [if_neg e]
    by_cases h : q / 5 < i ∨ (q / 5 = i ∧ q % 5 < j)
    · rw [if_pos h, if_pos (by omega)]
    · rw [if_neg h, if_neg (by omega)]
theorem firstG_row (m : List (List Int)) (n i : Nat) : firstG m n i n = firstG m n (i + 1) 0 := by
  funext q
  unfold firstG
  by_cases h : q / 5 < i ∨ (q / 5 = i ∧ q % 5 < n)
  · rw [if_pos h, if_pos (by omega)]
  · rw [if_neg h]
    by_cases h2 : q / 5 < i + 1 ∨ (q / 5 = i + 1 ∧ q % 5 < 0)
    · rw [if_pos h2]
      unfold reachG
      have : ¬ q % 5 < n := by omega
      simp [this]
    · rw [if_neg h2]
theorem firstG_all (m : List (List Int)) (n : Nat) : firstG m n n 0 = reachG m n 0 := by
  funext q
  unfold firstG
  by_cases h : q / 5 < n ∨ (q / 5 = n ∧ q % 5 < 0)
  · rw [if_pos h]
  · rw [if_neg h]
    unfold reachG
    have : ¬ q / 5 < n := by omega
    simp [this]
theorem firstG_zero (m : List (List Int)) (n : Nat) : firstG m n 0 0 = noB := by
  funext q; unfold firstG noB; rw [if_neg (by omega)]
theorem overG_zero (m : List (List Int)) (n k : Nat) : overG m n k 0 0 = reachG m n k := by
  funext q; unfold overG; rw [if_neg (by omega)]
theorem overG_next (m : List (List Int)) (n k i j : Nat) (hj5 : j < 5) : updB (overG m n k i j) (i * 5 + j) (reachG m n (k + 1) (i * 5 + j)) = overG m n k i (j + 1) := by
  funext q
  unfold updB overG
  by_cases e : q = i * 5 + j
  · subst e; rw [if_pos rfl, if_pos (by omega)]
  · rw [if_neg e]
    by_cases h : q / 5 < i ∨ (q / 5 = i ∧ q % 5 < j)
    · rw [if_pos h, if_pos (by omega)]
    · rw [if_neg h, if_neg (by omega)]
theorem overG_row (m : List (List Int)) (n k i : Nat) : overG m n k i n = overG m n k (i + 1) 0 := by
  funext q
  unfold overG
  by_cases h : q / 5 < i ∨ (q / 5 = i ∧ q % 5 < n)
  · rw [if_pos h, if_pos (by omega)]
  · rw [if_neg h]
    by_cases h2 : q / 5 < i + 1 ∨ (q / 5 = i + 1 ∧ q % 5 < 0)
    · rw [if_pos h2]
      unfold reachG
      have : ¬ q % 5 < n := by omega
      simp [this]
    · rw [if_neg h2]
theorem overG_all (m : List (List Int)) (n k : Nat) : overG m n k n 0 = reachG m n (k + 1) := by
  funext q
  unfold overG
  by_cases h : q / 5 < n ∨ (q / 5 = n ∧ q % 5 < 0)
  · rw [if_pos h]
  · rw [if_neg h]
    unfold reachG
    have : ¬ q / 5 < n := by omega
    simp [this]
/-- What the marks hold that an update reads. -/
theorem overG_reads (m : List (List Int)) (n k i j : Nat) (hi : i < n) (hj : j < n) (hk : k < n) (h5 : n ≤ 5) :
    overG m n k i j (i * 5 + j) = thr (edgeB m) k i j ∧ overG m n k i j (i * 5 + k) = thr (edgeB m) k i k ∧ overG m n k i j (k * 5 + j) = thr (edgeB m) k k j := by
  refine ⟨?_, ?_, ?_⟩
  · unfold overG; rw [if_neg (by omega), reachG_at _ _ _ _ _ hi hj (by omega)]
  · unfold overG
    split
    · rw [reachG_at _ _ _ _ _ hi hk (by omega), thr_col]
    · rw [reachG_at _ _ _ _ _ hi hk (by omega)]
  · unfold overG
    split
    · rw [reachG_at _ _ _ _ _ hk hj (by omega), thr_row]
    · rw [reachG_at _ _ _ _ _ hk hj (by omega)]

theorem set3 (w : World) (A B : Obj) (c c' : Array Value) (t : TypeId) (n i : Nat) (v : Value) (h : c.setIfInBounds i v = c') :
    ((((w.alloc A).alloc B).alloc (.cells c t)).drewN n).setCell ⟨w.heap.size + 1 + 1, i, none⟩ v = (((w.alloc A).alloc B).alloc (.cells c' t)).drewN n := by
  show (((((w.alloc A).alloc B).alloc (.cells c t))).setCell ⟨w.heap.size + 1 + 1, i, none⟩ v).drewN n = _
  rw [World.setCell_alloc_at _ _ _ _ _ (size2 _ _ _), h]

end Go.Proofs.Ythmdkbeccohjkaa
