/- A step of moves from a row of chances, and so many steps: the program's contracts. -/
import Derived.Test.YthmdkbeccohjkaaSt2
import Derived.RegionTactic
import Derived.ChangeAlike
namespace Go.Proofs.Ythmdkbeccohjkaa
set_option linter.unusedSimpArgs false
open Go.ChangeShapes Go.WideShapes Go.ChangeAt Go.RowKit
set_option linter.unusedVariables false

/-- The cells of a row. -/
def rowC (h : Nat → Int) : Array Value := #[.int .i64 (h 0), .int .i64 (h 1), .int .i64 (h 2), .int .i64 (h 3), .int .i64 (h 4)]
theorem rowC_one (h : Nat → Int) : (rowC h).all (·.oneCell') = true := by simp [rowC, Value.oneCell']
theorem cases5 {p : Nat → Prop} (h0 : p 0) (h1 : p 1) (h2 : p 2) (h3 : p 3) (h4 : p 4) : ∀ q, q < 5 → p q
  | 0, _ => h0 | 1, _ => h1 | 2, _ => h2 | 3, _ => h3 | 4, _ => h4
  | n + 5, h => absurd h (by omega)
theorem rowC_get (h : Nat → Int) : ∀ q, q < 5 → (rowC h)[q]? = some (.int .i64 (h q)) := by apply cases5 <;> rfl
theorem rowC_set (h : Nat → Int) (x : Int) : ∀ q, q < 5 → (rowC h).setIfInBounds q (.int .i64 x) = rowC (upd h q x) := by apply cases5 <;> rfl
theorem rowC_ext {h h' : Nat → Int} (e : ∀ q, q < 5 → h q = h' q) : rowC h = rowC h' := by
  unfold rowC; rw [e 0 (by omega), e 1 (by omega), e 2 (by omega), e 3 (by omega), e 4 (by omega)]
theorem row_info : (Try.prog.info? 41).map (·.size) = some 5 := by kernel_rfl
theorem row_zero (w : World) : (zeroValue 41).run Try.prog w = .ok (.agg (rowC zer)) w := Try.zeroValue41 w

/-- The next row, of state i the numbers before j. -/
def partS (f : Nat → Nat → Int) (h : Nat → Int) (i j : Nat) : Nat → Int := fun q => if q < j then psum f h q (i + 1) else psum f h q i
theorem partS_zero (f : Nat → Nat → Int) (h : Nat → Int) : partS f h 0 0 = zer := by funext q; simp [partS, psum, zer]
theorem partS_next (f : Nat → Nat → Int) (h : Nat → Int) (i j : Nat) : upd (partS f h i j) j (partS f h i j j + h i * f i j) = partS f h i (j + 1) := by
  funext q
  unfold upd partS
  by_cases e : q = j
  · subst e; simp [psum]
  · rw [if_neg e]
    by_cases h1 : q < j
    · rw [if_pos h1, if_pos (by omega)]
    · rw [if_neg h1, if_neg (by omega)]
theorem partS_row (f : Nat → Nat → Int) (h : Nat → Int) (i n : Nat) (hz : ∀ q, n ≤ q → f i q = 0) : partS f h i n = partS f h (i + 1) 0 := by
  funext q
  unfold partS
  by_cases h1 : q < n
  · simp [h1]
  · simp [h1, psum, hz q (by omega)]
theorem partS_all (f : Nat → Nat → Int) (h : Nat → Int) (n : Nat) : partS f h n 0 = fun q => psum f h q n := by funext q; simp [partS]
def rowF (g : Nat → Int) (i j : Nat) : Int := if j < 5 then g (i * 5 + j) else 0
theorem psum_inB (f : Nat → Nat → Int) (h : Nat → Int) (to : Nat) (B : Int) (hf : ∀ i, 0 ≤ f i to ∧ f i to ≤ 10) (hh : ∀ i, 0 ≤ h i ∧ h i ≤ B) : ∀ i : Nat, 0 ≤ psum f h to i ∧ psum f h to i ≤ i * (10 * B)
  | 0 => by simp [psum]
  | i + 1 => by
    obtain ⟨a, b⟩ := psum_inB f h to B hf hh i
    have h1 := hh i
    have h2 := hf i
    have h3 : 0 ≤ h i * f i to := Int.mul_nonneg h1.1 h2.1
    have h4 : h i * f i to ≤ B * 10 := Int.mul_le_mul h1.2 h2.2 h2.1 (by omega)
    unfold psum
    refine ⟨by omega, ?_⟩
    have : ((i + 1 : Nat) : Int) * (10 * B) = i * (10 * B) + 10 * B := by rw [Int.natCast_add, Int.add_mul]; simp
    omega

theorem size3 (w : World) (a b c : Obj) : w.heap.size + 1 + 1 + 1 = (((w.alloc a).alloc b).alloc c).heap.size := by
  show _ = (((w.heap.push a).push b).push c).size
  simp
theorem set4 (w : World) (A B C : Obj) (c c' : Array Value) (t : TypeId) (n i : Nat) (v : Value) (h : c.setIfInBounds i v = c') :
    (((((w.alloc A).alloc B).alloc C).alloc (.cells c t)).drewN n).setCell ⟨w.heap.size + 1 + 1 + 1, i, none⟩ v = ((((w.alloc A).alloc B).alloc C).alloc (.cells c' t)).drewN n := by
  show ((((((w.alloc A).alloc B).alloc C).alloc (.cells c t))).setCell ⟨w.heap.size + 1 + 1 + 1, i, none⟩ v).drewN n = _
  rw [World.setCell_alloc_at _ _ _ _ _ (size3 _ _ _ _), h]
theorem heap4_new (w : World) (A B C D : Obj) (n : Nat) : (((((w.alloc A).alloc B).alloc C).alloc D).drewN n).heap[w.heap.size + 1 + 1 + 1]? = some D := by
  have h := heap_alloc_new (((w.alloc A).alloc B).alloc C) D
  rw [← size3] at h
  exact h
theorem heap4_second (w : World) (A B C D : Obj) (n : Nat) : (((((w.alloc A).alloc B).alloc C).alloc D).drewN n).heap[w.heap.size + 1 + 1]? = some C := by
  have h := heap_alloc3_new w A B C
  refine (?_ : ((((w.alloc A).alloc B).alloc C).alloc D).heap[w.heap.size + 1 + 1]? = some C)
  rw [heap_alloc_old _ _ (by rw [← size3]; omega)]
  exact h

end Go.Proofs.Ythmdkbeccohjkaa
