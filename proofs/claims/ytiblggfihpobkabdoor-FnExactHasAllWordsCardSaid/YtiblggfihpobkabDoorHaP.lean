/- Rings: what is of no program. -/
import Derived.Test.YtiblggfihpobkabDoorBoo
import Derived.Lib.Repeat
namespace Go.Proofs.YtiblggfihpobkabDoor
set_option linter.unusedSimpArgs false
open Go.ChangeShapes Go.WideShapes Go.ChangeAt Go.RowKit
set_option linter.unusedVariables false

theorem rep_get (l : List UInt8) : ∀ c p, p < c * l.length → (Lib.repeatL l c).getD p 0 = l.getD (p % l.length) 0
  | 0, p, h => by simp at h
  | c + 1, p, h => by
    show (l ++ Lib.repeatL l c).getD p 0 = _
    rw [List.getD_eq_getElem?_getD, List.getD_eq_getElem?_getD]
    by_cases hp : p < l.length
    · rw [List.getElem?_append_left hp, Nat.mod_eq_of_lt hp]
    · rw [Nat.succ_mul] at h
      have ih := rep_get l c (p - l.length) (by omega)
      rw [List.getD_eq_getElem?_getD, List.getD_eq_getElem?_getD] at ih
      rw [List.getElem?_append_right (by omega), ih, Nat.mod_eq_sub_mod (show p ≥ l.length by omega)]
/-- The word of L letters around a ring, from place i on. -/
def arW (s : ByteArray) (L i : Nat) : ByteArray := ⟨((List.range L).map fun j => s.data.toList.getD ((i + j) % s.size) 0).toArray⟩
theorem arW_size (s : ByteArray) (L i : Nat) : (arW s L i).size = L := by rw [← len_list]; unfold arW; simp
theorem arW_ext (s A : ByteArray) (c L i : Nat) (hA : A.data.toList = Lib.repeatL s.data.toList c) (h : i + L ≤ c * s.size) : A.extract i (i + L) = arW s L i := by
  have hl := len_list s
  have hz : A.data.toList.length = c * s.size := by rw [hA, Lib.repeatL_length, hl]
  rw [ba_eq, ext_list, show (arW s L i).data.toList = (List.range L).map fun j => s.data.toList.getD ((i + j) % s.size) 0 from rfl]
  apply List.ext_getElem
  · rw [List.length_drop, List.length_take, hz, List.length_map, List.length_range]
    omega
  · intro j h1 h2
    have hj : j < L := by simpa using h2
    have e := rep_get s.data.toList c (i + j) (by rw [hl]; omega)
    rw [← hA, hl, List.getD_eq_getElem?_getD, List.getElem?_eq_getElem (by omega)] at e
    rw [List.getElem_map, List.getElem_range, List.getElem_drop, List.getElem_take]
    exact e
theorem arW_all {n : Nat} {s : ByteArray} (h : allN n s = true) (h1 : 1 ≤ s.size) (L i : Nat) : allN n (arW s L i) = true := by
  unfold allN
  rw [List.all_eq_true]
  intro x hx
  unfold arW at hx
  simp only [List.mem_map, List.mem_range] at hx
  obtain ⟨j, _, rfl⟩ := hx
  have hm : (i + j) % s.size < s.size := Nat.mod_lt _ h1
  have := allN_at h _ hm
  rw [List.getD_eq_getElem?_getD, List.getElem?_eq_getElem (by rw [len_list]; exact hm)]
  show alB n s.data.toList[(i + j) % s.size] = true
  unfold alB
  have e : s.data.toList[(i + j) % s.size]'(by rw [len_list]; exact hm) = s[(i + j) % s.size] := rfl
  rw [e]
  simp
  omega
/-- How many words come before the one at place i. -/
def rkN (n : Nat) (s : ByteArray) (L i : Nat) : Nat := (rkK n (arW s L i) L).toNat
theorem rkN_in {n : Nat} {s : ByteArray} (h : allN n s = true) (h1 : 1 ≤ s.size) (L i : Nat) : rkK n (arW s L i) L = (rkN n s L i : Int) ∧ rkN n s L i < n ^ L := by
  obtain ⟨a, b⟩ := rkK_in (arW_all h h1 L i) L (by rw [arW_size]; exact Nat.le_refl _)
  rw [← Int.natCast_pow] at b
  unfold rkN
  omega
/-- The marks of the first k. -/
def thK (f : Nat → Nat) (k : Nat) : Nat → Bool := fun p => (List.range k).any fun i => f i == p
def ltW (k : Nat) : Nat → Bool := fun p => decide (p < k)
theorem thK_zero (f : Nat → Nat) : thK f 0 = noW := by funext p; simp [thK, noW]
theorem thK_succ (f : Nat → Nat) (k : Nat) : updW (thK f k) (f k) true = thK f (k + 1) := by
  funext p
  unfold updW thK
  rw [List.range_succ, List.any_append]
  by_cases e : p = f k
  · subst e; simp
  · rw [if_neg e]
    have : (f k == p) = false := by rw [beq_eq_false_iff_ne]; exact fun h => e h.symm
    simp [this]
theorem ltW_zero : ltW 0 = noW := by funext p; simp [ltW, noW]
theorem ltW_succ (k : Nat) : updW (ltW k) k true = ltW (k + 1) := by
  funext p
  unfold updW ltW
  by_cases e : p = k
  · subst e; simp
  · rw [if_neg e]
    congr 1
    simp
    omega
theorem count_upd (r : Nat → Bool) (x : Nat) : ∀ q, (List.range q).countP (updW r x true) = (List.range q).countP r + (if x < q ∧ r x = false then 1 else 0)
  | 0 => by simp
  | q + 1 => by
    rw [List.range_succ, List.countP_append, List.countP_append, count_upd r x q]
    by_cases e : x = q
    · subst e
      have e1 : updW r x true x = true := by simp [updW]
      cases h : r x <;> simp [e1, h]
    · have e2 : updW r x true q = r q := by unfold updW; rw [if_neg (fun h => e h.symm)]
      simp only [List.countP_singleton, e2]
      by_cases h : x < q
      · have h2 : x < q + 1 := by omega
        simp only [h, h2, true_and]
        omega
      · have h2 : ¬ x < q + 1 := by omega
        simp only [h, h2, false_and, if_false]
        omega
/-- Each of the first k is new. -/
def newK (f : Nat → Nat) (k : Nat) : Bool := (List.range k).all fun i => !thK f i (f i)
theorem count_thK (f : Nat → Nat) (q : Nat) : ∀ k, (∀ i, i < k → f i < q) → (List.range q).countP (thK f k) = (List.range k).countP fun i => !thK f i (f i)
  | 0, _ => by rw [thK_zero]; simp [noW]
  | k + 1, h => by
    rw [← thK_succ, count_upd, count_thK f q k (fun i hi => h i (by omega)), List.range_succ, List.countP_append, List.countP_singleton]
    have := h k (by omega)
    cases hk : thK f k (f k) <;> simp [this]
theorem ring_eq (f : Nat → Nat) (q : Nat) (hq : q ≤ 300) (h : ∀ i, i < q → f i < q) : sameW (thK f q) (ltW q) = newK f q := by
  have hc := count_thK f q q h
  have hz : (List.range q).length = q := List.length_range
  have e1 : (List.range q).countP (thK f q) = q ↔ ∀ p, p < q → thK f q p = true := by
    constructor
    · intro hh p hp
      exact (List.countP_eq_length (l := List.range q) (p := thK f q)).1 (by rw [hz]; exact hh) p (List.mem_range.2 hp)
    · intro hh
      have := (List.countP_eq_length (l := List.range q) (p := thK f q)).2 (fun p hp => hh p (List.mem_range.1 hp))
      rw [hz] at this
      exact this
  have e2 : ((List.range q).countP fun i => !thK f i (f i)) = q ↔ newK f q = true := by
    unfold newK
    rw [List.all_eq_true]
    constructor
    · intro hh p hp
      exact (List.countP_eq_length (l := List.range q)).1 (by simpa using hh) p hp
    · intro hh
      have := (List.countP_eq_length (l := List.range q) (p := fun i => !thK f i (f i))).2 hh
      simpa using this
  rw [Bool.eq_iff_iff, ← e2, ← hc, e1]
  unfold sameW
  rw [List.all_eq_true]
  constructor
  · intro hh p hp
    have := eq_of_beq (hh p (List.mem_range.2 (by omega)))
    rw [this]
    unfold ltW
    simpa using hp
  · intro hh p hp
    rw [beq_iff_eq]
    unfold ltW
    by_cases e : p < q
    · rw [hh p e]; simp [e]
    · rw [show decide (p < q) = false from by simpa using e]
      unfold thK
      rw [List.any_eq_false]
      intro i hi
      have := h i (List.mem_range.1 hi)
      simp
      omega
end Go.Proofs.YtiblggfihpobkabDoor
