/- Roots and prime words: what is of no program. -/
import Derived.Test.YtiblggfihpobkabWoP
namespace Go.Proofs.Ytiblggfihpobkab
set_option linter.unusedSimpArgs false
open Go.ChangeShapes Go.WideShapes Go.ChangeAt Go.RowKit
set_option linter.unusedVariables false

theorem trn_full (s : ByteArray) : trn s s.size = s := by
  rw [ba_eq, trn_list, List.drop_eq_nil_of_le (by rw [len_list]; exact Nat.le_refl _), List.take_of_length_le (by rw [len_list]; exact Nat.le_refl _), List.nil_append]
/-- The least number of letters, from size - d on, by which the word is the same turned. -/
def rtD (s : ByteArray) : Nat → Nat
  | 0 => s.size
  | d + 1 => if trn s (s.size - (d + 1)) = s then s.size - (d + 1) else rtD s d
def rtS (s : ByteArray) : Nat := rtD s (s.size - 1)
theorem rtD_in (s : ByteArray) : ∀ d, d ≤ s.size → s.size - d ≤ rtD s d ∧ rtD s d ≤ s.size ∧ trn s (rtD s d) = s ∧ ∀ j, s.size - d ≤ j → j < rtD s d → trn s j ≠ s
  | 0, _ => ⟨by simp [rtD], by simp [rtD], trn_full s, fun j h1 h2 => by unfold rtD at h2; omega⟩
  | d + 1, h => by
    obtain ⟨a, b, c, e⟩ := rtD_in s d (by omega)
    unfold rtD
    split
    · rename_i ht
      exact ⟨Nat.le_refl _, by omega, ht, fun j h1 h2 => by omega⟩
    · rename_i ht
      refine ⟨by omega, b, c, fun j h1 h2 => ?_⟩
      by_cases hj : j = s.size - (d + 1)
      · rw [hj]; exact ht
      · exact e j (by omega) h2
theorem rt_in (s : ByteArray) (h1 : 1 ≤ s.size) : 1 ≤ rtS s ∧ rtS s ≤ s.size ∧ trn s (rtS s) = s ∧ ∀ j, 1 ≤ j → j < rtS s → trn s j ≠ s := by
  obtain ⟨a, b, c, e⟩ := rtD_in s (s.size - 1) (by omega)
  exact ⟨by unfold rtS; omega, b, c, fun j j1 j2 => e j (by omega) j2⟩
theorem rt_div (s : ByteArray) (h1 : 1 ≤ s.size) (h8 : s.size ≤ 8) : s.size % rtS s = 0 := by
  obtain ⟨a, b, c, e⟩ := rt_in s h1
  rcases Nat.lt_or_ge (rtS s) s.size with h | h
  · obtain ⟨d, d1, d2, d3, d4⟩ := trn_div s h8 (rtS s) a h c
    rcases Nat.lt_or_ge d (rtS s) with g | g
    · exact absurd d4 (e d d1 g)
    · rw [show rtS s = d from by omega]; exact d3
  · rw [show rtS s = s.size from by omega, Nat.mod_self]
theorem ltS_irr (a : ByteArray) : ltS a a = false := by
  unfold ltS
  rw [decide_eq_false_iff_not]
  exact List.lt_irrefl _
theorem ltS_tr {a b c : ByteArray} (h1 : ltS a b = true) (h2 : ltS b c = true) : ltS a c = true := by
  unfold ltS at *
  rw [decide_eq_true_iff] at *
  exact List.lt_trans h1 h2
theorem ltS_asym {a b : ByteArray} (h1 : ltS a b = true) : ltS b a = false := by
  cases h : ltS b a
  · rfl
  · have := ltS_tr h1 h
    rw [ltS_irr] at this
    cases this
theorem ltS_tri {a b : ByteArray} (h1 : ltS a b = false) (h2 : a ≠ b) : ltS b a = true := by
  cases h : ltS b a
  · exfalso
    apply h2
    unfold ltS at h1 h
    rw [decide_eq_false_iff_not] at h1 h
    rw [ba_eq]
    exact List.le_antisymm h h1
  · rfl
theorem fstK_min (s : ByteArray) : ∀ k j, j ≤ k → ltS (trn s j) (fstK s k) = false
  | 0, j, h => by
    obtain rfl : j = 0 := by omega
    rw [trn_zero]
    exact ltS_irr s
  | k + 1, j, h => by
    unfold fstK
    split
    · rename_i ht
      by_cases hj : j = k + 1
      · rw [hj]; exact ltS_irr _
      · have h1 := fstK_min s k j (by omega)
        cases hq : ltS (trn s j) (trn s (k + 1))
        · rfl
        · rw [ltS_tr hq ht] at h1
          cases h1
    · rename_i ht
      by_cases hj : j = k + 1
      · rw [hj]
        simpa using ht
      · exact fstK_min s k j (by omega)
/-- A word comes before all its other turns: it is its own first turn, and no shorter root. -/
theorem pr_eq (s : ByteArray) (h1 : 1 ≤ s.size) : isPr s = (decide (rtS s = s.size) && decide (fstW s = s)) := by
  obtain ⟨a, b, c, e⟩ := rt_in s h1
  rw [Bool.eq_iff_iff, Bool.and_eq_true, decide_eq_true_iff, decide_eq_true_iff]
  unfold isPr
  rw [List.all_eq_true]
  constructor
  · intro h
    have hh : ∀ j, 1 ≤ j → j < s.size → ltS s (trn s j) = true := fun j j1 j2 => by
      have := h (j - 1) (List.mem_range.2 (by omega))
      rwa [Nat.sub_add_cancel j1] at this
    constructor
    · rcases Nat.lt_or_ge (rtS s) s.size with g | g
      · have := hh _ a g
        rw [c, ltS_irr] at this
        cases this
      · omega
    · unfold fstW
      have : ∀ k, k < s.size → fstK s k = s := by
        intro k
        induction k with
        | zero => intro _; rfl
        | succ k ih =>
          intro hk
          unfold fstK
          rw [ih (by omega), ltS_asym (hh (k + 1) (by omega) hk)]
          rfl
      exact this _ (by omega)
  · rintro ⟨hr, hf⟩ k hk
    have hk2 := List.mem_range.1 hk
    have h2 := fstK_min s (s.size - 1) (k + 1) (by omega)
    have hf2 : fstK s (s.size - 1) = s := hf
    rw [hf2] at h2
    exact ltS_tri h2 (e (k + 1) (by omega) (by omega))
end Go.Proofs.Ytiblggfihpobkab
