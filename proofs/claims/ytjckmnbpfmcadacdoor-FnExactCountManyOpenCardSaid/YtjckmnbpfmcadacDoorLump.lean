/- Two machines that read tosses, one of which knows more: the numbers of the other one are sums. What is of no program. -/
import Derived.Test.YtjckmnbpfmcadacDoorSums
namespace Go.Proofs.YtjckmnbpfmcadacDoor
set_option linter.unusedSimpArgs false
open Go.ChangeShapes Go.WideShapes Go.ChangeAt Go.RowKit
set_option linter.unusedVariables false

/-- The numbers behind t tosses, the machine being begun at s0. -/
def cntM (gh gt : Nat → Nat) (n s0 : Nat) : Nat → Nat → Int
  | 0, k => if k = s0 then 1 else 0
  | t + 1, k => stp gh gt 1 1 (cntM gh gt n s0 t) n k
theorem cntM_nonneg (gh gt : Nat → Nat) (n s0 : Nat) : ∀ t k, 0 ≤ cntM gh gt n s0 t k
  | 0, k => by unfold cntM; split <;> omega
  | t + 1, k => stp_nonneg gh gt (by omega) (by omega) n k fun j _ => cntM_nonneg gh gt n s0 t j
/-- A sum of a function at one place. -/
theorem sum_pick (x m : Nat) (g : Nat → Int) : sumJ (fun k => if x = k then g k else 0) m = if x < m then g x else 0 := by
  have e : sumJ (fun k => if x = k then g k else 0) m = sumJ (ind x (g x)) m := sumJ_congr m fun k _ => by
    unfold ind
    by_cases h : x = k
    · subst h; rfl
    · rw [if_neg h, if_neg h]
  rw [e, ind_sum]
structure Lumps (n Z N s0 : Nat) (gh gt mh mt ρ : Nat → Nat) (good : Nat → Bool) : Prop where
  start : s0 < Z ∧ good s0 = true ∧ ρ s0 = 0
  low : ∀ i, i < Z → good i = true → ρ i < n
  fin : ∀ k, k < N → ρ (Z + k) = n + k
  h : ∀ i, i < Z → good i = true → gh (ρ i) = ρ (mh i) ∧ mh i < Z + N ∧ (mh i < Z → good (mh i) = true)
  t : ∀ i, i < Z → good i = true → gt (ρ i) = ρ (mt i) ∧ mt i < Z + N ∧ (mt i < Z → good (mt i) = true)
section
variable {n Z N s0 : Nat} {gh gt mh mt ρ : Nat → Nat} {good : Nat → Bool}
theorem Lumps.zero (L : Lumps n Z N s0 gh gt mh mt ρ good) : ∀ t i, i < Z → good i = false → cntM mh mt Z s0 t i = 0
  | 0, i, hi, hg => by
    unfold cntM
    rw [if_neg]
    intro e
    rw [e, L.start.2.1] at hg
    cases hg
  | t + 1, i, hi, hg => by
    show sumJ (fun j => con mh mt 1 1 (cntM mh mt Z s0 t) j i) Z = 0
    refine (sumJ_congr (h := fun _ => 0) Z fun j hj => ?_).trans (sumJ_zero Z)
    cases hgj : good j
    · unfold con ind
      rw [L.zero t j hj hgj]
      simp
    · obtain ⟨_, _, h3⟩ := L.h j hj hgj
      obtain ⟨_, _, t3⟩ := L.t j hj hgj
      unfold con ind
      rw [if_neg, if_neg]
      · rfl
      · intro e
        rw [e] at t3
        rw [t3 hi] at hg
        cases hg
      · intro e
        rw [e] at h3
        rw [h3 hi] at hg
        cases hg
/-- The sum that a state of the machine that knows less stands for. -/
def lumpS (ρ : Nat → Nat) (M : Nat → Int) (m j : Nat) : Int := sumJ (fun i => if ρ i = j then M i else 0) m
theorem ind_swap (x j : Nat) (y : Int) : ind x y j = if x = j then y else 0 := rfl
theorem sumJ_add_range (g : Nat → Int) (a : Nat) : ∀ b, sumJ g (a + b) = sumJ g a + sumJ (fun i => g (a + i)) b
  | 0 => by simp [sumJ]
  | b + 1 => by
    show sumJ g (a + b) + g (a + b) = sumJ g a + (sumJ (fun i => g (a + i)) b + g (a + b))
    rw [sumJ_add_range g a b]
    omega
/-- What flows by one side of the coin. -/
theorem Lumps.flow (L : Lumps n Z N s0 gh gt mh mt ρ good) (g m : Nat → Nat) (hg : ∀ i, i < Z → good i = true → g (ρ i) = ρ (m i)) (M : Nat → Int) (hM : ∀ i, i < Z → good i = false → M i = 0) (j : Nat) :
    sumJ (fun k => ind (g k) (lumpS ρ M (Z + N) k) j) n = sumJ (fun i => if ρ (m i) = j then M i else 0) Z := by
  have e1 : sumJ (fun k => ind (g k) (lumpS ρ M (Z + N) k) j) n = sumJ (fun k => sumJ (fun i => if ρ i = k then (if g k = j then M i else 0) else 0) (Z + N)) n := sumJ_congr n fun k _ => by
    unfold ind lumpS
    by_cases h : g k = j
    · simp only [h, if_true]
    · simp only [h, if_false]
      exact ((sumJ_congr (h := fun _ => 0) _ fun i _ => by split <;> rfl).trans (sumJ_zero _)).symm
  rw [e1, sumJ_swap (fun i k => if ρ i = k then (if g k = j then M i else 0) else 0) (Z + N) n]
  have e2 : sumJ (fun i => sumJ (fun k => if ρ i = k then (if g k = j then M i else 0) else 0) n) (Z + N) = sumJ (fun i => if ρ i < n then (if g (ρ i) = j then M i else 0) else 0) (Z + N) := sumJ_congr _ fun i _ => sum_pick (ρ i) n fun k => if g k = j then M i else 0
  rw [e2, sumJ_add_range]
  have e3 : sumJ (fun i => if ρ (Z + i) < n then (if g (ρ (Z + i)) = j then M (Z + i) else 0) else 0) N = 0 := (sumJ_congr (h := fun _ => 0) _ fun i hi => by rw [L.fin i hi, if_neg (by omega)]).trans (sumJ_zero _)
  rw [e3, Int.add_zero]
  refine sumJ_congr Z fun i hi => ?_
  cases hgi : good i
  · rw [hM i hi hgi]
    split <;> (try split) <;> (try split) <;> rfl
  · rw [if_pos (L.low i hi hgi), hg i hi hgi]
theorem Lumps.back (L : Lumps n Z N s0 gh gt mh mt ρ good) (m : Nat → Nat) (hm : ∀ i, i < Z → good i = true → m i < Z + N) (M : Nat → Int) (hM : ∀ i, i < Z → good i = false → M i = 0) (j : Nat) :
    sumJ (fun k => if ρ k = j then sumJ (fun i => ind (m i) (M i) k) Z else 0) (Z + N) = sumJ (fun i => if ρ (m i) = j then M i else 0) Z := by
  have e1 : sumJ (fun k => if ρ k = j then sumJ (fun i => ind (m i) (M i) k) Z else 0) (Z + N) = sumJ (fun k => sumJ (fun i => if m i = k then (if ρ k = j then M i else 0) else 0) Z) (Z + N) := sumJ_congr _ fun k _ => by
    by_cases h : ρ k = j
    · simp only [h, if_true]; rfl
    · simp only [h, if_false]
      exact ((sumJ_congr (h := fun _ => 0) _ fun i _ => by split <;> rfl).trans (sumJ_zero _)).symm
  rw [e1, sumJ_swap (fun i k => if m i = k then (if ρ k = j then M i else 0) else 0) Z (Z + N)]
  refine sumJ_congr Z fun i hi => ?_
  rw [sum_pick (m i) (Z + N) fun k => if ρ k = j then M i else 0]
  cases hgi : good i
  · rw [hM i hi hgi]
    split <;> (try split) <;> rfl
  · rw [if_pos (hm i hi hgi)]
theorem Lumps.main (L : Lumps n Z N s0 gh gt mh mt ρ good) : ∀ t j, cnt gh gt 1 1 n t j = lumpS ρ (cntM mh mt Z s0 t) (Z + N) j
  | 0, j => by
    show (if j = 0 then (1 : Int) else 0) = sumJ (fun i => if ρ i = j then (if i = s0 then 1 else 0) else 0) (Z + N)
    have e : sumJ (fun i => if ρ i = j then (if i = s0 then (1 : Int) else 0) else 0) (Z + N) = sumJ (fun i => if s0 = i then (if ρ i = j then (1 : Int) else 0) else 0) (Z + N) := sumJ_congr _ fun i _ => by
      by_cases h : i = s0
      · subst h; simp
      · have h2 : ¬ s0 = i := fun q => h q.symm
        simp [h, h2]
    have hz : s0 < Z + N := by have := L.start.1; omega
    rw [e, sum_pick s0 (Z + N) fun i => if ρ i = j then (1 : Int) else 0]
    simp only [hz, if_true, L.start.2.2]
    by_cases h : j = 0
    · subst h; rfl
    · have h2 : ¬ 0 = j := fun q => h q.symm
      simp [h, h2]
  | t + 1, j => by
    have hM := L.zero t
    have ih : cnt gh gt 1 1 n t = fun k => lumpS ρ (cntM mh mt Z s0 t) (Z + N) k := funext fun k => L.main t k
    have h1 := L.flow gh mh (fun i hi hg => (L.h i hi hg).1) (cntM mh mt Z s0 t) hM j
    have h2 := L.flow gt mt (fun i hi hg => (L.t i hi hg).1) (cntM mh mt Z s0 t) hM j
    have b1 := L.back mh (fun i hi hg => (L.h i hi hg).2.1) (cntM mh mt Z s0 t) hM j
    have b2 := L.back mt (fun i hi hg => (L.t i hi hg).2.1) (cntM mh mt Z s0 t) hM j
    show sumJ (fun k => ind (gh k) (1 * cnt gh gt 1 1 n t k) j + ind (gt k) (1 * cnt gh gt 1 1 n t k) j) n = sumJ (fun k => if ρ k = j then sumJ (fun i => ind (mh i) (1 * cntM mh mt Z s0 t i) k + ind (mt i) (1 * cntM mh mt Z s0 t i) k) Z else 0) (Z + N)
    rw [ih]
    simp only [Int.one_mul]
    rw [sumJ_add, h1, h2, ← b1, ← b2, ← sumJ_add]
    refine sumJ_congr _ fun k _ => ?_
    by_cases h : ρ k = j
    · rw [if_pos h, if_pos h, if_pos h, ← sumJ_add]
    · rw [if_neg h, if_neg h, if_neg h]; rfl
/-- Nobody has won: both sums are one. -/
theorem Lumps.open_ (L : Lumps n Z N s0 gh gt mh mt ρ good) (t : Nat) : sumJ (cnt gh gt 1 1 n t) n = sumJ (cntM mh mt Z s0 t) Z := by
  have hM := L.zero t
  have e0 : sumJ (cnt gh gt 1 1 n t) n = sumJ (fun k => sumJ (fun i => if ρ i = k then cntM mh mt Z s0 t i else 0) (Z + N)) n := sumJ_congr n fun k _ => L.main t k
  rw [e0, sumJ_swap (fun i k => if ρ i = k then cntM mh mt Z s0 t i else 0) (Z + N) n]
  have e2 : sumJ (fun i => sumJ (fun k => if ρ i = k then cntM mh mt Z s0 t i else 0) n) (Z + N) = sumJ (fun i => if ρ i < n then cntM mh mt Z s0 t i else 0) (Z + N) := sumJ_congr _ fun i _ => sum_pick (ρ i) n fun _ => cntM mh mt Z s0 t i
  rw [e2, sumJ_add_range]
  have e3 : sumJ (fun i => if ρ (Z + i) < n then cntM mh mt Z s0 t (Z + i) else 0) N = 0 := (sumJ_congr (h := fun _ => 0) _ fun i hi => by rw [L.fin i hi, if_neg (by omega)]).trans (sumJ_zero _)
  rw [e3, Int.add_zero]
  refine sumJ_congr Z fun i hi => ?_
  cases hgi : good i
  · rw [hM i hi hgi]; split <;> rfl
  · rw [if_pos (L.low i hi hgi)]
theorem Lumps.won (L : Lumps n Z N s0 gh gt mh mt ρ good) (t k : Nat) (hk : k < N) : cnt gh gt 1 1 n t (n + k) = cntM mh mt Z s0 t (Z + k) := by
  have hM := L.zero t
  rw [L.main t (n + k)]
  unfold lumpS
  rw [sumJ_add_range]
  have e1 : sumJ (fun i => if ρ i = n + k then cntM mh mt Z s0 t i else 0) Z = 0 := (sumJ_congr (h := fun _ => 0) _ fun i hi => by
    cases hgi : good i
    · rw [hM i hi hgi]; split <;> rfl
    · rw [if_neg (by have := L.low i hi hgi; omega)]).trans (sumJ_zero _)
  rw [e1, Int.zero_add]
  have e2 : sumJ (fun i => if ρ (Z + i) = n + k then cntM mh mt Z s0 t (Z + i) else 0) N = sumJ (fun i => if k = i then cntM mh mt Z s0 t (Z + i) else 0) N := sumJ_congr _ fun i hi => by
    rw [L.fin i hi]
    by_cases h : k = i
    · subst h; simp
    · rw [if_neg h, if_neg (by omega)]
  rw [e2, sum_pick k N fun i => cntM mh mt Z s0 t (Z + i), if_pos hk]
end
end Go.Proofs.YtjckmnbpfmcadacDoor
