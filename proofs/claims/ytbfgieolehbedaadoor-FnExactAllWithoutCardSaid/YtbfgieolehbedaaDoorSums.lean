/- Sums of numbers of texts: what is of no program. -/
import Derived.Test.YtbfgieolehbedaaDoorAuto
namespace Go.Proofs.YtbfgieolehbedaaDoor
set_option linter.unusedSimpArgs false
open Go.ChangeShapes Go.WideShapes Go.ChangeAt Go.RowKit
set_option linter.unusedVariables false

def sumJ (g : Nat → Int) : Nat → Int
  | 0 => 0
  | m + 1 => sumJ g m + g m
theorem sumJ_congr {g h : Nat → Int} : ∀ m, (∀ j, j < m → g j = h j) → sumJ g m = sumJ h m
  | 0, _ => rfl
  | m + 1, e => by
    unfold sumJ
    rw [sumJ_congr m (fun j hj => e j (by omega)), e m (by omega)]
theorem sumJ_add (g h : Nat → Int) : ∀ m, sumJ (fun j => g j + h j) m = sumJ g m + sumJ h m
  | 0 => rfl
  | m + 1 => by
    have := sumJ_add g h m
    unfold sumJ
    omega
theorem sumJ_zero : ∀ m, sumJ (fun _ => 0) m = 0
  | 0 => rfl
  | m + 1 => by
    have := sumJ_zero m
    unfold sumJ
    omega
theorem sumJ_mul (a : Int) (g : Nat → Int) : ∀ m, sumJ (fun j => a * g j) m = a * sumJ g m
  | 0 => by simp [sumJ]
  | m + 1 => by
    have := sumJ_mul a g m
    unfold sumJ
    rw [this, Int.mul_add]
theorem sumJ_nonneg {g : Nat → Int} : ∀ m, (∀ j, j < m → 0 ≤ g j) → 0 ≤ sumJ g m
  | 0, _ => by simp [sumJ]
  | m + 1, h => by
    have := sumJ_nonneg m (fun j hj => h j (by omega))
    have := h m (by omega)
    unfold sumJ
    omega
theorem sumJ_le {g h : Nat → Int} : ∀ m, (∀ j, j < m → g j ≤ h j) → sumJ g m ≤ sumJ h m
  | 0, _ => by simp [sumJ]
  | m + 1, e => by
    have := sumJ_le m (fun j hj => e j (by omega))
    have := e m (by omega)
    unfold sumJ
    omega
theorem sumJ_swap (g : Nat → Nat → Int) (n : Nat) : ∀ m, sumJ (fun k => sumJ (fun j => g j k) n) m = sumJ (fun j => sumJ (fun k => g j k) m) n
  | 0 => by
    show 0 = sumJ (fun j => 0) n
    rw [sumJ_zero]
  | m + 1 => by
    show sumJ (fun k => sumJ (fun j => g j k) n) m + sumJ (fun j => g j m) n = sumJ (fun j => sumJ (fun k => g j k) m + g j m) n
    rw [sumJ_swap g n m, sumJ_add]
/-- y at x, nothing elsewhere. -/
def ind (x : Nat) (y : Int) (k : Nat) : Int := if x = k then y else 0
theorem ind_in (x : Nat) {y : Int} (hy : 0 ≤ y) (k : Nat) : 0 ≤ ind x y k ∧ ind x y k ≤ y := by unfold ind; split <;> omega
theorem ind_sum (x : Nat) (y : Int) : ∀ m, sumJ (ind x y) m = if x < m then y else 0
  | 0 => rfl
  | m + 1 => by
    show sumJ (ind x y) m + ind x y m = _
    rw [ind_sum x y m]
    unfold ind
    by_cases h1 : x < m
    · rw [if_pos h1, if_neg (by omega), if_pos (by omega)]; omega
    · by_cases h2 : x = m
      · rw [if_neg h1, if_pos h2, if_pos (by omega)]; omega
      · rw [if_neg h1, if_neg h2, if_neg (by omega)]; rfl
/-- What comes to k out of j, at gh heads and gt tails. -/
def con (gh gt : Nat → Nat) (a b : Int) (f : Nat → Int) (j k : Nat) : Int := ind (gh j) (a * f j) k + ind (gt j) (b * f j) k
theorem con_nonneg (gh gt : Nat → Nat) {a b : Int} {f : Nat → Int} (ha : 0 ≤ a) (hb : 0 ≤ b) (j k : Nat) (hf : 0 ≤ f j) : 0 ≤ con gh gt a b f j k := by
  unfold con
  have := (ind_in (gh j) (Int.mul_nonneg ha hf) k).1
  have := (ind_in (gt j) (Int.mul_nonneg hb hf) k).1
  omega
theorem con_le (gh gt : Nat → Nat) {a b : Int} {f : Nat → Int} (ha : 0 ≤ a) (hb : 0 ≤ b) (j k : Nat) (hf : 0 ≤ f j) : con gh gt a b f j k ≤ (a + b) * f j := by
  unfold con
  have := (ind_in (gh j) (Int.mul_nonneg ha hf) k).2
  have := (ind_in (gt j) (Int.mul_nonneg hb hf) k).2
  rw [Int.add_mul]
  omega
/-- The numbers behind one toss more. -/
def stp (gh gt : Nat → Nat) (a b : Int) (f : Nat → Int) (n : Nat) (k : Nat) : Int := sumJ (fun j => con gh gt a b f j k) n
theorem stp_nonneg (gh gt : Nat → Nat) {a b : Int} {f : Nat → Int} (ha : 0 ≤ a) (hb : 0 ≤ b) (n k : Nat) (hf : ∀ j, j < n → 0 ≤ f j) : 0 ≤ stp gh gt a b f n k :=
  sumJ_nonneg n fun j hj => con_nonneg gh gt ha hb j k (hf j hj)
theorem stp_le (gh gt : Nat → Nat) {a b : Int} {f : Nat → Int} (ha : 0 ≤ a) (hb : 0 ≤ b) (n k : Nat) (hf : ∀ j, j < n → 0 ≤ f j) : stp gh gt a b f n k ≤ (a + b) * sumJ f n := by
  unfold stp
  rw [← sumJ_mul]
  exact sumJ_le n fun j hj => con_le gh gt ha hb j k (hf j hj)
theorem con_sum (gh gt : Nat → Nat) (a b : Int) (f : Nat → Int) (j m : Nat) : sumJ (con gh gt a b f j) m = (if gh j < m then a * f j else 0) + (if gt j < m then b * f j else 0) := by
  rw [show sumJ (con gh gt a b f j) m = sumJ (fun k => ind (gh j) (a * f j) k + ind (gt j) (b * f j) k) m from rfl, sumJ_add, ind_sum, ind_sum]
theorem stp_sum_le (gh gt : Nat → Nat) {a b : Int} {f : Nat → Int} (ha : 0 ≤ a) (hb : 0 ≤ b) (n : Nat) (hf : ∀ j, j < n → 0 ≤ f j) (m : Nat) : sumJ (stp gh gt a b f n) m ≤ (a + b) * sumJ f n := by
  rw [show sumJ (stp gh gt a b f n) m = sumJ (fun k => sumJ (fun j => con gh gt a b f j k) n) m from rfl, sumJ_swap, ← sumJ_mul]
  refine sumJ_le n fun j hj => ?_
  have := Int.mul_nonneg ha (hf j hj)
  have := Int.mul_nonneg hb (hf j hj)
  rw [show sumJ (fun k => con gh gt a b f j k) m = sumJ (con gh gt a b f j) m from rfl, con_sum, Int.add_mul]
  split <;> split <;> omega
theorem stp_sum_eq (gh gt : Nat → Nat) (a b : Int) (f : Nat → Int) (n m : Nat) (h1 : ∀ j, j < n → gh j < m) (h2 : ∀ j, j < n → gt j < m) : sumJ (stp gh gt a b f n) m = (a + b) * sumJ f n := by
  rw [show sumJ (stp gh gt a b f n) m = sumJ (fun k => sumJ (fun j => con gh gt a b f j k) n) m from rfl, sumJ_swap, ← sumJ_mul]
  refine sumJ_congr n fun j hj => ?_
  rw [show sumJ (fun k => con gh gt a b f j k) m = sumJ (con gh gt a b f j) m from rfl, con_sum, if_pos (h1 j hj), if_pos (h2 j hj), Int.add_mul]
/-- The numbers of texts by how many signs of the pattern they end with, behind t tosses. -/
def cnt (gh gt : Nat → Nat) (a b : Int) (n : Nat) : Nat → Nat → Int
  | 0, k => if k = 0 then 1 else 0
  | t + 1, k => stp gh gt a b (cnt gh gt a b n t) n k
theorem cnt_nonneg (gh gt : Nat → Nat) {a b : Int} (ha : 0 ≤ a) (hb : 0 ≤ b) (n : Nat) : ∀ t k, 0 ≤ cnt gh gt a b n t k
  | 0, k => by unfold cnt; split <;> omega
  | t + 1, k => stp_nonneg gh gt ha hb n k fun j _ => cnt_nonneg gh gt ha hb n t j
theorem cnt_sum (gh gt : Nat → Nat) {a b : Int} (ha : 0 ≤ a) (hb : 0 ≤ b) (n : Nat) : ∀ t, sumJ (cnt gh gt a b n t) n ≤ (a + b) ^ t
  | 0 => by
    have : sumJ (cnt gh gt a b n 0) n = sumJ (ind 0 1) n := sumJ_congr n fun j _ => by
      show (if j = 0 then (1 : Int) else 0) = if 0 = j then 1 else 0
      by_cases h : j = 0
      · rw [if_pos h, if_pos h.symm]
      · rw [if_neg h, if_neg (fun e => h e.symm)]
    rw [this, ind_sum]
    split <;> simp
  | t + 1 => by
    have h := stp_sum_le gh gt ha hb n (fun j _ => cnt_nonneg gh gt ha hb n t j) n
    have ih := Int.mul_le_mul_of_nonneg_left (cnt_sum gh gt ha hb n t) (show 0 ≤ a + b by omega)
    rw [Int.pow_succ, Int.mul_comm]
    exact Int.le_trans h ih
theorem cnt_le (gh gt : Nat → Nat) {a b : Int} (ha : 0 ≤ a) (hb : 0 ≤ b) (n : Nat) (t k : Nat) (hk : k < n) : cnt gh gt a b n t k ≤ (a + b) ^ t := by
  have h0 := cnt_sum gh gt ha hb n t
  have : ∀ m, m ≤ n → (∀ i, i < m → cnt gh gt a b n t i ≤ sumJ (cnt gh gt a b n t) m) := by
    intro m
    induction m with
    | zero => intro _ i hi; omega
    | succ m ih =>
      intro hm i hi
      have hs : sumJ (cnt gh gt a b n t) (m + 1) = sumJ (cnt gh gt a b n t) m + cnt gh gt a b n t m := rfl
      have hn := cnt_nonneg gh gt ha hb n t m
      have hm0 := sumJ_nonneg m (fun j _ => cnt_nonneg gh gt ha hb n t j)
      by_cases e : i = m
      · subst e; omega
      · have := ih (by omega) i (by omega); omega
  exact Int.le_trans (this n (Nat.le_refl _) k hk) h0

/-- A row of n + 1 numbers. -/
def rowF (n : Nat) (f : Nat → Int) : List Int := (List.range (n + 1)).map f
theorem rowF_len (n : Nat) (f : Nat → Int) : (rowF n f).length = n + 1 := by simp [rowF]
theorem rowF_at (n : Nat) (f : Nat → Int) (k : Nat) (hk : k ≤ n) : (rowF n f).getD k 0 = f k := by
  unfold rowF
  rw [List.getD_eq_getElem?_getD, List.getElem?_map, List.getElem?_range (by omega)]
  rfl
theorem rowF_set (n : Nat) (f g : Nat → Int) (k : Nat) (x : Int) (hx : g k = x) (ho : ∀ i, i ≤ n → i ≠ k → g i = f i) : (rowF n f).set k x = rowF n g := by
  apply List.ext_getElem
  · simp [rowF]
  · intro j h1 h2
    have hj : j < n + 1 := by simpa [rowF] using h2
    rw [List.getElem_set]
    by_cases e : k = j
    · subst e
      rw [if_pos rfl]
      simp [rowF, hx]
    · rw [if_neg e]
      simp [rowF, ho j (by omega) (fun q => e q.symm)]
theorem rowF_congr (n : Nat) {f g : Nat → Int} (h : ∀ k, k ≤ n → f k = g k) : rowF n f = rowF n g := by
  unfold rowF
  apply List.map_congr_left
  intro k hk
  exact h k (by simpa using Nat.lt_succ_iff.1 (by simpa using hk))
theorem rowF_zero (n : Nat) : rowF n (fun _ => 0) = List.replicate (n + 1) 0 := by
  unfold rowF
  simp [List.map_const']
end Go.Proofs.YtbfgieolehbedaaDoor
