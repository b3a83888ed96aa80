/- ChanceBy: the contracts of the program and of its model. -/
import Derived.Test.YtjckmnbpfmcadacDoorCw
import Derived.Test.YtjckmnbpfmcadacDoorBoth
namespace Go.Proofs.YtjckmnbpfmcadacDoor
set_option linter.unusedSimpArgs false
open Go.ChangeShapes Go.WideShapes Go.ChangeAt Go.RowKit
set_option linter.unusedVariables false

/-- The numbers of texts by how many signs of the pattern they end with; at the last place those in which it has come. -/
def accB (p : ByteArray) (a b o : Int) : Nat → Int
  | 0 => 0
  | t + 1 => accB p a b o t * o + cnt (gH p) (gT p) a b p.size (t + 1) p.size
def rowB (p : ByteArray) (a b o : Int) (t k : Nat) : Int := if k < p.size then cnt (gH p) (gT p) a b p.size t k else accB p a b o t
theorem acc_sum (p : ByteArray) (h1 : 1 ≤ p.size) (a b : Int) : ∀ t, accB p a b (a + b) t + sumJ (cnt (gH p) (gT p) a b p.size t) p.size = (a + b) ^ t
  | 0 => by
    have : sumJ (cnt (gH p) (gT p) a b p.size 0) p.size = sumJ (ind 0 1) p.size := sumJ_congr _ fun j _ => by
      show (if j = 0 then (1 : Int) else 0) = if 0 = j then 1 else 0
      by_cases h : j = 0
      · rw [if_pos h, if_pos h.symm]
      · rw [if_neg h, if_neg (fun e => h e.symm)]
    rw [this, ind_sum, if_pos (by omega)]
    simp [accB]
  | t + 1 => by
    have ih := acc_sum p h1 a b t
    have hs := stp_sum_eq (gH p) (gT p) a b (cnt (gH p) (gT p) a b p.size t) p.size (p.size + 1) (fun j hj => by have := goN_le p j sH; show goN p j sH < _; omega) (fun j hj => by have := goN_le p j sT; show goN p j sT < _; omega)
    have hs2 : sumJ (cnt (gH p) (gT p) a b p.size (t + 1)) p.size + cnt (gH p) (gT p) a b p.size (t + 1) p.size = (a + b) * sumJ (cnt (gH p) (gT p) a b p.size t) p.size := hs
    rw [Int.pow_succ, ← ih]
    show accB p a b (a + b) t * (a + b) + cnt (gH p) (gT p) a b p.size (t + 1) p.size + sumJ (cnt (gH p) (gT p) a b p.size (t + 1)) p.size = _
    rw [Int.add_mul, Int.mul_comm (sumJ _ _) (a + b), ← hs2]
    omega
theorem acc_nonneg (p : ByteArray) {a b o : Int} (ha : 0 ≤ a) (hb : 0 ≤ b) (ho : 0 ≤ o) : ∀ t, 0 ≤ accB p a b o t
  | 0 => Int.le_refl _
  | t + 1 => by
    have h1 := Int.mul_nonneg (acc_nonneg p ha hb ho t) ho
    have h2 := cnt_nonneg (gH p) (gT p) ha hb p.size (t + 1) p.size
    show 0 ≤ accB p a b o t * o + _
    omega
/-- The step of the model, in the midst of the j-th number. -/
def midC (p : ByteArray) (a b o : Int) (t j : Nat) (i : Bool) (k : Nat) : Int :=
  (if k = p.size then accB p a b o t * o else 0) + stp (gH p) (gT p) a b (cnt (gH p) (gT p) a b p.size t) j k + (if i then ind (gH p j) (a * cnt (gH p) (gT p) a b p.size t j) k else 0)
theorem midC_one (p : ByteArray) (a b o : Int) (t j k : Nat) : midC p a b o t j true k = midC p a b o t j false k + ind (gH p j) (a * cnt (gH p) (gT p) a b p.size t j) k := by
  unfold midC
  simp
theorem midC_two (p : ByteArray) (a b o : Int) (t j k : Nat) : midC p a b o t (j + 1) false k = midC p a b o t j true k + ind (gT p j) (b * cnt (gH p) (gT p) a b p.size t j) k := by
  have e : stp (gH p) (gT p) a b (cnt (gH p) (gT p) a b p.size t) (j + 1) k = stp (gH p) (gT p) a b (cnt (gH p) (gT p) a b p.size t) j k + con (gH p) (gT p) a b (cnt (gH p) (gT p) a b p.size t) j k := rfl
  unfold midC
  rw [e]
  unfold con
  simp only [Bool.false_eq_true, if_false, if_true]
  omega
theorem midC_end (p : ByteArray) (a b o : Int) (t k : Nat) (hk : k ≤ p.size) : midC p a b o t p.size false k = rowB p a b o (t + 1) k := by
  unfold midC rowB
  by_cases e : k = p.size
  · subst e
    have h1 : ¬ p.size < p.size := by omega
    simp only [h1, Bool.false_eq_true, if_false, if_true, Int.add_zero]
    rfl
  · have h1 : k < p.size := by omega
    simp only [h1, e, Bool.false_eq_true, if_false, if_true, Int.add_zero, Int.zero_add]
    rfl
theorem midC_in (p : ByteArray) (h1 : 1 ≤ p.size) {a b : Int} (ha : 0 ≤ a) (hb : 0 ≤ b) (t j : Nat) (hj : j < p.size) (i : Bool) (k : Nat) : 0 ≤ midC p a b (a + b) t j i k ∧ midC p a b (a + b) t j i k ≤ (a + b) ^ (t + 1) ∧ midC p a b (a + b) t (j + 1) false k ≤ (a + b) ^ (t + 1) := by
  have hf := fun q => cnt_nonneg (gH p) (gT p) ha hb p.size t q
  have hacc := Int.mul_nonneg (acc_nonneg p ha hb (show 0 ≤ a + b by omega) t) (show 0 ≤ a + b by omega)
  have s0 := stp_nonneg (gH p) (gT p) ha hb j k (fun q _ => hf q)
  have s1 := stp_le (gH p) (gT p) ha hb (j + 1) k (fun q _ => hf q)
  have i0 := (ind_in (gH p j) (Int.mul_nonneg ha (hf j)) k).1
  have i1 := (ind_in (gT p j) (Int.mul_nonneg hb (hf j)) k).1
  have hmono : ∀ m, j + 1 ≤ m → sumJ (cnt (gH p) (gT p) a b p.size t) (j + 1) ≤ sumJ (cnt (gH p) (gT p) a b p.size t) m := by
    intro m
    induction m with
    | zero => intro h; omega
    | succ m ih =>
      intro h
      by_cases e : j + 1 = m + 1
      · rw [e]; exact Int.le_refl _
      · have := ih (by omega)
        have := hf m
        show _ ≤ sumJ (cnt (gH p) (gT p) a b p.size t) m + cnt (gH p) (gT p) a b p.size t m
        omega
  have s2 := Int.mul_le_mul_of_nonneg_left (hmono p.size (by omega)) (show 0 ≤ a + b by omega)
  have hsum := acc_sum p h1 a b t
  have hpow : accB p a b (a + b) t * (a + b) + (a + b) * sumJ (cnt (gH p) (gT p) a b p.size t) p.size = (a + b) ^ (t + 1) := by
    have hx := Int.add_mul (accB p a b (a + b) t) (sumJ (cnt (gH p) (gT p) a b p.size t) p.size) (a + b)
    rw [Int.pow_succ, ← hsum, hx, Int.mul_comm (a + b) (sumJ _ _)]
  have e1 := midC_one p a b (a + b) t j k
  have e2 := midC_two p a b (a + b) t j k
  have e3 : midC p a b (a + b) t j false k = (if k = p.size then accB p a b (a + b) t * (a + b) else 0) + stp (gH p) (gT p) a b (cnt (gH p) (gT p) a b p.size t) j k := by unfold midC; simp
  have e4 : midC p a b (a + b) t (j + 1) false k = (if k = p.size then accB p a b (a + b) t * (a + b) else 0) + stp (gH p) (gT p) a b (cnt (gH p) (gT p) a b p.size t) (j + 1) k := by unfold midC; simp
  cases i with
  | true => split at e3 <;> split at e4 <;> omega
  | false => split at e3 <;> split at e4 <;> omega
def ansBy (h o : Int) (s : ByteArray) (n : Int) : Value := if (coinG h o && patG s) && inB n 0 8 then lowV (accB s h (o - h) o n.toNat) (o ^ n.toNat) else failV
theorem ansBy_form (h o : Int) (s : ByteArray) (n : Int) : ∃ (x y : Int) (ok : Bool), ansBy h o s n = .tuple #[.int .i64 x, .int .i64 y, .bool ok] := if_form _ (lowV_form _ _) failV_form

end Go.Proofs.YtjckmnbpfmcadacDoor
