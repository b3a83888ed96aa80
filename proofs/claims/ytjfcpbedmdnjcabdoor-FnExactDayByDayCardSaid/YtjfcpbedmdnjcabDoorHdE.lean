/- Denominators, chances of signs, all days behind signs: contracts of the program and of its model. -/
import Derived.Test.YtjfcpbedmdnjcabDoorHdD
namespace Go.Proofs.YtjfcpbedmdnjcabDoor
set_option linter.unusedSimpArgs false
open Go.ChangeShapes Go.WideShapes Go.ChangeAt Go.RowKit
set_option linter.unusedVariables false

def prtV (c r : Int) : Nat → Int
  | 0 => 2
  | k + 1 => if k = 0 then prtV c r k * r else prtV c r k * r * c
theorem prtV_eq (c r : Int) : ∀ n, prtV c r (n + 1) = 2 * c ^ n * r ^ (n + 1)
  | 0 => by simp [prtV, Int.pow_succ]
  | n + 1 => by
    rw [show prtV c r (n + 1 + 1) = prtV c r (n + 1) * r * c from by conv => lhs; unfold prtV; rw [if_neg (by omega)], prtV_eq c r n, Int.pow_succ c n, Int.pow_succ r (n + 1)]
    generalize c ^ n = x
    generalize r ^ (n + 1) = y
    rw [Int.mul_assoc, Int.mul_assoc, Int.mul_assoc, Int.mul_assoc, Int.mul_assoc]
    congr 1
    congr 1
    rw [Int.mul_comm r c, ← Int.mul_assoc, Int.mul_comm y c, Int.mul_assoc]
theorem prtV_le (c r : Int) (h1 : 1 ≤ c) (h2 : c ≤ 10) (h3 : 1 ≤ r) (h4 : r ≤ 10) : ∀ n, 1 ≤ prtV c r n ∧ prtV c r n ≤ 2 * 100 ^ n
  | 0 => by simp [prtV]
  | n + 1 => by
    obtain ⟨x, y⟩ := prtV_le c r h1 h2 h3 h4 n
    have p0 : (0 : Int) ≤ 100 ^ n := Int.pow_nonneg (by omega)
    have e1 : prtV c r n * r ≤ prtV c r n * 10 := Int.mul_le_mul_of_nonneg_left h4 (by omega)
    have e2 : prtV c r n * 1 ≤ prtV c r n * r := Int.mul_le_mul_of_nonneg_left h3 (by omega)
    have e3 : prtV c r n * r * c ≤ prtV c r n * r * 10 := Int.mul_le_mul_of_nonneg_left h2 (by omega)
    have e4 : prtV c r n * r * 1 ≤ prtV c r n * r * c := Int.mul_le_mul_of_nonneg_left h1 (by omega)
    rw [Int.pow_succ]
    unfold prtV
    split <;> omega
theorem hund_le (n : Nat) (h : n ≤ 6) : (2 * 100 ^ n : Int) ≤ 2000000000000 := by
  match n, h with
  | 0, _ | 1, _ | 2, _ | 3, _ | 4, _ | 5, _ | 6, _ => decide
theorem prtV_le6 {c r : Int} (h1 : 1 ≤ c) (h2 : c ≤ 10) (h3 : 1 ≤ r) (h4 : r ≤ 10) (n : Nat) (h : n ≤ 6) : 1 ≤ prtV c r n ∧ prtV c r n ≤ 2000000000000 :=
  ⟨(prtV_le c r h1 h2 h3 h4 n).1, Int.le_trans (prtV_le c r h1 h2 h3 h4 n).2 (hund_le n h)⟩
theorem prtV_same (c r : Int) (n : Nat) : prtV c r (n + 1) = if n = 0 then prtV c r n * r else prtV c r n * r * c := rfl

/-- The chances of signs with a day of a kind at a place, and of the signs at all. -/
def kdV (a b c p q r : Int) (s : ByteArray) (k e : Nat) : Int := sumU (bitF (vS a b c p q r s) (lgS s k) e) (2 ^ s.size)
def sgT (a b c p q r : Int) (s : ByteArray) : Int := sumU (vS a b c p q r s) (2 ^ s.size)
theorem kd_all (a b c p q r : Int) (s : ByteArray) (k : Nat) : kdV a b c p q r s k 0 + kdV a b c p q r s k 1 = sgT a b c p q r s := bits_all _ _ _
theorem kd_in {a b c p q r : Int} (h : inR a b c) (g : inR p q r) (s : ByteArray) (h7 : s.size ≤ 7) (k e : Nat) : 0 ≤ kdV a b c p q r s k e ∧ kdV a b c p q r s k e ≤ 25600000000000000 :=
  sum_bit h g s h7 _ e _ (pow8 _ (by omega))
theorem sgT_in {a b c p q r : Int} (h : inR a b c) (g : inR p q r) (s : ByteArray) (h7 : s.size ≤ 7) : 0 ≤ sgT a b c p q r s ∧ sgT a b c p q r s ≤ 25600000000000000 :=
  sum_vS h g s h7 _ (pow8 _ (by omega))
theorem allV_len (a b c p q r : Int) (s : ByteArray) : (allV a b c p q r s).length = 2 ^ s.size := by simp [allV]
theorem allV_at (a b c p q r : Int) (s : ByteArray) (i : Nat) : (allV a b c p q r s).getD i 0 = if i < 2 ^ s.size then vS a b c p q r s i else 0 := by
  unfold allV
  rw [List.getD_eq_getElem?_getD, List.getElem?_map]
  by_cases h : i < 2 ^ s.size
  · rw [if_pos h, List.getElem?_range h]; rfl
  · rw [if_neg h, List.getElem?_eq_none (by simp; omega)]; rfl
theorem daysAtV_any (a b c p q r : Int) (s : ByteArray) (v : Value) (base k : Nat) (w : World) (hr : inR a b c) (hp : inR p q r) (h7 : s.size ≤ 7) (hk : k < s.size) (hR : IRow w base v (allV a b c p q r s)) :
    Calls Tryd.prog 24 #[v, .int .i64 k] w fun e w' => e = .returned (pr2 (kdV a b c p q r s k 0) (kdV a b c p q r s k 1)) ∧ Below w.heap.size w w' := by
  have key : ∀ e, sumU (bitF (fun i => (allV a b c p q r s).getD i 0) (2 ^ (s.size - 1 - k)) e) (2 ^ s.size) = kdV a b c p q r s k e := fun e => by
    unfold kdV
    refine sumU_congr _ _ _ fun i hi => ?_
    unfold bitF lgS
    simp only [allV_at, hi, if_true]
  have h := daysAt_any (allV a b c p q r s) v base s.size k w hR (allV_len _ _ _ _ _ _ _) h7 hk (fun i => by
    rw [allV_at]
    split
    · exact vS_in hr hp s h7 i
    · omega)
  rw [key 0, key 1] at h
  exact h

end Go.Proofs.YtjfcpbedmdnjcabDoor
