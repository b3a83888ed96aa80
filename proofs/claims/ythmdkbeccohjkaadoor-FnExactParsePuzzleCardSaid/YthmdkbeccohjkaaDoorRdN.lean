/- Numbers that are read: what is of no program. -/
import Derived.Test.YthmdkbeccohjkaaDoorSpl
import Derived.Lib.ItoaNum
import Derived.Lib.AtoiAll
import Derived.Lib.IndexMore
namespace Go.Proofs.YthmdkbeccohjkaaDoor
set_option linter.unusedSimpArgs false
open Go.ChangeShapes Go.WideShapes Go.ChangeAt Go.RowKit
set_option linter.unusedVariables false

def isDig (c : UInt8) : Bool := decide (48 ≤ c.toNat) && decide (c.toNat ≤ 57)
def valK (l : List UInt8) : Nat → Nat
  | 0 => 0
  | k + 1 => 10 * valK l k + ((sgB l k).toNat - 48)
def digK (l : List UInt8) : Nat → Bool
  | 0 => true
  | k + 1 => digK l k && isDig (sgB l k)
def lenR (l : List UInt8) : Bool := decide (1 ≤ l.length) && decide (l.length ≤ 6)
def zerR (l : List UInt8) : Bool := decide ((sgB l 0).toNat = 48) && decide (1 < l.length)
/-- The model's reading of a number. -/
def rdN (l : List UInt8) : Int := if lenR l && !zerR l && digK l l.length then (valK l l.length : Int) else -1
theorem digK_at {l : List UInt8} : ∀ {k : Nat}, digK l k = true → ∀ j, j < k → isDig (sgB l j) = true
  | 0, _, j, hj => absurd hj (Nat.not_lt_zero j)
  | k + 1, h, j, hj => by
    unfold digK at h
    rw [Bool.and_eq_true] at h
    by_cases e : j = k
    · subst e; exact h.2
    · exact digK_at h.1 j (by omega)
theorem digK_not {l : List UInt8} {k : Nat} : ∀ {n : Nat}, k < n → isDig (sgB l k) = false → digK l n = false
  | 0, h, _ => absurd h (Nat.not_lt_zero k)
  | n + 1, h, hf => by
    unfold digK
    by_cases e : k = n
    · subst e; rw [hf, Bool.and_false]
    · rw [digK_not (n := n) (by omega) hf, Bool.false_and]
theorem valK_lt {l : List UInt8} : ∀ {k : Nat}, digK l k = true → valK l k < 10 ^ k
  | 0, _ => by simp [valK]
  | k + 1, h => by
    unfold digK at h
    rw [Bool.and_eq_true] at h
    have := valK_lt h.1
    have hd := h.2
    unfold isDig at hd
    simp at hd
    unfold valK
    rw [Nat.pow_succ]
    omega
/-- The digits of a number up to 10. -/
def dd11 (n : Nat) : List UInt8 := if n < 10 then [UInt8.ofNat (48 + n)] else [49, 48]
theorem dd11_eq (n : Nat) (h : n ≤ 10) : Lib.decDigits n = dd11 n := by
  unfold dd11
  rw [Lib.decDigits]
  split
  · rfl
  · obtain rfl : n = 10 := by omega
    rw [Lib.decDigits]
    rfl
theorem u8_of {c : UInt8} {n : Nat} (h : c.toNat = n) : c = UInt8.ofNat n := by
  subst h
  simp
/-- What is read as a number up to 10 is its text. -/
theorem rdN_inv {l : List UInt8} {n : Nat} (h : rdN l = n) (hn : n ≤ 10) : l = dd11 n := by
  unfold rdN at h
  split at h
  · rename_i hc
    simp only [Bool.and_eq_true, Bool.not_eq_true'] at hc
    obtain ⟨⟨h1, h2⟩, h3⟩ := hc
    have hv : valK l l.length = n := by omega
    unfold lenR at h1
    simp at h1
    have d0 := digK_at h3 0 (by omega)
    match l, h1, h2, h3, hv, d0 with
    | [], h1, _, _, _, _ => simp at h1
    | [c], _, _, h3, hv, d0 =>
      simp [valK, sgB] at hv
      simp [isDig, sgB] at d0
      unfold dd11
      rw [if_pos (by omega), ← hv]
      congr 1
      exact u8_of (by omega)
    | [c, d], _, h2, h3, hv, d0 =>
      have d1 := digK_at h3 1 (by simp)
      simp [valK, sgB] at hv
      simp [isDig, sgB] at d0 d1
      simp [zerR, sgB] at h2
      have e0 : c.toNat = 49 := by omega
      have e1 : d.toNat = 48 := by omega
      have en : n = 10 := by omega
      subst en
      rw [u8_of e0, u8_of e1]
      rfl
    | c :: d :: e :: r, _, h2, h3, hv, d0 =>
      exfalso
      simp [zerR, sgB] at h2
      simp [isDig, sgB] at d0
      have hge : ∀ k, 1 ≤ k → k ≤ (c :: d :: e :: r).length → 10 ^ (k - 1) ≤ valK (c :: d :: e :: r) k := by
        intro k hk
        induction k with
        | zero => omega
        | succ k ih =>
          intro hl
          unfold valK
          by_cases h0 : k = 0
          · subst h0
            simp [valK, sgB]
            omega
          · have := ih (by omega) (by omega)
            rw [show k + 1 - 1 = (k - 1) + 1 from by omega, Nat.pow_succ]
            omega
      have := hge (c :: d :: e :: r).length (by simp) (Nat.le_refl _)
      have h100 : 10 ^ 2 ≤ 10 ^ ((c :: d :: e :: r).length - 1) := Nat.pow_le_pow_right (by omega) (by simp)
      omega
  · omega
/-- The program's reading of a number. -/
def numI (l : List UInt8) : Int :=
  match Lib.atoiAll l with
  | .ok v => v
  | _ => -1
end Go.Proofs.YthmdkbeccohjkaaDoor
