/- Classes of the model; LastingStates: the contracts of the program and of its model. -/
import Derived.Test.YthmdkbeccohjkaaRchd
namespace Go.Proofs.Ythmdkbeccohjkaa
set_option linter.unusedSimpArgs false
open Go.ChangeShapes Go.WideShapes Go.ChangeAt Go.RowKit
set_option linter.unusedVariables false

/-- k is in the class of i. -/
def clsB (m : List (List Int)) (i k : Nat) : Bool := rchB m i k && rchB m k i
theorem clsB_yes {m : List (List Int)} {i k : Nat} (h1 : rchB m i k = true) (h2 : rchB m k i = true) : clsB m i k = true := by simp [clsB, h1, h2]
theorem clsB_no1 {m : List (List Int)} {i k : Nat} (h1 : rchB m i k = false) : clsB m i k = false := by simp [clsB, h1]
theorem clsB_no2 {m : List (List Int)} {i k : Nat} (h2 : rchB m k i = false) : clsB m i k = false := by simp [clsB, h2]
/-- No state outside of the class of i is reached from i. -/
def lstK (m : List (List Int)) (i : Nat) : Nat → Bool
  | 0 => true
  | k + 1 => lstK m i k && (!rchB m i k || rchB m k i)
def lstB (m : List (List Int)) (i : Nat) : Bool := lstK m i m.length
theorem sel_le (p q : Nat → Bool) (h : ∀ k, q k = true → p k = true) : ∀ n, (selK q n).length ≤ (selK p n).length
  | 0 => by simp [selK]
  | n + 1 => by
    have := sel_le p q h n
    unfold selK
    cases hq : q n
    · simp
      split
      · simp; omega
      · exact this
    · rw [h n hq]
      simp
      exact this
theorem lst_len (m : List (List Int)) (i : Nat) : ∀ n, decide ((selK (rchB m i) n).length = (selK (clsB m i) n).length) = lstK m i n
  | 0 => by simp [selK, lstK]
  | n + 1 => by
    have ih := lst_len m i n
    have hle := sel_le (rchB m i) (clsB m i) (fun k h => by unfold clsB at h; simp at h; exact h.1) n
    unfold lstK
    rw [← ih]
    cases h1 : rchB m i n
    · rw [selK_no h1, selK_no (clsB_no1 h1)]
      simp
    · cases h2 : rchB m n i
      · rw [selK_yes h1, selK_no (clsB_no2 h2)]
        simp
        omega
      · rw [selK_yes h1, selK_yes (clsB_yes h1 h2)]
        simp
theorem lst_int (m : List (List Int)) (i : Nat) : ((((selK (rchB m i) m.length).length : Nat) : Int) == (((selK (clsB m i) m.length).length : Nat) : Int)) = lstB m i := by
  have := lst_len m i m.length
  unfold lstB
  rw [← this, Bool.eq_iff_iff]
  simp only [beq_iff_eq, decide_eq_true_eq]
  omega

def ansLast (lim : Int) (m : List (List Int)) : List Int := if saG lim m then selK (lstB m) m.length else []
theorem ansLast_len (lim : Int) (m : List (List Int)) : (ansLast lim m).length ≤ 1000 := by
  unfold ansLast
  split
  · rename_i h
    have := selK_len (lstB m) m.length
    have := (good_of h).five
    omega
  · simp

theorem lstK_no {m : List (List Int)} {i j : Nat} (h : lstK m i j = false) : lstK m i (j + 1) = false := by simp [lstK, h]
theorem lstK_one {m : List (List Int)} {i j : Nat} (h : lstK m i j = true) (h1 : rchB m i j = false) : lstK m i (j + 1) = true := by simp [lstK, h, h1]
theorem lstK_two {m : List (List Int)} {i j : Nat} (h : lstK m i j = true) (h1 : rchB m i j = true) : lstK m i (j + 1) = rchB m j i := by simp [lstK, h, h1]

end Go.Proofs.Ythmdkbeccohjkaa
