/- Chances of days later: the contracts of the program and of its model. -/
import Derived.Test.YthmdkbeccohjkaaDoorFollowD
namespace Go.Proofs.YthmdkbeccohjkaaDoor
set_option linter.unusedSimpArgs false
open Go.ChangeShapes Go.WideShapes Go.ChangeAt Go.RowKit
set_option linter.unusedVariables false

theorem mul_bd {x y A B : Int} (hx : 0 ≤ x) (hxA : x ≤ A) (hy : 0 ≤ y) (hyB : y ≤ B) : 0 ≤ x * y ∧ x * y ≤ A * B :=
  ⟨Int.mul_nonneg hx hy, Int.mul_le_mul hxA hyB hy (by omega)⟩
theorem mul_ge1 {x y : Int} (hx : 1 ≤ x) (hy : 1 ≤ y) : 1 ≤ x * y := by
  have : x * 1 ≤ x * y := Int.mul_le_mul_of_nonneg_left hy (by omega)
  omega
/-- The chances of a dry and of a wet day n days behind a day, in parts of c to the power n. -/
def ltr (a b c d : Int) : Nat → Int × Int
  | 0 => if d = 119 then (0, 1) else (1, 0)
  | n + 1 => ((ltr a b c d n).1 * (c - a) + (ltr a b c d n).2 * b, (ltr a b c d n).1 * a + (ltr a b c d n).2 * (c - b))
def sel (g : Int) (p : Int × Int) : Int := if g = 119 then p.2 else p.1
theorem ltr_in {a b c : Int} (h : inR a b c) (d : Int) : ∀ n, 0 ≤ (ltr a b c d n).1 ∧ 0 ≤ (ltr a b c d n).2 ∧ (ltr a b c d n).1 + (ltr a b c d n).2 = c ^ n
  | 0 => by unfold ltr; split <;> simp
  | n + 1 => by
    obtain ⟨x, y, z⟩ := ltr_in h d n
    unfold inR at h
    have e1 := Int.mul_nonneg x (show 0 ≤ c - a by omega)
    have e2 := Int.mul_nonneg y (show 0 ≤ b by omega)
    have e3 := Int.mul_nonneg x (show 0 ≤ a by omega)
    have e4 := Int.mul_nonneg y (show 0 ≤ c - b by omega)
    have e5 : (ltr a b c d n).1 * (c - a) = (ltr a b c d n).1 * c - (ltr a b c d n).1 * a := Int.mul_sub _ _ _
    have e6 : (ltr a b c d n).2 * (c - b) = (ltr a b c d n).2 * c - (ltr a b c d n).2 * b := Int.mul_sub _ _ _
    have e7 : ((ltr a b c d n).1 + (ltr a b c d n).2) * c = (ltr a b c d n).1 * c + (ltr a b c d n).2 * c := Int.add_mul _ _ _
    have s1 : (ltr a b c d (n + 1)).1 = (ltr a b c d n).1 * (c - a) + (ltr a b c d n).2 * b := rfl
    have s2 : (ltr a b c d (n + 1)).2 = (ltr a b c d n).1 * a + (ltr a b c d n).2 * (c - b) := rfl
    rw [Int.pow_succ, ← z, s1, s2, e7]
    exact ⟨by omega, by omega, by omega⟩
theorem ltr_le {a b c : Int} (h : inR a b c) (d : Int) (n : Nat) (hn : n ≤ 9) : 0 ≤ (ltr a b c d n).1 ∧ 0 ≤ (ltr a b c d n).2 ∧ (ltr a b c d n).1 ≤ 1000000000 ∧ (ltr a b c d n).2 ≤ 1000000000 := by
  obtain ⟨x, y, z⟩ := ltr_in h d n
  unfold inR at h
  obtain ⟨p, q⟩ := pow_le9 c (by omega) (by omega) n hn
  omega

end Go.Proofs.YthmdkbeccohjkaaDoor
