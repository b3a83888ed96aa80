/- MeanKeeping: what is of no program: what is left of all texts, and what they have read. -/
import Derived.Test.YtnpghbbmhehnlaaFr3
import Derived.Test.YtnpghbbmhehnlaaRowI
namespace Go.Proofs.Ytnpghbbmhehnlaa
open Go.ChangeShapes Go.WideShapes Go.ChangeAt Go.RowKit
set_option linter.unusedVariables false

/-- How many of all texts of i tosses are no roll yet. -/
def lf (s i : Nat) : Nat := 2 ^ i % s
/-- What all texts of i tosses have read. -/
def rd (s : Nat) : Nat → Nat
  | 0 => 0
  | i + 1 => 2 * (rd s i + lf s i)
/-- When as many are left as once before, and when that was. -/
def stI (s : Nat) : Nat := [0, 1, 2, 2, 3, 4, 3, 3, 4, 6, 5, 10, 4].getD s 0
def stJ (s : Nat) : Nat := [0, 0, 1, 0, 2, 0, 1, 0, 3, 0, 1, 0, 2].getD s 0
theorem all12 {p : Nat → Bool} (h : (List.range 13).all p = true) (s : Nat) (hs : s ≤ 12) : p s = true :=
  List.all_eq_true.1 h s (List.mem_range.2 (by omega))
theorem st_lt (s : Nat) (h : s ≤ 12) (h1 : 1 ≤ s) : stJ s < stI s ∧ stI s ≤ 10 := by
  have := all12 (p := fun s => s == 0 || (decide (stJ s < stI s) && decide (stI s ≤ 10))) (by decide) s h
  simp at this
  omega
theorem st_eq (s : Nat) (h : s ≤ 12) (h1 : 1 ≤ s) : lf s (stI s) = lf s (stJ s) := by
  have := all12 (p := fun s => s == 0 || lf s (stI s) == lf s (stJ s)) (by decide) s h
  simp at this
  omega
/-- Before, all are different. -/
theorem st_ne (s : Nat) (h : s ≤ 12) (h1 : 1 ≤ s) (i j : Nat) (hi : i < stI s) (hj : j < i) : lf s j ≠ lf s i := by
  have a := all12 (p := fun s => s == 0 || (List.range 10).all fun i => (List.range i).all fun j => !(decide (i < stI s)) || lf s j != lf s i) (by decide) s h
  have b := (st_lt s h h1).2
  simp at a
  have c := (a.resolve_left (by omega)) i (by omega) j hj
  omega
theorem st_one (s : Nat) (h : s ≤ 12) (h1 : 1 ≤ s) (j : Nat) (hj : j < stI s) (he : lf s j = lf s (stI s)) : j = stJ s := by
  have a := (st_lt s h h1).1
  have e := st_eq s h h1
  rcases Nat.lt_trichotomy j (stJ s) with q | q | q
  · exact absurd (he.trans e) (st_ne s h h1 (stJ s) j a q)
  · exact q
  · exact absurd (e.symm.trans he.symm) (st_ne s h h1 j (stJ s) hj q)
theorem lf_lt (s i : Nat) (h1 : 1 ≤ s) : lf s i < s := Nat.mod_lt _ (by omega)
theorem rd_le (s i : Nat) (h : s ≤ 12) (hi : i ≤ 11) : rd s i ≤ 100000 := by
  have := all12 (p := fun s => (List.range 12).all fun i => decide (rd s i ≤ 100000)) (by decide) s h
  simp at this
  exact this i (by omega)
theorem p2_le (i : Nat) (hi : i ≤ 11) : 1 ≤ 2 ^ i ∧ 2 ^ i ≤ 2048 := by
  have : (List.range 12).all (fun i => decide (1 ≤ 2 ^ i) && decide (2 ^ i ≤ 2048)) = true := by decide
  simp at this
  exact this i (by omega)
theorem lf_succ (s i : Nat) : lf s (i + 1) = 2 * lf s i % s := by
  unfold lf
  rw [Nat.pow_succ, Nat.mul_comm, Nat.mul_mod, Nat.mul_mod 2 (2 ^ i % s), Nat.mod_mod]
def tx (i : Nat) : Nat := 2 ^ i
theorem tx_le (i : Nat) (hi : i ≤ 11) : 1 ≤ tx i ∧ tx i ≤ 2048 := p2_le i hi
theorem tx_succ (i : Nat) : tx (i + 1) = 2 * tx i := by unfold tx; rw [Nat.pow_succ, Nat.mul_comm]
/-- The answer. -/
def kN (s : Nat) : Int := (rd s (stI s) : Int) - rd s (stJ s)
def kD (s : Nat) : Int := (tx (stI s) : Int) - (tx (stJ s) : Int)
theorem kN_in (s : Nat) (h : s ≤ 12) (h1 : 1 ≤ s) : 0 ≤ kN s ∧ kN s ≤ 100000 ∧ 1 ≤ kD s ∧ kD s ≤ 2048 := by
  have := all12 (p := fun s => s == 0 || (decide (0 ≤ kN s) && decide (kN s ≤ 100000) && decide (1 ≤ kD s) && decide (kD s ≤ 2048))) (by decide) s h
  simp at this
  omega
def ansMK (s : Int) : Value := if inB s 1 12 then lowV (kN s.toNat) (kD s.toNat) else failV
theorem ansMK_form (s : Int) : ∃ (x y : Int) (ok : Bool), ansMK s = .tuple #[.int .i64 x, .int .i64 y, .bool ok] := if_form _ (lowV_form _ _) failV_form
end Go.Proofs.Ytnpghbbmhehnlaa
