/- Contracts of the functions that bring a fraction into lowest terms, of the program and of its model. -/
import Derived.Test.YtdfjfojkheikiaaGreatDoorBase
import Derived.Deep.QuietTactic
import Derived.BigQuiet
namespace Go.Proofs.YtdfjfojkheikiaaGreatDoor
set_option linter.unusedSimpArgs false
open Go.ChangeShapes Go.WideShapes Go.ChangeAt Go.RowKit
set_option linter.unusedVariables false

theorem bel_drewN {w a : World} (h : Below w.heap.size w a) (n : Nat) : Below w.heap.size w (a.drewN n) := ⟨h.os, h.tape, h.output, h.size, h.block⟩

theorem gcd_step (p q : Int) (hp : 0 ≤ p) (hq : 0 < q) : Int.gcd q (p % q) = Int.gcd p q := by
  rw [Int.gcd_comm p q]
  obtain ⟨m, rfl⟩ := Int.eq_ofNat_of_zero_le hp
  obtain ⟨n, rfl⟩ := Int.eq_ofNat_of_zero_le (Int.le_of_lt hq)
  show Nat.gcd n (m % n) = Nat.gcd n m
  rw [Nat.gcd_comm n (m % n), ← Nat.gcd_rec n m]

/-- A numerator brought into lowest terms. -/
def low (x num den : Int) : Int := x / (Int.gcd num den : Int)

theorem low_le (x num den : Int) (hx : 0 ≤ x) (hd : 1 ≤ den) : 1 ≤ (Int.gcd num den : Int) ∧ 0 ≤ x / (Int.gcd num den : Int) ∧ x / (Int.gcd num den : Int) ≤ x := by
  have h1 : 1 ≤ (Int.gcd num den : Int) := by
    have : 0 < Int.gcd num den := Int.gcd_pos_of_ne_zero_right _ (by omega)
    omega
  refine ⟨h1, Int.ediv_nonneg hx (by omega), ?_⟩
  exact Int.ediv_le_self _ hx

end Go.Proofs.YtdfjfojkheikiaaGreatDoor
