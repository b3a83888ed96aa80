/- Alphabets and numbers of letters: contracts. -/
import Derived.Test.YtjfcpbedmdnjcabDoorWoP
namespace Go.Proofs.YtjfcpbedmdnjcabDoor
set_option linter.unusedSimpArgs false
open Go.ChangeShapes Go.WideShapes Go.ChangeAt Go.RowKit
set_option linter.unusedVariables false

theorem woAlphabet_any (a : Int) (w : World) :
    Calls Tryd.prog 57 #[.int .i64 a] w fun e w' => e = .returned (.bool (inB a 1 26)) ∧ w = w' := by
  go_enter Tryd.func57, Tryd.ntmps57
  go_wp2_with fail
  refine (l1In_any _ _ _ _).mono ?_
  rintro e w' ⟨rfl, rfl⟩
  go_wp2_with fail
  go_ret
  exact ⟨rfl, rfl⟩
theorem isAlphabet_any (a : Int) (w : World) :
    Calls Tryd.prog 74 #[.int .i64 a] w fun e w' => e = .returned (.bool (inB a 1 26)) ∧ w = w' := by
  by_cases h1 : 1 ≤ a
  · by_cases h2 : a ≤ 26
    · rw [show inB a 1 26 = true from by unfold inB; simp [h1, h2]]
      go_enter Tryd.func74, Tryd.ntmps74
      go_wp2
      go_ret
      exact ⟨rfl, rfl⟩
    · rw [show inB a 1 26 = false from by unfold inB; simp [h2]]
      go_enter Tryd.func74, Tryd.ntmps74
      go_wp2
      go_ret
      exact ⟨rfl, rfl⟩
  · rw [show inB a 1 26 = false from by unfold inB; simp [h1]]
    go_enter Tryd.func74, Tryd.ntmps74
    go_wp2
    go_ret
    exact ⟨rfl, rfl⟩
theorem al_nat {a : Int} (h : inB a 1 26 = true) : ∃ n : Nat, a = n ∧ 1 ≤ n ∧ n ≤ 26 := by
  unfold inB at h
  simp at h
  exact ⟨a.toNat, by omega, by omega, by omega⟩
/-- An alphabet, and a number of letters of words. -/
def loG (a b : Int) : Bool := inB a 1 26 && inB b 1 8
theorem lo_nat {a b : Int} (h : loG a b = true) : ∃ n l : Nat, a = n ∧ b = l ∧ 1 ≤ n ∧ n ≤ 26 ∧ 1 ≤ l ∧ l ≤ 8 := by
  unfold loG inB at h
  simp at h
  exact ⟨a.toNat, b.toNat, by omega, by omega, by omega, by omega, by omega, by omega⟩
end Go.Proofs.YtjfcpbedmdnjcabDoor
