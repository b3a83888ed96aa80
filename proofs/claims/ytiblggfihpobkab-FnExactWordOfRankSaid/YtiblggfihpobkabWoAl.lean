/- Alphabets and numbers of letters: contracts. -/
import Derived.Test.YtiblggfihpobkabWoP
namespace Go.Proofs.Ytiblggfihpobkab
set_option linter.unusedSimpArgs false
open Go.ChangeShapes Go.WideShapes Go.ChangeAt Go.RowKit
set_option linter.unusedVariables false

theorem woAlphabet_any (a : Int) (w : World) :
    Calls Try.prog 74 #[.int .i64 a] w fun e w' => e = .returned (.bool (inB a 1 26)) ∧ w = w' := by
  go_enter Try.func74, Try.ntmps74
  go_wp2_with fail
  refine (l1In_any _ _ _ _).mono ?_
  rintro e w' ⟨rfl, rfl⟩
  go_wp2_with fail
  go_ret
  exact ⟨rfl, rfl⟩
theorem isAlphabet_any (a : Int) (w : World) :
    Calls Try.prog 75 #[.int .i64 a] w fun e w' => e = .returned (.bool (inB a 1 26)) ∧ w = w' := by
  by_cases h1 : 1 ≤ a
  · by_cases h2 : a ≤ 26
    · rw [show inB a 1 26 = true from by unfold inB; simp [h1, h2]]
      go_enter Try.func75, Try.ntmps75
      go_wp2
      go_ret
      exact ⟨rfl, rfl⟩
    · rw [show inB a 1 26 = false from by unfold inB; simp [h2]]
      go_enter Try.func75, Try.ntmps75
      go_wp2
      go_ret
      exact ⟨rfl, rfl⟩
  · rw [show inB a 1 26 = false from by unfold inB; simp [h1]]
    go_enter Try.func75, Try.ntmps75
    go_wp2
    go_ret
    exact ⟨rfl, rfl⟩
theorem al_nat {a : Int} (h : inB a 1 26 = true) : ∃ n : Nat, a = n ∧ 1 ≤ n ∧ n ≤ 26 := by
  unfold inB at h
  simp at h
  exact ⟨a.toNat, by omega, by omega, by omega⟩
/-- An alphabet, and a number of letters of words. -/
def loG (a b : Int) : Bool := inB a 1 26 && inB b 1 8
theorem lo_nat {a b : Int} (h : loG a b = true) : ∃ n l : Nat, a = n ∧ b = l ∧ 1 ≤ n ∧ n ≤ 26 ∧ 1 ≤ l ∧ l ≤ 8 := by
  unfold loG inB at h
  simp at h
  exact ⟨a.toNat, b.toNat, by omega, by omega, by omega, by omega, by omega, by omega⟩
theorem woLong_any (a b : Int) (w : World) :
    Calls Try.prog 44 #[.int .i64 a, .int .i64 b] w fun e w' => e = .returned (.bool (loG a b)) ∧ w = w' := by
  cases h1 : inB a 1 26
  · rw [show loG a b = false from by unfold loG; rw [h1]; rfl]
    go_enter Try.func44, Try.ntmps44
    go_wp2_with fail
    refine (woAlphabet_any a _).mono ?_
    rintro e w' ⟨rfl, rfl⟩
    rw [h1]
    go_wp2_with fail
    go_ret
    exact ⟨rfl, rfl⟩
  · rw [show loG a b = inB b 1 8 from by unfold loG; rw [h1]; rfl]
    go_enter Try.func44, Try.ntmps44
    go_wp2_with fail
    refine (woAlphabet_any a _).mono ?_
    rintro e w' ⟨rfl, rfl⟩
    rw [h1]
    go_wp2_with fail
    refine (l1In_any _ _ _ _).mono ?_
    rintro e w' ⟨rfl, rfl⟩
    go_wp2_with fail
    go_ret
    exact ⟨rfl, rfl⟩
theorem areWords_any (a b : Int) (w : World) :
    Calls Try.prog 46 #[.int .i64 a, .int .i64 b] w fun e w' => e = .returned (.bool (loG a b)) ∧ w = w' := by
  cases h1 : inB a 1 26
  · rw [show loG a b = false from by unfold loG; rw [h1]; rfl]
    go_enter Try.func46, Try.ntmps46
    go_wp2_with fail
    refine (isAlphabet_any a _).mono ?_
    rintro e w' ⟨rfl, rfl⟩
    rw [h1]
    go_wp2_with fail
    go_ret
    exact ⟨rfl, rfl⟩
  · by_cases h2 : 1 ≤ b
    · by_cases h3 : b ≤ 8
      · rw [show loG a b = true from by unfold loG inB at *; simp [h1, h2, h3]]
        go_enter Try.func46, Try.ntmps46
        go_wp2_with fail
        refine (isAlphabet_any a _).mono ?_
        rintro e w' ⟨rfl, rfl⟩
        rw [h1]
        go_wp2_with fail
        go_ret
        exact ⟨rfl, rfl⟩
      · rw [show loG a b = false from by unfold loG inB; simp [h3]]
        have hd : decide (b ≤ 8) = false := by simpa using h3
        go_enter Try.func46, Try.ntmps46
        go_wp2_with fail
        refine (isAlphabet_any a _).mono ?_
        rintro e w' ⟨rfl, rfl⟩
        rw [h1]
        go_wp2_with fail
        go_ret
        exact ⟨rfl, rfl⟩
    · rw [show loG a b = false from by unfold loG inB; simp [h2]]
      go_enter Try.func46, Try.ntmps46
      go_wp2_with fail
      refine (isAlphabet_any a _).mono ?_
      rintro e w' ⟨rfl, rfl⟩
      rw [h1]
      go_wp2_with fail
      go_ret
      exact ⟨rfl, rfl⟩
end Go.Proofs.Ytiblggfihpobkab
