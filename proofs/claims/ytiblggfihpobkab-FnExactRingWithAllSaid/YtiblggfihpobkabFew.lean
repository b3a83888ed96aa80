/- Few words: contracts of the program and of its model. -/
import Derived.Test.YtiblggfihpobkabWoAl
import Derived.Test.YtiblggfihpobkabWoPw
namespace Go.Proofs.Ytiblggfihpobkab
set_option linter.unusedSimpArgs false
open Go.ChangeShapes Go.WideShapes Go.ChangeAt Go.RowKit
set_option linter.unusedVariables false

theorem pow_cast (n L : Nat) : (n : Int) ^ L = ((n ^ L : Nat) : Int) := by
  rw [Int.natCast_pow]
theorem le300 (q : Nat) : decide ((q : Int) ≤ 300) = decide (q ≤ 300) := by
  rw [Bool.eq_iff_iff, decide_eq_true_iff, decide_eq_true_iff]; omega
def fwG (a b : Int) : Bool := loG a b && decide (a.toNat ^ b.toNat ≤ 300)
theorem fw_nat {a b : Int} (h : fwG a b = true) : ∃ n l : Nat, a = n ∧ b = l ∧ 1 ≤ n ∧ n ≤ 26 ∧ 1 ≤ l ∧ l ≤ 8 ∧ n ^ l ≤ 300 := by
  unfold fwG at h
  rw [Bool.and_eq_true] at h
  obtain ⟨n, l, rfl, rfl, h1, h2, h3, h4⟩ := lo_nat h.1
  exact ⟨n, l, rfl, rfl, h1, h2, h3, h4, by simpa using h.2⟩
theorem woFew_any (a b : Int) (w : World) :
    Calls Try.prog 36 #[.int .i64 a, .int .i64 b] w fun e w' => e = .returned (.bool (fwG a b)) ∧ w = w' := by
  cases h1 : loG a b
  · rw [show fwG a b = false from by unfold fwG; rw [h1]; rfl]
    go_enter Try.func36, Try.ntmps36
    go_wp2_with fail
    refine (woLong_any a b _).mono ?_
    rintro e w' ⟨rfl, rfl⟩
    rw [h1]
    go_wp2_with fail
    go_ret
    exact ⟨rfl, rfl⟩
  · obtain ⟨n, l, rfl, rfl, n1, n2, l1, l2⟩ := lo_nat h1
    rw [show fwG n l = decide (n ^ l ≤ 300) from by unfold fwG; rw [h1]; rfl]
    obtain ⟨q, hq⟩ : ∃ q, q = n ^ l := ⟨_, rfl⟩
    have hpw := pow_cast n l
    rw [← hq] at hpw
    rw [← hq]
    have Hpw := Lib.hid hpw
    clear hpw hq
    by_cases hle : q ≤ 300
    · rw [show decide (q ≤ 300) = true from by simpa using hle]
      have hz : (q : Int) ≤ 300 := by omega
      go_enter Try.func36, Try.ntmps36
      go_wp2_with fail
      refine (woLong_any n l _).mono ?_
      rintro e w' ⟨rfl, rfl⟩
      rw [h1]
      go_wp2_with fail
      refine (woPower_any n l _ n1 n2 (by omega)).mono ?_
      rintro e w' ⟨rfl, rfl⟩
      rw [Hpw.out]
      go_wp2_with fail
      go_ret
      exact ⟨rfl, rfl⟩
    · rw [show decide (q ≤ 300) = false from by simpa using hle]
      have hz : ¬ (q : Int) ≤ 300 := by omega
      have hd : decide ((q : Int) ≤ 300) = false := by simpa using hz
      go_enter Try.func36, Try.ntmps36
      go_wp2_with fail
      refine (woLong_any n l _).mono ?_
      rintro e w' ⟨rfl, rfl⟩
      rw [h1]
      go_wp2_with fail
      refine (woPower_any n l _ n1 n2 (by omega)).mono ?_
      rintro e w' ⟨rfl, rfl⟩
      rw [Hpw.out]
      go_wp2_with fail
      go_ret
      exact ⟨rfl, rfl⟩
theorem areListed_any (a b : Int) (w : World) :
    Calls Try.prog 39 #[.int .i64 a, .int .i64 b] w fun e w' => e = .returned (.bool (fwG a b)) ∧ w = w' := by
  cases h1 : loG a b
  · rw [show fwG a b = false from by unfold fwG; rw [h1]; rfl]
    go_enter Try.func39, Try.ntmps39
    go_wp2_with fail
    refine (areWords_any a b _).mono ?_
    rintro e w' ⟨rfl, rfl⟩
    rw [h1]
    go_wp2_with fail
    go_ret
    exact ⟨rfl, rfl⟩
  · obtain ⟨n, l, rfl, rfl, n1, n2, l1, l2⟩ := lo_nat h1
    rw [show fwG n l = decide (n ^ l ≤ 300) from by unfold fwG; rw [h1]; rfl]
    obtain ⟨q, hq⟩ : ∃ q, q = n ^ l := ⟨_, rfl⟩
    have hpw := pow_cast n l
    rw [← hq] at hpw
    rw [← hq]
    have Hpw := Lib.hid hpw
    clear hpw hq
    by_cases hle : q ≤ 300
    · rw [show decide (q ≤ 300) = true from by simpa using hle]
      have hz : (q : Int) ≤ 300 := by omega
      go_enter Try.func39, Try.ntmps39
      go_wp2_with fail
      refine (areWords_any n l _).mono ?_
      rintro e w' ⟨rfl, rfl⟩
      rw [h1]
      go_wp2_with fail
      refine (powerW_any n l _ n1 n2 (by omega)).mono ?_
      rintro e w' ⟨rfl, rfl⟩
      rw [Hpw.out]
      go_wp2_with fail
      go_ret
      exact ⟨rfl, rfl⟩
    · rw [show decide (q ≤ 300) = false from by simpa using hle]
      have hz : ¬ (q : Int) ≤ 300 := by omega
      have hd : decide ((q : Int) ≤ 300) = false := by simpa using hz
      go_enter Try.func39, Try.ntmps39
      go_wp2_with fail
      refine (areWords_any n l _).mono ?_
      rintro e w' ⟨rfl, rfl⟩
      rw [h1]
      go_wp2_with fail
      refine (powerW_any n l _ n1 n2 (by omega)).mono ?_
      rintro e w' ⟨rfl, rfl⟩
      rw [Hpw.out]
      go_wp2_with fail
      go_ret
      exact ⟨rfl, rfl⟩
end Go.Proofs.Ytiblggfihpobkab
