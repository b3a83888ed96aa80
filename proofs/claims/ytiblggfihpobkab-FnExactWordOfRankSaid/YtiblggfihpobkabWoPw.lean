/- Powers of numbers of letters: contracts. -/
import Derived.Test.YtiblggfihpobkabWoP
namespace Go.Proofs.Ytiblggfihpobkab
set_option linter.unusedSimpArgs false
open Go.ChangeShapes Go.WideShapes Go.ChangeAt Go.RowKit
set_option linter.unusedVariables false

set_option maxHeartbeats 400000 in
theorem powerW_any (p n : Nat) (w : World) (h0 : 1 ≤ p) (h1 : p ≤ 26) (hn : n ≤ 9) :
    Calls Try.prog 51 #[.int .i64 p, .int .i64 n] w fun e w' => e = .returned (.int .i64 ((p : Int) ^ n)) ∧ w = w' := by
  go_enter Try.func51, Try.ntmps51
  go_wp2
  go_loop [5, 7] (fun x i => ∃ k : Nat, k ≤ n ∧ i = .int .i64 k ∧ x = .int .i64 ((p : Int) ^ k)) (fun _ i => n - (intOf i).toNat)
  case atStart => exact ⟨0, by omega, rfl, by simp⟩
  case round =>
    obtain ⟨k, hk, rfl, rfl⟩ := hrel
    obtain ⟨b0, b1⟩ := pw_le9 p h0 h1 k (by omega)
    by_cases hlt : k < n
    · obtain ⟨c0, c1⟩ := pw_le9 p h0 h1 (k + 1) (by omega)
      rw [Int.pow_succ] at c0 c1
      have hs := Lib.hid (Int.pow_succ (p : Int) k)
      generalize (p : Int) ^ k = q at *
      go_wp2
      exact ⟨⟨k + 1, by omega, by go_num, by rw [hs.out]⟩, by simp [intOf]; omega⟩
    · obtain rfl : k = n := by omega
      go_wp2
      go_ret
      exact ⟨rfl, rfl⟩
set_option maxHeartbeats 400000 in
theorem woPower_any (p n : Nat) (w : World) (h0 : 1 ≤ p) (h1 : p ≤ 26) (hn : n ≤ 9) :
    Calls Try.prog 49 #[.int .i64 p, .int .i64 n] w fun e w' => e = .returned (.int .i64 ((p : Int) ^ n)) ∧ w = w' := by
  go_enter Try.func49, Try.ntmps49
  go_wp2
  go_loop [1, 5] (fun i x => ∃ k m : Nat, k + m = n ∧ i = .int .i64 m ∧ x = .int .i64 ((p : Int) ^ k)) (fun i _ => (intOf i).toNat)
  case atStart => exact ⟨0, n, by omega, rfl, by simp⟩
  case round =>
    obtain ⟨k, m, hk, rfl, rfl⟩ := hrel
    obtain ⟨b0, b1⟩ := pw_le9 p h0 h1 k (by omega)
    cases m with
    | succ j =>
      obtain ⟨c0, c1⟩ := pw_le9 p h0 h1 (k + 1) (by omega)
      rw [Int.pow_succ] at c0 c1
      have hs := Lib.hid (Int.pow_succ (p : Int) k)
      generalize (p : Int) ^ k = q at *
      go_wp2
      exact ⟨⟨k + 1, j, by omega, by go_num, by rw [hs.out]⟩, by simp [intOf]⟩
    | zero =>
      obtain rfl : k = n := by omega
      go_wp2
      go_ret
      exact ⟨rfl, rfl⟩
end Go.Proofs.Ytiblggfihpobkab
