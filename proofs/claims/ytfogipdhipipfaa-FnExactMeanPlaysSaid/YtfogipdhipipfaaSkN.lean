/- Fractions of two negative numbers in lowest terms: the contract of the program. -/
import Derived.Test.YtfogipdhipipfaaPow
namespace Go.Proofs.Ytfogipdhipipfaa
set_option linter.unusedSimpArgs false
open Go.ChangeShapes Go.WideShapes Go.ChangeAt Go.RowKit
set_option linter.unusedVariables false

theorem tmod_neg2 (p q : Int) (hp : 0 ≤ p) (hq : 0 < q) : Int.tmod (-p) (-q) = -(p % q) := by
  rw [Int.tmod_neg, Int.neg_tmod, Int.tmod_eq_emod_of_nonneg hp]
theorem tdiv_neg2 (p q : Int) (hp : 0 ≤ p) : Int.tdiv (-p) (-q) = p / q := by
  rw [Int.tdiv_neg, Int.neg_tdiv, Int.neg_neg, Int.tdiv_eq_ediv_of_nonneg hp]
set_option maxHeartbeats 400000 in
theorem commonDivisor_neg (a b : Int) (w : World) (ha : 0 ≤ a) (hb : 0 ≤ b) (ha' : a ≤ 100000000000000000) (hb' : b ≤ 100000000000000000) :
    Calls Try.prog 73 #[.int .i64 (-a), .int .i64 (-b)] w fun e w' => e = .returned (.int .i64 (-(Int.gcd a b : Int))) ∧ ∃ n, w' = w.drewN n := by
  go_enter Try.func73, Try.ntmps73
  go_wp2
  go_loopw [0, 1] (fun x y wr => ∃ p q : Int, 0 ≤ p ∧ 0 ≤ q ∧ p ≤ 100000000000000000 ∧ q ≤ 100000000000000000 ∧ Hid (Int.gcd p q = Int.gcd a b) ∧ x = .int .i64 (-p) ∧ y = .int .i64 (-q) ∧ ∃ n, wr = w.drewN n) (fun _ y _ => (intOf y).natAbs)
  case atStart => exact ⟨a, b, ha, hb, ha', hb', rfl, rfl, rfl, 0, rfl⟩
  case round =>
    obtain ⟨p, q, hp, hq, hp', hq', hg, rfl, rfl, n, rfl⟩ := hrel
    by_cases h0 : q = 0
    · subst h0
      go_wp2
      go_ret
      exact ⟨by rw [← hg.out]; simp; omega, n, rfl⟩
    · have h1 : (-q == 0) = false := by simpa using h0
      have h2 : 1 ≤ q := by omega
      have h3 : ¬ -q = 0 := by omega
      have hm := Int.emod_nonneg p h0
      have hl := Int.emod_lt_of_pos p (show 0 < q by omega)
      have ht := tmod_neg2 p q hp (by omega)
      have hw : IntKind.i64.wrap (-(p % q)) = -(p % q) := IntWalk.i64_in _ (by omega)
      go_wp2
      go_quiet (fail)
      go_wp2
      exact ⟨⟨q, p % q, hq, hm, hq', by omega, (gcd_step p q hp (by omega)).trans hg.out, rfl, rfl, n + nq, World.drewN_drewN _ _ _⟩, by simp [intOf]; omega⟩
set_option maxHeartbeats 400000 in
theorem lowestTerms_neg (a b : Int) (w : World) (ha : 0 ≤ a) (hb : 1 ≤ b) (ha' : a ≤ 100000000000000000) (hb' : b ≤ 100000000000000000) :
    Calls Try.prog 68 #[.int .i64 (-a), .int .i64 (-b)] w fun e w' => e = .returned (.tuple #[.int .i64 (low a a b), .int .i64 (low b a b)]) ∧ ∃ n, w' = w.drewN n := by
  obtain ⟨g1, p0, p1⟩ := low_le a a b ha hb
  obtain ⟨_, q0, q1⟩ := low_le b a b (by omega) hb
  unfold low
  generalize hg : (Int.gcd a b : Int) = g at *
  have Hg := Lib.hid hg
  clear hg
  have h1 := tdiv_neg2 a g ha
  have h2 := tdiv_neg2 b g (by omega)
  have h3 : ¬ -g = 0 := by omega
  have hw1 : IntKind.i64.wrap (a / g) = a / g := IntWalk.i64_in _ (by omega)
  have hw2 : IntKind.i64.wrap (b / g) = b / g := IntWalk.i64_in _ (by omega)
  go_enter Try.func68, Try.ntmps68
  go_wp2_with fail
  refine (commonDivisor_neg _ _ _ ha (by omega) ha' hb').mono ?_
  rintro e w' ⟨rfl, n, rfl⟩
  rw [Hg.out]
  go_wp2_with fail
  go_quiet (fail)
  go_wp2
  go_ret2
  exact ⟨rfl, _, World.drewN_drewN _ _ _⟩
set_option maxHeartbeats 400000 in
theorem told_neg (a b : Int) (w : World) (ha : 0 ≤ a) (hb : 1 ≤ b) (ha' : a ≤ 100000000000000000) (hb' : b ≤ 100000000000000000) :
    Calls Try.prog 47 #[.int .i64 (-a), .int .i64 (-b)] w fun e w' => e = .returned (.tuple #[.int .i64 (low a a b), .int .i64 (low b a b), .bool true]) ∧ ∃ n, w' = w.drewN n := by
  go_enter Try.func47, Try.ntmps47
  go_wp2_with fail
  refine (lowestTerms_neg _ _ _ ha hb ha' hb').mono ?_
  rintro e w' ⟨rfl, n, rfl⟩
  go_wp2
  go_ret3
  exact ⟨rfl, n, rfl⟩
end Go.Proofs.Ytfogipdhipipfaa
