/- Contracts of the functions that bring a fraction into lowest terms, of the program and of its model. -/
import Derived.Test.YthmdkbeccohjkaaDoorBase
import Derived.Deep.QuietTactic
import Derived.BigQuiet
namespace Go.Proofs.YthmdkbeccohjkaaDoor
set_option linter.unusedSimpArgs false
open Go.ChangeShapes Go.WideShapes Go.ChangeAt Go.RowKit
set_option linter.unusedVariables false

theorem bel_drewN {w a : World} (h : Below w.heap.size w a) (n : Nat) : Below w.heap.size w (a.drewN n) := ⟨h.os, h.tape, h.output, h.size, h.block⟩

theorem gcd_step (p q : Int) (hp : 0 ≤ p) (hq : 0 < q) : Int.gcd q (p % q) = Int.gcd p q := by
  rw [Int.gcd_comm p q]
  obtain ⟨m, rfl⟩ := Int.eq_ofNat_of_zero_le hp
  obtain ⟨n, rfl⟩ := Int.eq_ofNat_of_zero_le (Int.le_of_lt hq)
  show Nat.gcd n (m % n) = Nat.gcd n m
  rw [Nat.gcd_comm n (m % n), ← Nat.gcd_rec n m]

set_option maxHeartbeats 400000 in
theorem commonDivisor_any (a b : Int) (w : World) (ha : 0 ≤ a) (hb : 0 ≤ b) :
    Calls Tryd.prog 99 #[.int .i64 a, .int .i64 b] w fun e w' => e = .returned (.int .i64 (Int.gcd a b)) ∧ ∃ n, w' = w.drewN n := by
  go_enter Tryd.func99, Tryd.ntmps99
  go_wp2
  go_loopw [0, 1] (fun x y wr => ∃ p q : Int, 0 ≤ p ∧ 0 ≤ q ∧ Hid (Int.gcd p q = Int.gcd a b) ∧ x = .int .i64 p ∧ y = .int .i64 q ∧ ∃ n, wr = w.drewN n) (fun _ y _ => (intOf y).toNat)
  case atStart => exact ⟨a, b, ha, hb, rfl, rfl, rfl, 0, rfl⟩
  case round =>
    obtain ⟨p, q, hp, hq, hg, rfl, rfl, n, rfl⟩ := hrel
    by_cases h0 : q = 0
    · subst h0
      go_wp2
      go_ret
      exact ⟨by rw [← hg.out]; simp; omega, n, rfl⟩
    · have h1 : (q == 0) = false := by simpa using h0
      have h2 : 1 ≤ q := by omega
      go_wp2
      go_quiet (fail)
      go_wp2
      have hm := Int.emod_nonneg p h0
      have hl := Int.emod_lt_of_pos p (show 0 < q by omega)
      exact ⟨⟨q, p % q, hq, hm, (gcd_step p q hp (by omega)).trans hg.out, rfl, rfl, n + nq, World.drewN_drewN _ _ _⟩, by simp [intOf]; omega⟩

/-- A numerator brought into lowest terms. -/
def low (x num den : Int) : Int := x / (Int.gcd num den : Int)

theorem low_le (x num den : Int) (hx : 0 ≤ x) (hd : 1 ≤ den) : 1 ≤ (Int.gcd num den : Int) ∧ 0 ≤ x / (Int.gcd num den : Int) ∧ x / (Int.gcd num den : Int) ≤ x := by
  have h1 : 1 ≤ (Int.gcd num den : Int) := by
    have : 0 < Int.gcd num den := Int.gcd_pos_of_ne_zero_right _ (by omega)
    omega
  refine ⟨h1, Int.ediv_nonneg hx (by omega), ?_⟩
  exact Int.ediv_le_self _ hx

set_option maxHeartbeats 400000 in
theorem lowestTerms_big (a b : Int) (w : World) (ha : 0 ≤ a) (hb : 1 ≤ b) (ha' : a ≤ 100000000000000000) (hb' : b ≤ 100000000000000000) :
    Calls Tryd.prog 75 #[.int .i64 a, .int .i64 b] w fun e w' => e = .returned (.tuple #[.int .i64 (low a a b), .int .i64 (low b a b)]) ∧ ∃ n, w' = w.drewN n := by
  obtain ⟨g1, p0, p1⟩ := low_le a a b ha hb
  obtain ⟨_, q0, q1⟩ := low_le b a b (by omega) hb
  unfold low
  generalize hg : (Int.gcd a b : Int) = g at *
  have Hg := Lib.hid hg
  clear hg
  go_enter Tryd.func75, Tryd.ntmps75
  go_wp2_with fail
  refine (commonDivisor_any _ _ _ ha (by omega)).mono ?_
  rintro e w' ⟨rfl, n, rfl⟩
  rw [Hg.out]
  go_wp2_with fail
  go_quiet (fail)
  go_wp2
  go_ret2
  exact ⟨rfl, _, World.drewN_drewN _ _ _⟩

theorem lowestTerms_any (a b : Int) (w : World) (ha : 0 ≤ a) (hb : 1 ≤ b) (ha' : a ≤ 1000000000000) (hb' : b ≤ 1000000000000) :
    Calls Tryd.prog 75 #[.int .i64 a, .int .i64 b] w fun e w' => e = .returned (.tuple #[.int .i64 (low a a b), .int .i64 (low b a b)]) ∧ ∃ n, w' = w.drewN n :=
  lowestTerms_big a b w ha hb (by omega) (by omega)

set_option maxHeartbeats 400000 in
theorem told_big (a b : Int) (w : World) (ha : 0 ≤ a) (hb : 1 ≤ b) (ha' : a ≤ 100000000000000000) (hb' : b ≤ 100000000000000000) :
    Calls Tryd.prog 47 #[.int .i64 a, .int .i64 b] w fun e w' => e = .returned (.tuple #[.int .i64 (low a a b), .int .i64 (low b a b), .bool true]) ∧ ∃ n, w' = w.drewN n := by
  go_enter Tryd.func47, Tryd.ntmps47
  go_wp2_with fail
  refine (lowestTerms_big _ _ _ ha hb ha' hb').mono ?_
  rintro e w' ⟨rfl, n, rfl⟩
  go_wp2
  go_ret3
  exact ⟨rfl, n, rfl⟩

theorem told_any (a b : Int) (w : World) (ha : 0 ≤ a) (hb : 1 ≤ b) (ha' : a ≤ 1000000000000) (hb' : b ≤ 1000000000000) :
    Calls Tryd.prog 47 #[.int .i64 a, .int .i64 b] w fun e w' => e = .returned (.tuple #[.int .i64 (low a a b), .int .i64 (low b a b), .bool true]) ∧ ∃ n, w' = w.drewN n :=
  told_big a b w ha hb (by omega) (by omega)

set_option maxHeartbeats 400000 in
theorem cnLow_big (a b : Int) (w : World) (ha : 0 ≤ a) (hb : 1 ≤ b) (ha' : a ≤ 100000000000000000) (hb' : b ≤ 100000000000000000) :
    Calls Tryd.prog 52 #[.int .i64 a, .int .i64 b] w fun e w' => e = .returned (.tuple #[.int .i64 (low a a b), .int .i64 (low b a b)]) ∧ ∃ n, w' = w.drewN n := by
  obtain ⟨g1, p0, p1⟩ := low_le a a b ha hb
  obtain ⟨_, q0, q1⟩ := low_le b a b (by omega) hb
  unfold low
  generalize hg : (Int.gcd a b : Int) = g at *
  have Hg := Lib.hid hg
  clear hg
  go_enter Tryd.func52, Tryd.ntmps52
  go_wp2
  go_loopw [6, 7] (fun x y wr => ∃ p q : Int, 0 ≤ p ∧ 0 ≤ q ∧ Hid (Int.gcd p q = Int.gcd a b) ∧ x = .int .i64 p ∧ y = .int .i64 q ∧ ∃ n, wr = w.drewN n) (fun _ y _ => (intOf y).toNat)
  case atStart => exact ⟨a, b, ha, by omega, rfl, rfl, rfl, 0, rfl⟩
  case round =>
    obtain ⟨p, q, hp, hq, hk, rfl, rfl, n, rfl⟩ := hrel
    by_cases h0 : q = 0
    · subst h0
      have hpg : p = g := by
        have h1 := hk.out
        have h2 := Hg.out
        simp at h1
        rw [← h2, ← h1]
        omega
      subst hpg
      clear hk Hg
      go_wp2
      go_quiet (fail)
      go_wp2
      go_ret2
      exact ⟨rfl, _, World.drewN_drewN _ _ _⟩
    · have h2 : 0 < q := by omega
      go_wp2
      go_quiet (fail)
      go_wp2
      have hm := Int.emod_nonneg p h0
      have hl := Int.emod_lt_of_pos p h2
      exact ⟨⟨q, p % q, hq, hm, (gcd_step p q hp h2).trans hk.out, rfl, rfl, n + _, World.drewN_drewN _ _ _⟩, by simp [intOf]; omega⟩
theorem cnLow_any (a b : Int) (w : World) (ha : 0 ≤ a) (hb : 1 ≤ b) (ha' : a ≤ 1000000000000) (hb' : b ≤ 1000000000000) :
    Calls Tryd.prog 52 #[.int .i64 a, .int .i64 b] w fun e w' => e = .returned (.tuple #[.int .i64 (low a a b), .int .i64 (low b a b)]) ∧ ∃ n, w' = w.drewN n :=
  cnLow_big a b w ha hb (by omega) (by omega)

end Go.Proofs.YthmdkbeccohjkaaDoor
