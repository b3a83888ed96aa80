/- The period of a state: small contracts, and how many ways there are at most. -/
import Derived.Test.YtbcngdamligpbaaPerQ
namespace Go.Proofs.Ytbcngdamligpbaa
set_option linter.unusedSimpArgs false
open Go.ChangeShapes Go.WideShapes Go.ChangeAt Go.RowKit
set_option linter.unusedVariables false

set_option maxHeartbeats 400000 in
theorem saCommon_any (a b : Int) (w : World) (ha : 0 ≤ a) (hb : 0 ≤ b) :
    Calls Try.prog 48 #[.int .i64 a, .int .i64 b] w fun e w' => e = .returned (.int .i64 (Int.gcd a b)) ∧ ∃ n, w' = w.drewN n := by
  go_enter Try.func48, Try.ntmps48
  go_wp2
  go_loopw [0, 1] (fun x y wr => ∃ p q : Int, 0 ≤ p ∧ 0 ≤ q ∧ Hid (Int.gcd p q = Int.gcd a b) ∧ x = .int .i64 p ∧ y = .int .i64 q ∧ ∃ n, wr = w.drewN n) (fun _ y _ => (intOf y).toNat)
  case atStart => exact ⟨a, b, ha, hb, rfl, rfl, rfl, 0, rfl⟩
  case round =>
    obtain ⟨p, q, hp, hq, hg, rfl, rfl, n, rfl⟩ := hrel
    by_cases h0 : q = 0
    · subst h0
      go_wp2
      go_ret
      exact ⟨by rw [← hg.out]; simp; omega, n, rfl⟩
    · have h2 : 0 < q := by omega
      have hm := Int.emod_nonneg p h0
      have hl := Int.emod_lt_of_pos p h2
      have HS := Lib.hid (gcd_step p q hp h2)
      go_wp2
      go_quiet (fail)
      go_wp2
      exact ⟨⟨q, p % q, hq, hm, HS.out.trans hg.out, rfl, rfl, n + nq, World.drewN_drewN _ _ _⟩, by simp [intOf]; omega⟩
theorem l1Most_per (a b : Int) (w : World) :
    Calls Try.prog 63 #[.int .i64 a, .int .i64 b] w fun e w' => e = .returned (.int .i64 (if b < a then a else b)) ∧ w = w' := by
  by_cases h : b < a
  · rw [if_pos h]
    go_enter Try.func63, Try.ntmps63
    go_wp2
    go_ret
    exact ⟨rfl, rfl⟩
  · rw [if_neg h]
    go_enter Try.func63, Try.ntmps63
    go_wp2
    go_ret
    exact ⟨rfl, rfl⟩
theorem l1Abs_any (x : Int) (w : World) (h1 : -1000 ≤ x) (h2 : x ≤ 1000) : Calls Try.prog 49 #[.int .i64 x] w fun e w' => e = .returned (.int .i64 (x.natAbs : Int)) ∧ w = w' := by
  have hw : IntKind.i64.wrap (-x) = -x := IntWalk.i64_in _ (by omega)
  have e1 : (if -x < x then x else -x) = (x.natAbs : Int) := by split <;> omega
  go_enter Try.func49, Try.ntmps49
  go_wp2_with fail
  refine (l1Most_per _ _ _).mono ?_
  rintro e w1 ⟨rfl, rfl⟩
  rw [e1]
  go_wp2
  go_ret
  exact ⟨rfl, rfl⟩
/-- At most 5 to the k ways of k steps. -/
theorem psum_le {f : Nat → Nat → Int} {h : Nat → Int} {j : Nat} {B : Int} (hf : ∀ i, 0 ≤ f i j ∧ f i j ≤ 1) (hh : ∀ i, 0 ≤ h i ∧ h i ≤ B) : ∀ n : Nat, psum f h j n ≤ n * B
  | 0 => by simp [psum]
  | n + 1 => by
    have ih := psum_le (j := j) hf hh n
    have e : psum f h j (n + 1) = psum f h j n + h n * f n j := rfl
    have h1 := hf n
    have h2 := hh n
    have h3 : h n * f n j ≤ B := by
      have := Int.mul_le_mul_of_nonneg_left h1.2 h2.1
      omega
    rw [e]
    push_cast
    rw [Int.add_mul]
    omega
theorem way_le1 {lim : Int} {m : List (List Int)} (hg : Good lim m) (i j : Nat) : wayM true m i j ≤ 1 := by
  unfold wayM sig
  simp only [if_true]
  split
  · omega
  · split <;> omega
theorem aft_le5 {lim : Int} {m : List (List Int)} (hg : Good lim m) (s : Nat) : ∀ k j, aft (wayM true m) m.length s k j ≤ (5 : Int) ^ k
  | 0, j => by
    unfold aft
    split <;> simp
  | k + 1, j => by
    have h := psum_le (f := wayM true m) (h := aft (wayM true m) m.length s k) (j := j) (B := (5 : Int) ^ k) (fun i => ⟨(way_pos hg i j).1, way_le1 hg i j⟩) (fun i => ⟨(aft_pos hg s k i).1, aft_le5 hg s k i⟩) m.length
    have h5 := hg.five
    have hp : (0 : Int) ≤ 5 ^ k := Int.le_of_lt (Int.pow_pos (by omega))
    have hm : (m.length : Int) * 5 ^ k ≤ 5 * 5 ^ k := Int.mul_le_mul_of_nonneg_right (by omega) hp
    have e : (5 : Int) ^ (k + 1) = 5 * 5 ^ k := by rw [Int.pow_succ, Int.mul_comm]
    rw [e]
    exact Int.le_trans h hm
theorem way_aft15 {lim : Int} {m : List (List Int)} (hg : Good lim m) (s n : Nat) (hn : n ≤ 15) : ∀ k j, k ≤ n → 0 ≤ aft (wayM true m) m.length s k j ∧ aft (wayM true m) m.length s k j ≤ 10000000000000000 := by
  intro k j hk
  refine ⟨(aft_pos hg s k j).1, Int.le_trans (aft_le5 hg s k j) ?_⟩
  have hk' : k ≤ 15 := by omega
  clear hk
  match k, hk' with
  | 0, _ | 1, _ | 2, _ | 3, _ | 4, _ | 5, _ | 6, _ | 7, _ | 8, _ | 9, _ | 10, _ | 11, _ | 12, _ | 13, _ | 14, _ | 15, _ => decide
theorem perA_le (m : List (List Int)) (s : Nat) : ∀ k, perA m s k ≤ k
  | 0 => Nat.le_refl 0
  | k + 1 => by
    have ih := perA_le m s k
    unfold perA
    split
    · exact Nat.gcd_le_right _ (Nat.succ_pos k)
    · omega
/-- What the period's laws answer. -/
def ansPer (lim : Int) (m : List (List Int)) (f : Int) : Value := if ask2 lim m f f then .tuple #[.int .i64 (perA m f.toNat (3 * m.length) : Int), .bool (decide (0 < perA m f.toNat (3 * m.length)))] else .tuple #[.int .i64 0, .bool false]
theorem ansPer_form (lim : Int) (m : List (List Int)) (f : Int) : ∃ (x : Int) (o : Bool), ansPer lim m f = .tuple #[.int .i64 x, .bool o] := by
  unfold ansPer
  split
  · exact ⟨_, _, rfl⟩
  · exact ⟨_, _, rfl⟩
end Go.Proofs.Ytbcngdamligpbaa
