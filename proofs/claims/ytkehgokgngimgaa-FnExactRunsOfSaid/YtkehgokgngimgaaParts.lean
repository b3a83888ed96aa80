/- Contracts of the parts of chances: what follows a day, long shares, powers. -/
import Derived.Test.YtkehgokgngimgaaWeather
namespace Go.Proofs.Ytkehgokgngimgaa
open Go.ChangeShapes Go.WideShapes Go.ChangeAt Go.RowKit
set_option linter.unusedVariables false

theorem cnNext_any (a b c d f : Int) (w : World) (hd : dayV d) (hf : dayV f) (hr : inR a b c) :
    Calls Try.prog 63 #[chn a b c, .int .u8 d, .int .u8 f] w fun e w' => e = .returned (.int .i64 (stp a b c d f)) ∧ Below w.heap.size w w' := by
  obtain ⟨r1, r2, r3, r4, r5, r6⟩ := hr
  rcases hd with rfl | rfl <;> rcases hf with rfl | rfl
  · have hs : stp a b c 100 100 = c - a := by simp [stp, chg]
    rw [hs]; clear hs
    go_enter Try.func63, Try.ntmps63
    go_wp2
    go_ret
    exact ⟨rfl, bel_alloc (Below.refl _ _) _⟩
  · have hs : stp a b c 100 119 = a := by simp [stp, chg]
    rw [hs]; clear hs
    go_enter Try.func63, Try.ntmps63
    go_wp2
    go_ret
    exact ⟨rfl, bel_alloc (Below.refl _ _) _⟩
  · have hs : stp a b c 119 100 = b := by simp [stp, chg]
    rw [hs]; clear hs
    go_enter Try.func63, Try.ntmps63
    go_wp2
    go_ret
    exact ⟨rfl, bel_alloc (Below.refl _ _) _⟩
  · have hs : stp a b c 119 119 = c - b := by simp [stp, chg]
    rw [hs]; clear hs
    go_enter Try.func63, Try.ntmps63
    go_wp2
    go_ret
    exact ⟨rfl, bel_alloc (Below.refl _ _) _⟩

theorem cnLeave_any (a b c d : Int) (w : World) (hd : dayV d) :
    Calls Try.prog 77 #[chn a b c, .int .u8 d] w fun e w' => e = .returned (.int .i64 (chg a b d)) ∧ Below w.heap.size w w' := by
  rcases hd with rfl | rfl
  · rw [chg_dry]
    go_enter Try.func77, Try.ntmps77
    go_wp2
    go_ret
    exact ⟨rfl, bel_alloc (Below.refl _ _) _⟩
  · rw [chg_wet]
    go_enter Try.func77, Try.ntmps77
    go_wp2
    go_ret
    exact ⟨rfl, bel_alloc (Below.refl _ _) _⟩

def mixB (a b : Int) : Bool := decide (1 ≤ a) && decide (1 ≤ b)

theorem cnMixes_any (a b c : Int) (w : World) :
    Calls Try.prog 73 #[chn a b c] w fun e w' => e = .returned (.bool (mixB a b)) ∧ Below w.heap.size w w' := by
  by_cases h1 : 0 < a
  · by_cases h2 : 0 < b
    · have hm : mixB a b = true := by simp [mixB]; omega
      rw [hm]
      go_enter Try.func73, Try.ntmps73
      go_wp2
      go_ret
      exact ⟨rfl, bel_alloc (Below.refl _ _) _⟩
    · have hm : mixB a b = false := by simp [mixB]; omega
      rw [hm]
      have hd : decide (0 < b) = false := by simpa using h2
      go_enter Try.func73, Try.ntmps73
      go_wp2
      go_ret
      exact ⟨rfl, bel_alloc (Below.refl _ _) _⟩
  · have hm : mixB a b = false := by simp [mixB]; omega
    rw [hm]
    have hd : decide (0 < a) = false := by simpa using h1
    go_enter Try.func73, Try.ntmps73
    go_wp2
    go_ret
    exact ⟨rfl, bel_alloc (Below.refl _ _) _⟩

theorem mixes_any (a b c : Int) (w : World) :
    Calls Try.prog 75 #[chn a b c] w fun e w' => e = .returned (.bool (mixB a b)) ∧ Below w.heap.size w w' := by
  by_cases h1 : 1 ≤ a
  · by_cases h2 : 1 ≤ b
    · have hm : mixB a b = true := by simp [mixB]; omega
      rw [hm]
      go_enter Try.func75, Try.ntmps75
      go_wp2
      go_ret
      exact ⟨rfl, bel_alloc (Below.refl _ _) _⟩
    · have hm : mixB a b = false := by simp [mixB]; omega
      rw [hm]
      have hd : decide (1 ≤ b) = false := by simpa using h2
      go_enter Try.func75, Try.ntmps75
      go_wp2
      go_ret
      exact ⟨rfl, bel_alloc (Below.refl _ _) _⟩
  · have hm : mixB a b = false := by simp [mixB]; omega
    rw [hm]
    have hd : decide (1 ≤ a) = false := by simpa using h1
    go_enter Try.func75, Try.ntmps75
    go_wp2
    go_ret
    exact ⟨rfl, bel_alloc (Below.refl _ _) _⟩

theorem dayV_turn {d : Int} (hd : dayV d) : dayV (219 - d) := by unfold dayV at *; omega

theorem share_any (a b c d : Int) (w : World) (hd : dayV d) :
    Calls Try.prog 76 #[wth a b c d] w fun e w' => e = .returned (.int .i64 (chg a b (219 - d))) ∧ Below w.heap.size w w' := by
  go_enter Try.func76, Try.ntmps76
  go_wp2_with fail
  refine (turned_any _ _ _ _ _ hd).mono ?_
  rintro e w1 ⟨rfl, hb1⟩
  go_wp2_with fail
  refine (changing_any _ _ _ _ _ (dayV_turn hd)).mono ?_
  rintro e w2 ⟨rfl, hb2⟩
  go_wp2_with fail
  go_ret
  exact ⟨rfl, bel_trans (bel_trans (bel_alloc (Below.refl _ _) _) hb1) hb2⟩

set_option maxHeartbeats 400000 in
theorem cnShare_any (a b c d : Int) (w : World) (hd : dayV d) (hr : inR a b c) :
    Calls Try.prog 74 #[chn a b c, .int .u8 d] w fun e w' => e = .returned (.tuple #[.int .i64 (chg a b (219 - d)), .int .i64 (a + b)]) ∧ Below w.heap.size w w' := by
  obtain ⟨r1, r2, r3, r4, r5, r6⟩ := hr
  have hw : IntKind.i64.wrap (a + b) = a + b := IntWalk.i64_in _ (by omega)
  rcases hd with rfl | rfl
  · rw [show chg a b (219 - 100) = b from by simp [chg]]
    go_enter Try.func74, Try.ntmps74
    go_wp2_with fail
    go_quiet (fail)
    go_wp2
    go_ret2
    exact ⟨rfl, bel_drewN (bel_alloc (Below.refl _ _) _) _⟩
  · rw [show chg a b (219 - 119) = a from by simp [chg]]
    go_enter Try.func74, Try.ntmps74
    go_wp2_with fail
    go_quiet (fail)
    go_wp2
    go_ret2
    exact ⟨rfl, bel_drewN (bel_alloc (Below.refl _ _) _) _⟩

theorem pow_in (p : Int) (h0 : 0 ≤ p) (h1 : p ≤ 10) : ∀ k : Nat, 0 ≤ p ^ k ∧ p ^ k ≤ 10 ^ k
  | 0 => by simp
  | k + 1 => by
    obtain ⟨a, b⟩ := pow_in p h0 h1 k
    rw [Int.pow_succ, Int.pow_succ]
    exact ⟨Int.mul_nonneg a h0, Int.mul_le_mul b h1 h0 (by omega)⟩
theorem ten_le (k : Nat) (h : k ≤ 9) : (10 : Int) ^ k ≤ 1000000000 := by
  match k, h with
  | 0, _ | 1, _ | 2, _ | 3, _ | 4, _ | 5, _ | 6, _ | 7, _ | 8, _ | 9, _ => decide
theorem pow_le9 (p : Int) (h0 : 0 ≤ p) (h1 : p ≤ 10) (k : Nat) (hk : k ≤ 9) : 0 ≤ p ^ k ∧ p ^ k ≤ 1000000000 :=
  ⟨(pow_in p h0 h1 k).1, Int.le_trans (pow_in p h0 h1 k).2 (ten_le k hk)⟩

set_option maxHeartbeats 400000 in
theorem power_any (p : Int) (n : Nat) (w : World) (h0 : 0 ≤ p) (h1 : p ≤ 10) (hn : n ≤ 9) :
    Calls Try.prog 69 #[.int .i64 p, .int .i64 n] w fun e w' => e = .returned (.int .i64 (p ^ n)) ∧ w = w' := by
  go_enter Try.func69, Try.ntmps69
  go_wp2
  go_loop [5, 7] (fun x i => ∃ k : Nat, k ≤ n ∧ i = .int .i64 k ∧ x = .int .i64 (p ^ k)) (fun _ i => n - (intOf i).toNat)
  case atStart => exact ⟨0, by omega, rfl, by simp⟩
  case round =>
    obtain ⟨k, hk, rfl, rfl⟩ := hrel
    obtain ⟨b0, b1⟩ := pow_le9 p h0 h1 k (by omega)
    by_cases hlt : k < n
    · obtain ⟨c0, c1⟩ := pow_le9 p h0 h1 (k + 1) (by omega)
      rw [Int.pow_succ] at c0 c1
      have hs := Lib.hid (Int.pow_succ p k)
      generalize p ^ k = q at *
      go_wp2
      exact ⟨⟨k + 1, by omega, by go_num, by rw [hs.out]⟩, by simp [intOf]; omega⟩
    · obtain rfl : k = n := by omega
      go_wp2
      go_ret
      exact ⟨rfl, rfl⟩
end Go.Proofs.Ytkehgokgngimgaa
