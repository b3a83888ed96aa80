/- Roots: the contract of the model. -/
import Derived.Test.YtiblggfihpobkabWoTu
import Derived.Test.YtiblggfihpobkabWoRp
namespace Go.Proofs.Ytiblggfihpobkab
set_option linter.unusedSimpArgs false
open Go.ChangeShapes Go.WideShapes Go.ChangeAt Go.RowKit
set_option linter.unusedVariables false

theorem ba_ne (a b : ByteArray) : (a.toList == b.toList) = decide (a = b) := ba_bq a b
set_option maxRecDepth 100000 in
set_option maxHeartbeats 1600000 in
theorem woRoot_any (s : ByteArray) (w : World) (h1 : 1 ≤ s.size) (h8 : s.size ≤ 8) :
    Calls Try.prog 80 #[.string s] w fun e w' => e = .returned (.int .i64 (rtS s)) ∧ ∃ n, w' = w.drewN n := by
  obtain ⟨r1, r2, r3, r4⟩ := rt_in s h1
  have r5 := rt_div s h1 h8
  have R4 := Lib.hid r4
  have R3 := Lib.hid r3
  have R5 := Lib.hid r5
  clear r3 r4 r5
  obtain ⟨r, hr⟩ : ∃ r, r = rtS s := ⟨_, rfl⟩
  rw [← hr] at r1 r2 R3 R4 R5
  rw [← hr]
  clear hr
  go_enter Try.func80, Try.ntmps80
  go_wp2_with fail
  go_loopw [3] (fun i wr => ∃ k : Nat, 1 ≤ k ∧ k ≤ r ∧ i = .int .i64 k ∧ ∃ n, wr = w.drewN n) (fun i _ => r - (intOf i).toNat)
  case atStart => exact ⟨1, by omega, r1, rfl, 0, rfl⟩
  case round =>
    obtain ⟨k, k1, k2, rfl, n, rfl⟩ := hrel
    have z1 := ext_size s k s.size (Nat.le_refl _)
    have z2 := ext_size s 0 k (by omega)
    have t1 : ¬ 9223372036854775807 < (s.extract k s.size).size + (s.extract 0 k).size := by omega
    have hk0 : ¬ (k : Int) = 0 := by omega
    have hkn : ¬ k = 0 := by omega
    have hkb : (k == 0) = false := by simpa using hkn
    have hk1 : ((k : Int) == 0) = false := by simpa using hk0
    have htm : (s.size : Int).tmod (k : Int) = ((s.size % k : Nat) : Int) := by rw [Int.tmod_eq_emod_of_nonneg (by omega)]; rfl
    have hem : (s.size : Int) % (k : Int) = ((s.size % k : Nat) : Int) := rfl
    have hbe : ((s.extract k s.size ++ s.extract 0 k).toList == s.toList) = decide (trn s k = s) := ba_bq _ _
    clear z1 z2
    have hm8 : s.size % k ≤ 8 := Nat.le_trans (Nat.mod_le _ _) h8
    have R5k : k = r → s.size % k = 0 := fun e => by rw [e]; exact R5.out
    generalize s.size % k = q at *
    have hw1 : IntKind.i64.wrap ((q : Int)) = (q : Int) := IntWalk.i64_in _ (by omega)
    by_cases hlt : k < r
    · have hne : decide (trn s k = s) = false := by simpa using R4.out k k1 hlt
      rw [hne] at hbe
      clear R5k
      by_cases hm : q = 0
      · subst hm
        clear hw1 hm8
        go_wp2_with fail
        go_quiet (fail)
        go_wp2_with fail
        exact ⟨⟨k + 1, by omega, by omega, by go_num, _, rfl⟩, by simp [intOf]; omega⟩
      · have hqb : (q == 0) = false := by simpa using hm
        have hqz : ¬ (q : Int) = 0 := by omega
        have hqi : ((q : Int) == 0) = false := by simpa using hqz
        go_wp2_with fail
        go_quiet (fail)
        go_wp2_with fail
        exact ⟨⟨k + 1, by omega, by omega, by go_num, _, rfl⟩, by simp [intOf]; omega⟩
    · obtain rfl : r = k := by omega
      have hne : decide (trn s (r) = s) = true := by simpa using R3.out
      rw [hne] at hbe
      obtain rfl : q = 0 := R5k rfl
      clear R5k hw1 hm8
      go_wp2_with fail
      go_quiet (fail)
      go_wp2
      go_ret
      exact ⟨rfl, _, World.drewN_drewN _ _ _⟩
end Go.Proofs.Ytiblggfihpobkab
