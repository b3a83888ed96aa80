/- Numbers of prime words: contracts of the program and of its model. -/
import Derived.Test.YtiblggfihpobkabDvP
import Derived.Test.YtiblggfihpobkabWoAl
import Derived.Test.YtiblggfihpobkabWoPw
namespace Go.Proofs.Ytiblggfihpobkab
set_option linter.unusedSimpArgs false
open Go.ChangeShapes Go.WideShapes Go.ChangeAt Go.RowKit
set_option linter.unusedVariables false

theorem rem_nat (a b : Nat) : (a : Int).tmod (b : Int) = ((a % b : Nat) : Int) := by rw [Int.tmod_eq_emod_of_nonneg (by omega)]; rfl
set_option maxRecDepth 100000 in
set_option maxHeartbeats 1600000 in
theorem divisors_any (L : Nat) (w : World) (h1 : 1 ≤ L) (h8 : L ≤ 8) :
    Calls Try.prog 42 #[.int .i64 L] w (RowOne (dvL L) w) := by
  go_enter Try.func42, Try.ntmps42
  go_wp2_with fail
  go_loopw [3, 4] (fun v x wr => ∃ k : Nat, k ≤ L ∧ x = .int .i64 ((k : Int) + 1) ∧ Hid (IRow wr w.heap.size v (selR (dvp L) 1 k)) ∧ Below w.heap.size w wr) (fun _ x _ => L + 1 - (intOf x).toNat)
  case atStart => exact ⟨0, by omega, rfl, IRow.nil _ _, Below.refl _ _⟩
  case round =>
    obtain ⟨k, hk, rfl, hI, hb⟩ := hrel
    obtain ⟨wa, rfl⟩ : ∃ wa : World, wa = wr := ⟨_, rfl⟩
    have hsa := hb.size
    by_cases hlt : k < L
    · have hl := selR_len (dvp L) 1 k
      have hn0 : ¬ ((k : Int) + 1) = 0 := by omega
      have hnb : (((k : Int) + 1) == 0) = false := by simpa using hn0
      have htm : (L : Int).tmod ((k : Int) + 1) = ((L % (k + 1) : Nat) : Int) := rem_nat L (k + 1)
      have hem : (L : Int) % ((k : Int) + 1) = ((L % (k + 1) : Nat) : Int) := rfl
      have hm8 : L % (k + 1) ≤ 8 := Nat.le_trans (Nat.mod_le _ _) h8
      have hz : ((k : Int) + 1) ≤ (L : Int) := by omega
      cases hq : dvp L (1 + k) with
      | true =>
        have hS : Hid (selR (dvp L) 1 (k + 1) = selR (dvp L) 1 k ++ [(k : Int) + 1]) := by
          refine Lib.hid ?_
          rw [selR_yes hq]
          simp
          omega
        have hq0 : L % (k + 1) = 0 := by unfold dvp at hq; rw [Nat.add_comm] at hq; simpa using hq
        rw [hq0] at htm hem
        clear hq hq0 hm8
        go_wp2_with (at_builtin; refine wpList_push1 rfl (.tmp 14) (.tmp 16) rfl _ _ _ hI.out (by omega) hsa ((k : Int) + 1) rfl rfl ?_)
        intro v' w3 hI3 hb3
        go_wp2_with fail
        exact ⟨⟨k + 1, by omega, by go_num, by rw [hS.out]; exact hI3, hb.trans hb3⟩, by simp [intOf]; omega⟩
      | false =>
        have hS := Lib.hid (selR_no hq)
        have hq0 : ¬ L % (k + 1) = 0 := by unfold dvp at hq; rw [Nat.add_comm] at hq; simpa using hq
        generalize L % (k + 1) = q at *
        have hqz : ¬ (q : Int) = 0 := by omega
        have hqi : ((q : Int) == 0) = false := by simpa using hqz
        have hqb : (q == 0) = false := by simpa using hq0
        have hw1 : IntKind.i64.wrap (q : Int) = (q : Int) := IntWalk.i64_in _ (by omega)
        clear hq
        go_wp2_with fail
        exact ⟨⟨k + 1, by omega, by go_num, by rw [hS.out]; exact hI, hb⟩, by simp [intOf]; omega⟩
    · obtain rfl : k = L := by omega
      have hz : ¬ ((k : Int) + 1) ≤ (k : Int) := by omega
      go_wp2_with fail
      go_ret
      exact ⟨_, rfl, hI.out, hb⟩
theorem pcL_next (n L k : Nat) : pcL n L (k + 1) = pcL n L k - (if L % (k + 1) = 0 then ((k + 1 : Nat) : Int) * pcW n (k + 1) else 0) := by
  unfold pcL
  conv => lhs; unfold pcSm
  omega
theorem pcL_zero (n L : Nat) : pcL n L 0 = (n : Int) ^ L := by unfold pcL pcSm; omega
theorem pcL_all (n L : Nat) (h : 1 ≤ L) : (pcL n L (L - 1)).tdiv (L : Int) = pcW n L := (pcW_eq n L h).symm
theorem mul_bnd {k x : Int} (k1 : 1 ≤ k) (k8 : k ≤ 8) (a : -208830000000 ≤ x) (b : x ≤ 208830000000) : -1670640000000 ≤ k * x ∧ k * x ≤ 1670640000000 := by
  have h1 : k * x ≤ 8 * 208830000000 := by
    rcases Int.le_total 0 x with h | h
    · exact Int.mul_le_mul k8 b h (by omega)
    · have := Int.mul_nonneg (show 0 ≤ k by omega) (show 0 ≤ -x by omega)
      rw [Int.mul_neg] at this
      omega
  have h2 : k * -x ≤ 8 * 208830000000 := by
    rcases Int.le_total 0 (-x) with h | h
    · exact Int.mul_le_mul k8 (by omega) h (by omega)
    · have := Int.mul_nonneg (show 0 ≤ k by omega) (show 0 ≤ x by omega)
      rw [Int.mul_neg]
      omega
  rw [Int.mul_neg] at h2
  omega
set_option maxRecDepth 100000 in
set_option maxHeartbeats 1600000 in
theorem woPrimeCount_any (n : Nat) (n1 : 1 ≤ n) (n2 : n ≤ 26) : ∀ (L : Nat), 1 ≤ L → L ≤ 8 → ∀ w : World,
    Calls Try.prog 45 #[.int .i64 n, .int .i64 L] w fun e w' => e = .returned (.int .i64 (pcW n L)) ∧ w = w' := by
  intro L
  induction L using Nat.strongRecOn with
  | _ L ih =>
    intro h1 h8 w
    have hfin := Lib.hid (pcL_all n L h1)
    have hbd := (pcW_bnd n n1 n2 L h1 h8).2
    have hbL := bnd_pos L
    have IH := Lib.hid ih
    clear ih
    go_enter Try.func45, Try.ntmps45
    go_wp2_with fail
    refine (woPower_any n L _ n1 n2 (by omega)).mono ?_
    rintro e w' ⟨rfl, rfl⟩
    rw [← pcL_zero n L]
    go_wp2_with fail
    go_loop [5, 6] (fun x i => ∃ k : Nat, k ≤ L - 1 ∧ i = .int .i64 ((k : Int) + 1) ∧ x = .int .i64 (pcL n L k)) (fun _ i => L - (intOf i).toNat)
    case atStart => exact ⟨0, by omega, rfl, rfl⟩
    case round =>
      obtain ⟨k, hk, rfl, rfl⟩ := hrel
      have hx := hbd k hk
      by_cases hlt : k + 1 < L
      · have hn0 : ¬ ((k : Int) + 1) = 0 := by omega
        have hnb : (((k : Int) + 1) == 0) = false := by simpa using hn0
        have htm : (L : Int).tmod ((k : Int) + 1) = ((L % (k + 1) : Nat) : Int) := rem_nat L (k + 1)
        have hem : (L : Int) % ((k : Int) + 1) = ((L % (k + 1) : Nat) : Int) := rfl
        have hm8 : L % (k + 1) ≤ 8 := Nat.le_trans (Nat.mod_le _ _) h8
        have hz : ((k : Int) + 1) < (L : Int) := by omega
        have hnx := pcL_next n L k
        have hx2 := hbd (k + 1) (by omega)
        by_cases hq : L % (k + 1) = 0
        · rw [if_pos hq] at hnx
          rw [hq] at htm hem
          have hp := (pcW_bnd n n1 n2 (k + 1) (by omega) (by omega)).1
          have hp2 := bnd_pos (k + 1)
          obtain ⟨m1, m2⟩ := mul_bnd (k := ((k : Int) + 1)) (x := pcW n (k + 1)) (by omega) (by omega) (by omega) (by omega)
          have hnx2 : Hid (pcL n L (k + 1) = pcL n L k - ((k : Int) + 1) * pcW n (k + 1)) := Lib.hid hnx
          have hw1 : IntKind.i64.wrap (((k : Int) + 1) * pcW n (k + 1)) = ((k : Int) + 1) * pcW n (k + 1) := IntWalk.i64_in _ (by omega)
          have hw2 : IntKind.i64.wrap (pcL n L k - ((k : Int) + 1) * pcW n (k + 1)) = pcL n L k - ((k : Int) + 1) * pcW n (k + 1) := IntWalk.i64_in _ (by omega)
          clear hq hm8 hnx
          go_wp2_with fail
          refine (IH.out (k + 1) hlt (by omega) (by omega) _).mono ?_
          rintro e w' ⟨rfl, rfl⟩
          go_wp2_with fail
          exact ⟨⟨k + 1, by omega, by go_num, by rw [hnx2.out]⟩, by simp [intOf]; omega⟩
        · rw [if_neg hq, Int.sub_zero] at hnx
          have Hnx := Lib.hid hnx
          clear hnx
          generalize L % (k + 1) = q at *
          have hqz : ¬ (q : Int) = 0 := by omega
          have hqi : ((q : Int) == 0) = false := by simpa using hqz
          have hqb : (q == 0) = false := by simpa using hq
          have hw1 : IntKind.i64.wrap (q : Int) = (q : Int) := IntWalk.i64_in _ (by omega)
          go_wp2_with fail
          exact ⟨⟨k + 1, by omega, by go_num, by rw [Hnx.out]⟩, by simp [intOf]; omega⟩
      · obtain rfl : k = L - 1 := by omega
        have hz : ¬ ((L - 1 : Nat) : Int) + 1 < (L : Int) := by omega
        have hL0 : ¬ (L : Int) = 0 := by omega
        have hLn : ¬ L = 0 := by omega
        have hLb : ((L : Int) == 0) = false := by simpa using hL0
        have hLc : (L == 0) = false := by simpa using hLn
        obtain ⟨t1, t2⟩ := tdiv_bnd _ _ L h1 hx.1 hx.2
        have hw1 : IntKind.i64.wrap ((pcL n L (L - 1)).tdiv (L : Int)) = (pcL n L (L - 1)).tdiv (L : Int) := IntWalk.i64_in _ (by omega)
        go_wp2_with fail
        go_ret
        exact ⟨by rw [← hfin.out]; rfl, rfl⟩
end Go.Proofs.Ytiblggfihpobkab
