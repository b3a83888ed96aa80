/- How many signs of a pattern tosses end with, behind one more: what is of no program, and the contract of ptGo. -/
import Derived.Test.YtjckmnbpfmcadacDoorOvl
namespace Go.Proofs.YtjckmnbpfmcadacDoor
set_option linter.unusedSimpArgs false
open Go.ChangeShapes Go.WideShapes Go.ChangeAt Go.RowKit
set_option linter.unusedVariables false

/-- The first j signs of p, and one toss more. -/
def txtN (p : ByteArray) (j : Nat) (c : ByteArray) : ByteArray := p.extract 0 j ++ c
theorem txtN_size (p : ByteArray) (j : Nat) (c : ByteArray) (hj : j ≤ p.size) (hc : c.size = 1) : (txtN p j c).size = j + 1 := by
  unfold txtN
  rw [ByteArray.size_append, ext_size p 0 j hj, hc]
  omega
def fitB (p : ByteArray) (j : Nat) (c : ByteArray) (k : Nat) : Bool := decide (p.extract 0 k = (txtN p j c).extract (j + 1 - k) (j + 1))
/-- The greatest number of signs, k at most, that fits. -/
def goD (p : ByteArray) (j : Nat) (c : ByteArray) : Nat → Nat
  | 0 => 0
  | k + 1 => if fitB p j c (k + 1) then k + 1 else goD p j c k
def goN (p : ByteArray) (j : Nat) (c : ByteArray) : Nat := goD p j c (j + 1)
theorem goD_le (p : ByteArray) (j : Nat) (c : ByteArray) : ∀ k, goD p j c k ≤ k
  | 0 => Nat.le_refl _
  | k + 1 => by
    have := goD_le p j c k
    unfold goD
    split <;> omega
theorem goD_yes {p : ByteArray} {j : Nat} {c : ByteArray} {k : Nat} (h : fitB p j c (k + 1) = true) : goD p j c (k + 1) = k + 1 := by simp [goD, h]
theorem goD_no {p : ByteArray} {j : Nat} {c : ByteArray} {k : Nat} (h : fitB p j c (k + 1) = false) : goD p j c (k + 1) = goD p j c k := by simp [goD, h]
theorem goN_le (p : ByteArray) (j : Nat) (c : ByteArray) : goN p j c ≤ j + 1 := goD_le p j c _
theorem pre_fit (p : ByteArray) (j : Nat) (c : ByteArray) (k : Nat) (hj : j < p.size) (hc : c.size = 1) (hk : k ≤ j + 1) :
    Lib.hasPrefix p.data.toList ((txtN p j c).extract (j + 1 - k) (j + 1)).data.toList = fitB p j c k := by
  have hz := txtN_size p j c (by omega) hc
  have hl : ((txtN p j c).extract (j + 1 - k) (j + 1)).data.toList.length = k := by rw [len_list, ext_size _ _ _ (by omega)]; omega
  rw [Bool.eq_iff_iff]
  unfold fitB Lib.hasPrefix
  rw [decide_eq_true_iff, ba_eq, List.isPrefixOf_iff_prefix, List.prefix_iff_eq_take, hl, ext_list p, List.drop_zero]
  constructor
  · intro h; exact h.symm
  · intro h; exact h.symm
theorem txt_drop (p : ByteArray) (j : Nat) (c : ByteArray) (k : Nat) (hj : j < p.size) (hc : c.size = 1) (hk : k + 1 ≤ j + 1) :
    ((txtN p j c).extract (j + 1 - (k + 1)) (j + 1)).extract 1 ((txtN p j c).extract (j + 1 - (k + 1)) (j + 1)).size = (txtN p j c).extract (j + 1 - k) (j + 1) := by
  have hz := txtN_size p j c (by omega) hc
  rw [ba_eq, ext_list, ext_list, ext_list, List.take_of_length_le (by rw [← ext_list, len_list]; exact Nat.le_refl _), List.drop_drop]
  congr 1
  omega

theorem l1Least_any (a b : Int) (w : World) :
    Calls Tryd.prog 61 #[.int .i64 a, .int .i64 b] w fun e w' => e = .returned (.int .i64 (if a < b then a else b)) ∧ w = w' := by
  by_cases h : a < b
  · rw [if_pos h]
    go_enter Tryd.func61, Tryd.ntmps61
    go_wp2
    go_ret
    exact ⟨rfl, rfl⟩
  · rw [if_neg h]
    go_enter Tryd.func61, Tryd.ntmps61
    go_wp2
    go_ret
    exact ⟨rfl, rfl⟩

set_option maxRecDepth 100000 in
set_option maxHeartbeats 1600000 in
theorem ptGo_any (p : ByteArray) (j : Nat) (c : ByteArray) (w : World) (hj : j < p.size) (h8 : p.size ≤ 8) (hc : c.size = 1) :
    Calls Tryd.prog 41 #[.string p, .int .i64 j, .string c] w fun e w' => e = .returned (.int .i64 (goN p j c)) ∧ ∃ n, w' = w.drewN n := by
  have hz := txtN_size p j c (by omega) hc
  have Hz := Lib.hid hz
  have hji : (j : Int) ≤ (p.size : Int) := by omega
  have he := ext_size p 0 j (by omega)
  have t1 : ¬ 9223372036854775807 < (p.extract 0 j).size + c.size := by omega
  have htx : Hid (p.extract 0 j ++ c = txtN p j c) := rfl
  have hle := goN_le p j c
  clear hz
  go_enter Tryd.func41, Tryd.ntmps41
  go_wp2_with fail
  rw [htx.out]
  refine (l1Least_any _ _ _).mono ?_
  rintro e w1 ⟨rfl, rfl⟩
  rw [if_neg (show ¬ ((p.size : Int) < (j : Int) + 1) from by omega)]
  go_wp2_with fail
  go_loopw [8] (fun x wr => ∃ k : Nat, k ≤ j + 1 ∧ x = .int .i64 k ∧ Hid (goD p j c k = goN p j c) ∧ ∃ n, wr = w.drewN n) (fun x _ => (intOf x).toNat)
  case atStart => exact ⟨j + 1, Nat.le_refl _, by simp, rfl, 0, rfl⟩
  case round =>
    obtain ⟨k, hk, rfl, hg, n, rfl⟩ := hrel
    cases k with
    | zero =>
      have hfin : Hid ((0 : Int) = (goN p j c : Nat)) := by
        refine Lib.hid ?_
        rw [← hg.out]
        rfl
      go_wp2_with fail
      go_ret
      exact ⟨by rw [← hfin.out]; rfl, n, rfl⟩
    | succ k =>
      have hbe : ((p.extract 0 (k + 1)).toList == ((txtN p j c).extract (j - k) (j + 1)).toList) = fitB p j c (k + 1) := by
        rw [← show j + 1 - (k + 1) = j - k from by omega]
        exact ba_beq _ _
      have hb1 : (k : Int) + 1 ≤ (p.size : Int) := by omega
      have hzz := Hz.out
      cases hq : fitB p j c (k + 1) with
      | true =>
        have hfin : Hid (((k + 1 : Nat) : Int) = (goN p j c : Nat)) := by
          refine Lib.hid ?_
          rw [← hg.out, goD_yes hq]
        rw [hq] at hbe
        clear hq
        go_wp2_with fail
        go_quiet (fail)
        go_wp2_with fail
        go_ret
        exact ⟨by rw [← hfin.out]; rfl, _, World.drewN_drewN _ _ _⟩
      | false =>
        have hg2 : Hid (goD p j c k = goN p j c) := Lib.hid (by rw [← hg.out, goD_no hq])
        rw [hq] at hbe
        clear hq
        go_wp2_with fail
        go_quiet (fail)
        go_wp2_with fail
        exact ⟨⟨k, by omega, by go_num, hg2, _, rfl⟩, by simp [intOf]⟩
end Go.Proofs.YtjckmnbpfmcadacDoor
