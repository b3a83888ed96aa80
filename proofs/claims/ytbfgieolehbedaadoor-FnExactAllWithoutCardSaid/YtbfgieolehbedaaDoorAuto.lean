/- The contract of ptGo. -/
import Derived.Test.YtbfgieolehbedaaDoorOvl
import Derived.Test.YtbfgieolehbedaaDoorAutP
namespace Go.Proofs.YtbfgieolehbedaaDoor
set_option linter.unusedSimpArgs false
open Go.ChangeShapes Go.WideShapes Go.ChangeAt Go.RowKit
set_option linter.unusedVariables false

set_option maxRecDepth 100000 in
set_option maxHeartbeats 1600000 in
theorem ptGo_any (p : ByteArray) (j : Nat) (c : ByteArray) (w : World) (hj : j < p.size) (h8 : p.size ≤ 8) (hc : c.size = 1) :
    Calls Tryd.prog 71 #[.string p, .int .i64 j, .string c] w fun e w' => e = .returned (.int .i64 (goN p j c)) ∧ ∃ n, w' = w.drewN n := by
  have hz := txtN_size p j c (by omega) hc
  have Hz := Lib.hid hz
  have hji : (j : Int) ≤ (p.size : Int) := by omega
  have he := ext_size p 0 j (by omega)
  have t1 : ¬ 9223372036854775807 < (p.extract 0 j).size + c.size := by omega
  have htx : Hid (p.extract 0 j ++ c = txtN p j c) := rfl
  have hle := goN_le p j c
  clear hz
  go_enter Tryd.func71, Tryd.ntmps71
  go_wp2_with fail
  rw [htx.out]
  refine (l1Least_any _ _ _).mono ?_
  rintro e w1 ⟨rfl, rfl⟩
  rw [if_neg (show ¬ ((p.size : Int) < (j : Int) + 1) from by omega)]
  go_wp2_with fail
  go_loopw [8] (fun x wr => ∃ k : Nat, k ≤ j + 1 ∧ x = .int .i64 k ∧ Hid (goD p j c k = goN p j c) ∧ ∃ n, wr = w.drewN n) (fun x _ => (intOf x).toNat)
  case atStart => exact ⟨j + 1, Nat.le_refl _, by simp, rfl, 0, rfl⟩
  case round =>
    obtain ⟨k, hk, rfl, hg, n, rfl⟩ := hrel
    cases k with
    | zero =>
      have hfin : Hid ((0 : Int) = (goN p j c : Nat)) := by
        refine Lib.hid ?_
        rw [← hg.out]
        rfl
      go_wp2_with fail
      go_ret
      exact ⟨by rw [← hfin.out]; rfl, n, rfl⟩
    | succ k =>
      have hbe : ((p.extract 0 (k + 1)).toList == ((txtN p j c).extract (j - k) (j + 1)).toList) = fitB p j c (k + 1) := by
        rw [← show j + 1 - (k + 1) = j - k from by omega]
        exact ba_beq _ _
      have hb1 : (k : Int) + 1 ≤ (p.size : Int) := by omega
      have hzz := Hz.out
      cases hq : fitB p j c (k + 1) with
      | true =>
        have hfin : Hid (((k + 1 : Nat) : Int) = (goN p j c : Nat)) := by
          refine Lib.hid ?_
          rw [← hg.out, goD_yes hq]
        rw [hq] at hbe
        clear hq
        go_wp2_with fail
        go_quiet (fail)
        go_wp2_with fail
        go_ret
        exact ⟨by rw [← hfin.out]; rfl, _, World.drewN_drewN _ _ _⟩
      | false =>
        have hg2 : Hid (goD p j c k = goN p j c) := Lib.hid (by rw [← hg.out, goD_no hq])
        rw [hq] at hbe
        clear hq
        go_wp2_with fail
        go_quiet (fail)
        go_wp2_with fail
        exact ⟨⟨k, by omega, by go_num, hg2, _, rfl⟩, by simp [intOf]⟩
end Go.Proofs.YtbfgieolehbedaaDoor
