/- TurnPattern: the model's contract, and the walk. -/
import Derived.Test.YtdfjfojkheikiaaDoorRpW
namespace Go.Proofs.YtdfjfojkheikiaaDoor
set_option linter.unusedSimpArgs false
open Go.ChangeShapes Go.WideShapes Go.ChangeAt Go.RowKit
set_option linter.unusedVariables false

set_option maxRecDepth 100000 in
set_option maxHeartbeats 1600000 in
theorem specTn_any (s : ByteArray) (w : World) (hs : s.size ≤ maxLen) :
    Calls Tryd.prog 13 #[.string s] w fun e w' => e = .returned (ansTn s) ∧ w = w' := by
  cases h1 : patG s
  · rw [show ansTn s = .tuple #[.string ⟨#[]⟩, .bool false] from by unfold ansTn; rw [h1]; rfl]
    go_enter Tryd.func13, Tryd.ntmps13
    go_wp2_with fail
    refine (ptGood_any s _ hs).mono ?_
    rintro e w1 ⟨rfl, rfl⟩
    rw [h1]
    go_wp2_with fail
    go_ret2
    exact ⟨rfl, rfl⟩
  · rw [show ansTn s = .tuple #[.string (swS s), .bool true] from by unfold ansTn; rw [h1]; rfl]
    obtain ⟨p1, p2, ha⟩ := pat_in h1
    have hfin := Lib.hid (swK8_all s)
    go_enter Tryd.func13, Tryd.ntmps13
    go_wp2_with fail
    refine (ptGood_any s _ hs).mono ?_
    rintro e w1 ⟨rfl, rfl⟩
    rw [h1]
    go_wp2_with fail
    go_loop [4, 5] (fun y x => ∃ k : Nat, k ≤ s.size ∧ x = .int .i64 k ∧ y = .string (swK8 s k)) (fun _ x => s.size - (intOf x).toNat)
    case atStart => exact ⟨0, by omega, rfl, rfl⟩
    case round =>
      obtain ⟨k, hk, rfl, rfl⟩ := hrel
      by_cases hlt : k < s.size
      · have ht := allT_at s k hlt ha
        have hst := Lib.hid (swK8_step s k hlt)
        have hz := swK8_size s k
        have t1 : ¬ 9223372036854775807 < (swK8 s k).size + 1 := by omega
        have hki : (k : Int) < (s.size : Int) := by omega
        generalize swK8 s k = U at *
        rcases (tosB_iff s[k]).1 ht with e | e
        · have hc : s[k] = 104 := by rw [← UInt8.toNat_inj]; simpa using e
          rw [hc, show swB 104 = 116 from rfl] at hst
          have hi : ((s[k].toNat : Int) == 104) = true := by rw [e]; rfl
          clear hc ht e
          go_wp2_with fail
          exact ⟨⟨k + 1, by omega, by go_num, by rw [← hst.out]⟩, by simp [intOf]; omega⟩
        · have hc : s[k] = 116 := by rw [← UInt8.toNat_inj]; simpa using e
          rw [hc, show swB 116 = 104 from rfl] at hst
          have hi : ((s[k].toNat : Int) == 104) = false := by rw [e]; rfl
          clear hc ht e
          go_wp2_with fail
          exact ⟨⟨k + 1, by omega, by go_num, by rw [← hst.out]⟩, by simp [intOf]; omega⟩
      · obtain rfl : k = s.size := by omega
        go_wp2_with fail
        go_ret2
        exact ⟨by rw [hfin.out]; rfl, rfl⟩
set_option maxRecDepth 100000 in
set_option maxHeartbeats 1600000 in
theorem walkExactTurnPattern (s : ByteArray) (w : World) (hs : s.size ≤ maxLen) :
    Calls Tryd.prog 5 #[.string s] w fun e w' => e = .returned (.bool true) ∧ Below w.heap.size w w' := by
  by_cases z : s.size ≤ 1048576
  · obtain ⟨x, ok, hv⟩ := ansTn_form s
    have Hv := Lib.hid hv
    clear hv
    go_enter Tryd.func5, Tryd.ntmps5
    go_wp2_with fail
    refine (specTn_any s _ hs).mono ?_
    rw [Hv.out]
    rintro e w1 ⟨rfl, rfl⟩
    go_wp2_with fail
    refine (implTn_any s _ hs).mono ?_
    rw [Hv.out]
    rintro e w2 ⟨rfl, hb⟩
    go_wp2_with fail
    go_ret
    exact ⟨rfl, hb⟩
  · go_enter Tryd.func5, Tryd.ntmps5
    go_wp2
    go_ret
    exact ⟨rfl, Below.refl _ _⟩
end Go.Proofs.YtdfjfojkheikiaaDoor
