/- TurnRace: the contracts of the model and of the program, and the walk. -/
import Derived.Test.YtdfjfojkheikiaaGreatDoorRpW
import Derived.Test.YtdfjfojkheikiaaGreatDoorRac3
namespace Go.Proofs.YtdfjfojkheikiaaGreatDoor
set_option linter.unusedSimpArgs false
open Go.ChangeShapes Go.WideShapes Go.ChangeAt Go.RowKit
set_option linter.unusedVariables false

def ansTr (a b : ByteArray) : Value := if twoG a b then .tuple #[.string (swS a), .string (swS b), .bool true] else .tuple #[.string ⟨#[]⟩, .string ⟨#[]⟩, .bool false]
theorem ansTr_form (a b : ByteArray) : ∃ (x y : ByteArray) (ok : Bool), ansTr a b = .tuple #[.string x, .string y, .bool ok] := by
  unfold ansTr
  split
  · exact ⟨_, _, _, rfl⟩
  · exact ⟨_, _, _, rfl⟩
theorem rac_pat {s : ByteArray} (h : racG s = true) : patG s = true := by
  unfold racG at h
  rw [Bool.and_eq_true] at h
  exact h.1
set_option maxRecDepth 100000 in
set_option maxHeartbeats 1600000 in
theorem specTr_any (a b : ByteArray) (w : World) (ha : a.size ≤ maxLen) (hb : b.size ≤ maxLen) :
    Calls Tryz.prog 4 #[.string a, .string b] w fun e w' => e = .returned (ansTr a b) ∧ w = w' := by
  cases h1 : twoG a b
  · rw [show ansTr a b = .tuple #[.string ⟨#[]⟩, .string ⟨#[]⟩, .bool false] from by unfold ansTr; rw [h1]; rfl]
    go_enter Tryz.func4, Tryz.ntmps4
    go_wp2_with fail
    refine (raTwo_any a b _ ha hb).mono ?_
    rintro e w1 ⟨rfl, rfl⟩
    rw [h1]
    go_wp2_with fail
    go_ret3
    exact ⟨rfl, rfl⟩
  · rw [show ansTr a b = .tuple #[.string (swS a), .string (swS b), .bool true] from by unfold ansTr; rw [h1]; rfl]
    obtain ⟨ra, rb, _, _⟩ := two_in h1
    obtain ⟨a1, a5, aT⟩ := rac_in ra
    obtain ⟨b1, b5, bT⟩ := rac_in rb
    go_enter Tryz.func4, Tryz.ntmps4
    go_wp2_with fail
    refine (raTwo_any a b _ ha hb).mono ?_
    rintro e w1 ⟨rfl, rfl⟩
    rw [h1]
    go_wp2_with fail
    refine (raTurn_any a _ aT (by omega)).mono ?_
    rintro e w1 ⟨rfl, rfl⟩
    go_wp2_with fail
    refine (raTurn_any b _ bT (by omega)).mono ?_
    rintro e w1 ⟨rfl, rfl⟩
    go_wp2_with fail
    go_ret3
    exact ⟨rfl, rfl⟩
set_option maxRecDepth 100000 in
set_option maxHeartbeats 1600000 in
theorem implTr_any (a b : ByteArray) (w : World) (ha : a.size ≤ maxLen) (hb : b.size ≤ maxLen) :
    Calls Tryz.prog 5 #[.string a, .string b] w fun e w' => e = .returned (ansTr a b) ∧ Below w.heap.size w w' := by
  cases h1 : twoG a b
  · rw [show ansTr a b = .tuple #[.string ⟨#[]⟩, .string ⟨#[]⟩, .bool false] from by unfold ansTr; rw [h1]; rfl]
    go_enter Tryz.func5, Tryz.ntmps5
    go_wp2_with fail
    refine (implAreR_any a b _ ha hb).mono ?_
    rintro e w1 ⟨rfl, hb1⟩
    rw [h1]
    go_wp2_with fail
    go_ret3
    exact ⟨rfl, hb1⟩
  · rw [show ansTr a b = .tuple #[.string (swS a), .string (swS b), .bool true] from by unfold ansTr; rw [h1]; rfl]
    obtain ⟨ra, rb, _, _⟩ := two_in h1
    have pa := rac_pat ra
    have pb := rac_pat rb
    have ta : ansTn a = .tuple #[.string (swS a), .bool true] := by unfold ansTn; rw [pa]; rfl
    have tb : ansTn b = .tuple #[.string (swS b), .bool true] := by unfold ansTn; rw [pb]; rfl
    have HTA := Lib.hid ta
    have HTB := Lib.hid tb
    clear ta tb pa pb
    go_enter Tryz.func5, Tryz.ntmps5
    go_wp2_with fail
    refine (implAreR_any a b _ ha hb).mono ?_
    rintro e w1 ⟨rfl, hb1⟩
    rw [h1]
    go_wp2_with fail
    refine (implTn_any a _ ha).mono ?_
    rw [HTA.out]
    rintro e w2 ⟨rfl, hb2⟩
    have hc2 := bel_trans hb1 hb2
    go_wp2_with fail
    refine (implTn_any b _ hb).mono ?_
    rw [HTB.out]
    rintro e w3 ⟨rfl, hb3⟩
    have hc3 := bel_trans hc2 hb3
    go_wp2_with fail
    go_ret3
    exact ⟨rfl, hc3⟩
set_option maxRecDepth 100000 in
set_option maxHeartbeats 1600000 in
theorem walkExactTurnRace (a b : ByteArray) (w : World) (ha : a.size ≤ maxLen) (hb : b.size ≤ maxLen) :
    Calls Tryz.prog 3 #[.string a, .string b] w fun e w' => e = .returned (.bool true) ∧ Below w.heap.size w w' := by
  by_cases za : a.size ≤ 1048576
  · by_cases zb : b.size ≤ 1048576
    · obtain ⟨x, y, ok, hv⟩ := ansTr_form a b
      have Hv := Lib.hid hv
      clear hv
      go_enter Tryz.func3, Tryz.ntmps3
      go_wp2_with fail
      refine (specTr_any a b _ ha hb).mono ?_
      rw [Hv.out]
      rintro e w1 ⟨rfl, rfl⟩
      go_wp2_with fail
      refine (implTr_any a b _ ha hb).mono ?_
      rw [Hv.out]
      rintro e w2 ⟨rfl, hb2⟩
      go_wp2_with fail
      go_ret
      exact ⟨rfl, hb2⟩
    · go_enter Tryz.func3, Tryz.ntmps3
      go_wp2
      go_ret
      exact ⟨rfl, Below.refl _ _⟩
  · go_enter Tryz.func3, Tryz.ntmps3
    go_wp2
    go_ret
    exact ⟨rfl, Below.refl _ _⟩
end Go.Proofs.YtdfjfojkheikiaaGreatDoor
