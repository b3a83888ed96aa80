/- LeadingNumber, ChanceFirst, DoesBeat and MeanRace: the walks. -/
import Derived.Test.YtjckmnbpfmcadabDoorRcM
namespace Go.Proofs.YtjckmnbpfmcadabDoor
set_option linter.unusedSimpArgs false
open Go.ChangeShapes Go.WideShapes Go.ChangeAt Go.RowKit
set_option linter.unusedVariables false

set_option maxHeartbeats 800000 in
theorem walkExactLeadingNumber (h o : Int) (a : ByteArray) (b : ByteArray) (w : World) (ha : (Lit.int .i64 h).wf = true) (hb : (Lit.int .i64 o).wf = true) (za : a.size ≤ maxLen) (zb : b.size ≤ maxLen) :
    Calls Tryd.prog 4 #[cn h o, .string a, .string b] w fun e w' => e = .returned (.bool true) ∧ Below w.heap.size w w' := by
  clear ha hb
  by_cases ya : a.size ≤ 1048576
  case neg =>
    go_enter Tryd.func4, Tryd.ntmps4
    go_wp2
    go_ret
    exact ⟨rfl, bel_alloc (Below.refl _ _) _⟩
  by_cases yb : b.size ≤ 1048576
  case neg =>
    go_enter Tryd.func4, Tryd.ntmps4
    go_wp2
    go_ret
    exact ⟨rfl, bel_alloc (Below.refl _ _) _⟩
  obtain ⟨x, y, ok, hv⟩ := ansLN_form h o a b
  have Hv := Lib.hid hv
  clear hv
  have bx0 := Lib.hid (Box2.new w (.int .i64 h) (.int .i64 o) 24)
  have bl0 : Below w.heap.size w (w.alloc (.cells #[.int .i64 h, .int .i64 o] 24)) := bel_alloc (Below.refl _ _) _
  go_enter Tryd.func4, Tryd.ntmps4
  go_wp2_with fail
  refine (toCoin_any _ _ _).mono ?_
  rintro e w1 ⟨rfl, hb1⟩
  have bx1 := Lib.hid (bx0.out.keep hb1)
  have bl1 := bel_trans bl0 hb1
  obtain ⟨c0_1, c1_1, hk1⟩ := bx1.out
  go_wp2_with fail
  refine (specLN_any h o a b _ za zb).mono ?_
  rintro e w2 ⟨rfl, hb2⟩
  rw [Hv.out]
  have bx2 := Lib.hid (bx1.out.keep hb2)
  have bl2 := bel_trans bl1 hb2
  obtain ⟨c0_2, c1_2, hk2⟩ := bx2.out
  go_wp2_with fail
  refine (toCoin_any _ _ _).mono ?_
  rintro e w3 ⟨rfl, hb3⟩
  have bx3 := Lib.hid (bx2.out.keep hb3)
  have bl3 := bel_trans bl2 hb3
  obtain ⟨c0_3, c1_3, hk3⟩ := bx3.out
  go_wp2_with fail
  refine (implLN_any h o a b _ za zb).mono ?_
  rintro e w4 ⟨rfl, hb4⟩
  rw [Hv.out]
  have bx4 := Lib.hid (bx3.out.keep hb4)
  have bl4 := bel_trans bl3 hb4
  obtain ⟨c0_4, c1_4, hk4⟩ := bx4.out
  go_wp2_with fail
  go_ret
  exact ⟨rfl, bl4⟩

set_option maxHeartbeats 800000 in
theorem walkExactChanceFirst (h o : Int) (a : ByteArray) (b : ByteArray) (w : World) (ha : (Lit.int .i64 h).wf = true) (hb : (Lit.int .i64 o).wf = true) (za : a.size ≤ maxLen) (zb : b.size ≤ maxLen) :
    Calls Tryd.prog 5 #[cn h o, .string a, .string b] w fun e w' => e = .returned (.bool true) ∧ Below w.heap.size w w' := by
  clear ha hb
  by_cases ya : a.size ≤ 1048576
  case neg =>
    go_enter Tryd.func5, Tryd.ntmps5
    go_wp2
    go_ret
    exact ⟨rfl, bel_alloc (Below.refl _ _) _⟩
  by_cases yb : b.size ≤ 1048576
  case neg =>
    go_enter Tryd.func5, Tryd.ntmps5
    go_wp2
    go_ret
    exact ⟨rfl, bel_alloc (Below.refl _ _) _⟩
  obtain ⟨x, y, ok, hv⟩ := ansCF_form h o a b
  have Hv := Lib.hid hv
  clear hv
  have bx0 := Lib.hid (Box2.new w (.int .i64 h) (.int .i64 o) 24)
  have bl0 : Below w.heap.size w (w.alloc (.cells #[.int .i64 h, .int .i64 o] 24)) := bel_alloc (Below.refl _ _) _
  go_enter Tryd.func5, Tryd.ntmps5
  go_wp2_with fail
  refine (toCoin_any _ _ _).mono ?_
  rintro e w1 ⟨rfl, hb1⟩
  have bx1 := Lib.hid (bx0.out.keep hb1)
  have bl1 := bel_trans bl0 hb1
  obtain ⟨c0_1, c1_1, hk1⟩ := bx1.out
  go_wp2_with fail
  refine (specCF_any h o a b _ za zb).mono ?_
  rintro e w2 ⟨rfl, hb2⟩
  rw [Hv.out]
  have bx2 := Lib.hid (bx1.out.keep hb2)
  have bl2 := bel_trans bl1 hb2
  obtain ⟨c0_2, c1_2, hk2⟩ := bx2.out
  go_wp2_with fail
  refine (toCoin_any _ _ _).mono ?_
  rintro e w3 ⟨rfl, hb3⟩
  have bx3 := Lib.hid (bx2.out.keep hb3)
  have bl3 := bel_trans bl2 hb3
  obtain ⟨c0_3, c1_3, hk3⟩ := bx3.out
  go_wp2_with fail
  refine (implCF_any h o a b _ za zb).mono ?_
  rintro e w4 ⟨rfl, hb4⟩
  rw [Hv.out]
  have bx4 := Lib.hid (bx3.out.keep hb4)
  have bl4 := bel_trans bl3 hb4
  obtain ⟨c0_4, c1_4, hk4⟩ := bx4.out
  go_wp2_with fail
  go_ret
  exact ⟨rfl, bl4⟩

set_option maxHeartbeats 800000 in
theorem walkExactMeanRace (h o : Int) (a : ByteArray) (b : ByteArray) (w : World) (ha : (Lit.int .i64 h).wf = true) (hb : (Lit.int .i64 o).wf = true) (za : a.size ≤ maxLen) (zb : b.size ≤ maxLen) :
    Calls Tryd.prog 6 #[cn h o, .string a, .string b] w fun e w' => e = .returned (.bool true) ∧ Below w.heap.size w w' := by
  clear ha hb
  by_cases ya : a.size ≤ 1048576
  case neg =>
    go_enter Tryd.func6, Tryd.ntmps6
    go_wp2
    go_ret
    exact ⟨rfl, bel_alloc (Below.refl _ _) _⟩
  by_cases yb : b.size ≤ 1048576
  case neg =>
    go_enter Tryd.func6, Tryd.ntmps6
    go_wp2
    go_ret
    exact ⟨rfl, bel_alloc (Below.refl _ _) _⟩
  obtain ⟨x, y, ok, hv⟩ := ansMR_form h o a b
  have Hv := Lib.hid hv
  clear hv
  have bx0 := Lib.hid (Box2.new w (.int .i64 h) (.int .i64 o) 24)
  have bl0 : Below w.heap.size w (w.alloc (.cells #[.int .i64 h, .int .i64 o] 24)) := bel_alloc (Below.refl _ _) _
  go_enter Tryd.func6, Tryd.ntmps6
  go_wp2_with fail
  refine (toCoin_any _ _ _).mono ?_
  rintro e w1 ⟨rfl, hb1⟩
  have bx1 := Lib.hid (bx0.out.keep hb1)
  have bl1 := bel_trans bl0 hb1
  obtain ⟨c0_1, c1_1, hk1⟩ := bx1.out
  go_wp2_with fail
  refine (specMR_any h o a b _ za zb).mono ?_
  rintro e w2 ⟨rfl, hb2⟩
  rw [Hv.out]
  have bx2 := Lib.hid (bx1.out.keep hb2)
  have bl2 := bel_trans bl1 hb2
  obtain ⟨c0_2, c1_2, hk2⟩ := bx2.out
  go_wp2_with fail
  refine (toCoin_any _ _ _).mono ?_
  rintro e w3 ⟨rfl, hb3⟩
  have bx3 := Lib.hid (bx2.out.keep hb3)
  have bl3 := bel_trans bl2 hb3
  obtain ⟨c0_3, c1_3, hk3⟩ := bx3.out
  go_wp2_with fail
  refine (implMR_any h o a b _ za zb).mono ?_
  rintro e w4 ⟨rfl, hb4⟩
  rw [Hv.out]
  have bx4 := Lib.hid (bx3.out.keep hb4)
  have bl4 := bel_trans bl3 hb4
  obtain ⟨c0_4, c1_4, hk4⟩ := bx4.out
  go_wp2_with fail
  go_ret
  exact ⟨rfl, bl4⟩

set_option maxHeartbeats 800000 in
theorem walkExactDoesBeat (h o : Int) (a : ByteArray) (b : ByteArray) (w : World) (ha : (Lit.int .i64 h).wf = true) (hb : (Lit.int .i64 o).wf = true) (za : a.size ≤ maxLen) (zb : b.size ≤ maxLen) :
    Calls Tryd.prog 8 #[cn h o, .string a, .string b] w fun e w' => e = .returned (.bool true) ∧ Below w.heap.size w w' := by
  clear ha hb
  by_cases ya : a.size ≤ 1048576
  case neg =>
    go_enter Tryd.func8, Tryd.ntmps8
    go_wp2
    go_ret
    exact ⟨rfl, bel_alloc (Below.refl _ _) _⟩
  by_cases yb : b.size ≤ 1048576
  case neg =>
    go_enter Tryd.func8, Tryd.ntmps8
    go_wp2
    go_ret
    exact ⟨rfl, bel_alloc (Below.refl _ _) _⟩
  obtain ⟨x, ok, hv⟩ := ansDB_form h o a b
  have Hv := Lib.hid hv
  clear hv
  have bx0 := Lib.hid (Box2.new w (.int .i64 h) (.int .i64 o) 24)
  have bl0 : Below w.heap.size w (w.alloc (.cells #[.int .i64 h, .int .i64 o] 24)) := bel_alloc (Below.refl _ _) _
  go_enter Tryd.func8, Tryd.ntmps8
  go_wp2_with fail
  refine (toCoin_any _ _ _).mono ?_
  rintro e w1 ⟨rfl, hb1⟩
  have bx1 := Lib.hid (bx0.out.keep hb1)
  have bl1 := bel_trans bl0 hb1
  obtain ⟨c0_1, c1_1, hk1⟩ := bx1.out
  go_wp2_with fail
  refine (specDB_any h o a b _ za zb).mono ?_
  rintro e w2 ⟨rfl, hb2⟩
  rw [Hv.out]
  have bx2 := Lib.hid (bx1.out.keep hb2)
  have bl2 := bel_trans bl1 hb2
  obtain ⟨c0_2, c1_2, hk2⟩ := bx2.out
  go_wp2_with fail
  refine (toCoin_any _ _ _).mono ?_
  rintro e w3 ⟨rfl, hb3⟩
  have bx3 := Lib.hid (bx2.out.keep hb3)
  have bl3 := bel_trans bl2 hb3
  obtain ⟨c0_3, c1_3, hk3⟩ := bx3.out
  go_wp2_with fail
  refine (implDB_any h o a b _ za zb).mono ?_
  rintro e w4 ⟨rfl, hb4⟩
  rw [Hv.out]
  have bx4 := Lib.hid (bx3.out.keep hb4)
  have bl4 := bel_trans bl3 hb4
  obtain ⟨c0_4, c1_4, hk4⟩ := bx4.out
  go_wp2_with fail
  go_ret
  exact ⟨rfl, bl4⟩
end Go.Proofs.YtjckmnbpfmcadabDoor
