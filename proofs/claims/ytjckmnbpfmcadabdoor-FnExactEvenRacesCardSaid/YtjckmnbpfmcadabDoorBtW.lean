/- BeatenBy and EvenRaces: the walks. -/
import Derived.Test.YtjckmnbpfmcadabDoorBtB
namespace Go.Proofs.YtjckmnbpfmcadabDoor
set_option linter.unusedSimpArgs false
open Go.ChangeShapes Go.WideShapes Go.ChangeAt Go.RowKit
set_option linter.unusedVariables false

set_option maxRecDepth 100000 in
set_option maxHeartbeats 3200000 in
theorem walkExactBeatenBy (h o : Int) (a : ByteArray) (w : World) (ha : (Lit.int .i64 h).wf = true) (hb : (Lit.int .i64 o).wf = true) (za : a.size ≤ maxLen) :
    Calls Tryd.prog 10 #[cn h o, .string a] w fun e w' => e = .returned (.bool true) ∧ Below w.heap.size w w' := by
  clear ha hb
  by_cases ya : a.size ≤ 1048576
  case neg =>
    go_enter Tryd.func10, Tryd.ntmps10
    go_wp2
    go_ret
    exact ⟨rfl, bel_alloc (Below.refl _ _) _⟩
  have hlen : (ansRW qBeat h o a).length ≤ 5000 := by have := ansRW_len qBeat h o a; omega
  generalize hxs : ansRW qBeat h o a = xs at *
  have Hxs := Lib.hid hxs
  clear hxs
  generalize hok : okRiv h o a = ok at *
  have Hok := Lib.hid hok
  clear hok
  have bx := Lib.hid (Box2.new w (.int .i64 h) (.int .i64 o) 24)
  have bl : Below w.heap.size w (w.alloc (.cells #[.int .i64 h, .int .i64 o] 24)) := bel_alloc (Below.refl _ _) _
  go_enter Tryd.func10, Tryd.ntmps10
  go_wp2_with fail
  refine (toCoin_any _ _ _).mono ?_
  rintro e wc1 ⟨rfl, hbc1⟩
  replace bx := Lib.hid (bx.out.keep hbc1)
  replace bl := bel_trans bl hbc1
  obtain ⟨c0, c1, hk⟩ := bx.out
  go_wp2_with fail
  clear c0 c1 hk
  refine (specBeatenBy_any h o a _ za).mono ?_
  rw [Hxs.out, Hok.out]
  rintro e w1 ⟨v0, rfl, r0, b1⟩
  have R0 := Lib.hid r0
  have s1 := b1.size
  replace bl := bel_trans bl b1
  replace bx := Lib.hid (bx.out.keep b1)
  obtain ⟨c0, c1, hk⟩ := bx.out
  clear r0 b1
  go_wp2_with fail
  refine (toCoin_any _ _ _).mono ?_
  rintro e wc2 ⟨rfl, hbc2⟩
  replace bx := Lib.hid (bx.out.keep hbc2)
  replace bl := bel_trans bl hbc2
  replace R0 := Lib.hid (R0.out.below hbc2)
  obtain ⟨c0, c1, hk⟩ := bx.out
  go_wp2_with fail
  clear c0 c1 hk
  refine (implBeatenBy_any h o a _ za).mono ?_
  rw [Hxs.out, Hok.out]
  rintro e w2 ⟨v1, rfl, r1, b2⟩
  have R1 := Lib.hid r1
  have R0b := R0
  have BX2 := bx
  have bl1 := bl
  replace R0 := Lib.hid (R0.out.below b2)
  replace bl := bel_trans bl b2
  replace bx := Lib.hid (bx.out.keep b2)
  obtain ⟨c0, c1, hk⟩ := bx.out
  clear r1
  go_wp2_with fail
  refine (eqStr_same xs v1 v0 _ _ _ R1.out R0.out).mono ?_
  rintro e w3 ⟨rfl, n3, rfl⟩
  go_wp2_with fail
  clear c0 c1 hk
  refine (markS_any xs v1 _ 1 _ (R1.out.drewN n3) (by omega) (by omega) b2.size).mono ?_
  rintro e w4 ⟨rfl, r4, g4⟩
  have R4 := Lib.hid r4
  clear r4
  have g4' : Below wc2.heap.size wc2 w4 := b2.trans (show Below wc2.heap.size w2 w4 from ⟨g4.os, g4.tape, g4.output, g4.size, g4.block⟩)
  replace bl := bel_trans bl1 g4'
  replace R0 := Lib.hid (R0b.out.below g4')
  clear R0b bl1
  have bx4 := Lib.hid ((BX2).out.keep g4')
  obtain ⟨c0, c1, hk⟩ := bx4.out
  go_wp2_with fail
  refine (heldS_any xs v1 _ 1 _ R4.out (by omega) (by omega)).mono ?_
  rintro e w5 ⟨rfl, b5⟩
  replace bl := bel_trans bl b5
  replace R0 := Lib.hid (R0.out.below b5)
  replace R4 := Lib.hid (R4.out.below b5)
  replace bx4 := Lib.hid (bx4.out.keep b5)
  clear c0 c1 hk
  obtain ⟨c0, c1, hk⟩ := bx4.out
  have t1 : decide ((1 : Int) + (xs.length : Int) < 0) = false := by simp; omega
  go_wp2_with fail
  refine (toCoin_any _ _ _).mono ?_
  rintro e wc3 ⟨rfl, hbc3⟩
  replace bl := bel_trans bl hbc3
  replace R0 := Lib.hid (R0.out.below hbc3)
  replace R4 := Lib.hid (R4.out.below hbc3)
  clear c0 c1 hk
  go_wp2_with fail
  refine (implBeatenBy_any h o a _ za).mono ?_
  rw [Hxs.out, Hok.out]
  rintro e w6 ⟨v2, rfl, r6, b6⟩
  have R2 := Lib.hid r6
  clear r6
  replace bl := bel_trans bl b6
  replace R0 := Lib.hid (R0.out.below b6)
  replace R4 := Lib.hid (R4.out.below b6)
  go_wp2_with fail
  refine (eqStr_same xs v2 v0 _ _ _ R2.out R0.out).mono ?_
  rintro e w7 ⟨rfl, n7, rfl⟩
  go_wp2_with fail
  refine (heldS_any xs v1 _ 1 _ (R4.out.drewN n7) (by omega) (by omega)).mono ?_
  rintro e w8 ⟨rfl, b8⟩
  replace bl := bel_trans (bel_drewN bl n7) b8
  go_wp2_with fail
  go_ret
  exact ⟨rfl, bl⟩

set_option maxRecDepth 100000 in
set_option maxHeartbeats 3200000 in
theorem walkExactEvenRaces (h o : Int) (a : ByteArray) (w : World) (ha : (Lit.int .i64 h).wf = true) (hb : (Lit.int .i64 o).wf = true) (za : a.size ≤ maxLen) :
    Calls Tryd.prog 11 #[cn h o, .string a] w fun e w' => e = .returned (.bool true) ∧ Below w.heap.size w w' := by
  clear ha hb
  by_cases ya : a.size ≤ 1048576
  case neg =>
    go_enter Tryd.func11, Tryd.ntmps11
    go_wp2
    go_ret
    exact ⟨rfl, bel_alloc (Below.refl _ _) _⟩
  have hlen : (ansRW qEven h o a).length ≤ 5000 := by have := ansRW_len qEven h o a; omega
  generalize hxs : ansRW qEven h o a = xs at *
  have Hxs := Lib.hid hxs
  clear hxs
  generalize hok : okRiv h o a = ok at *
  have Hok := Lib.hid hok
  clear hok
  have bx := Lib.hid (Box2.new w (.int .i64 h) (.int .i64 o) 24)
  have bl : Below w.heap.size w (w.alloc (.cells #[.int .i64 h, .int .i64 o] 24)) := bel_alloc (Below.refl _ _) _
  go_enter Tryd.func11, Tryd.ntmps11
  go_wp2_with fail
  refine (toCoin_any _ _ _).mono ?_
  rintro e wc1 ⟨rfl, hbc1⟩
  replace bx := Lib.hid (bx.out.keep hbc1)
  replace bl := bel_trans bl hbc1
  obtain ⟨c0, c1, hk⟩ := bx.out
  go_wp2_with fail
  clear c0 c1 hk
  refine (specEvenRaces_any h o a _ za).mono ?_
  rw [Hxs.out, Hok.out]
  rintro e w1 ⟨v0, rfl, r0, b1⟩
  have R0 := Lib.hid r0
  have s1 := b1.size
  replace bl := bel_trans bl b1
  replace bx := Lib.hid (bx.out.keep b1)
  obtain ⟨c0, c1, hk⟩ := bx.out
  clear r0 b1
  go_wp2_with fail
  refine (toCoin_any _ _ _).mono ?_
  rintro e wc2 ⟨rfl, hbc2⟩
  replace bx := Lib.hid (bx.out.keep hbc2)
  replace bl := bel_trans bl hbc2
  replace R0 := Lib.hid (R0.out.below hbc2)
  obtain ⟨c0, c1, hk⟩ := bx.out
  go_wp2_with fail
  clear c0 c1 hk
  refine (implEvenRaces_any h o a _ za).mono ?_
  rw [Hxs.out, Hok.out]
  rintro e w2 ⟨v1, rfl, r1, b2⟩
  have R1 := Lib.hid r1
  have R0b := R0
  have BX2 := bx
  have bl1 := bl
  replace R0 := Lib.hid (R0.out.below b2)
  replace bl := bel_trans bl b2
  replace bx := Lib.hid (bx.out.keep b2)
  obtain ⟨c0, c1, hk⟩ := bx.out
  clear r1
  go_wp2_with fail
  refine (eqStr_same xs v1 v0 _ _ _ R1.out R0.out).mono ?_
  rintro e w3 ⟨rfl, n3, rfl⟩
  go_wp2_with fail
  clear c0 c1 hk
  refine (markS_any xs v1 _ 1 _ (R1.out.drewN n3) (by omega) (by omega) b2.size).mono ?_
  rintro e w4 ⟨rfl, r4, g4⟩
  have R4 := Lib.hid r4
  clear r4
  have g4' : Below wc2.heap.size wc2 w4 := b2.trans (show Below wc2.heap.size w2 w4 from ⟨g4.os, g4.tape, g4.output, g4.size, g4.block⟩)
  replace bl := bel_trans bl1 g4'
  replace R0 := Lib.hid (R0b.out.below g4')
  clear R0b bl1
  have bx4 := Lib.hid ((BX2).out.keep g4')
  obtain ⟨c0, c1, hk⟩ := bx4.out
  go_wp2_with fail
  refine (heldS_any xs v1 _ 1 _ R4.out (by omega) (by omega)).mono ?_
  rintro e w5 ⟨rfl, b5⟩
  replace bl := bel_trans bl b5
  replace R0 := Lib.hid (R0.out.below b5)
  replace R4 := Lib.hid (R4.out.below b5)
  replace bx4 := Lib.hid (bx4.out.keep b5)
  clear c0 c1 hk
  obtain ⟨c0, c1, hk⟩ := bx4.out
  have t1 : decide ((1 : Int) + (xs.length : Int) < 0) = false := by simp; omega
  go_wp2_with fail
  refine (toCoin_any _ _ _).mono ?_
  rintro e wc3 ⟨rfl, hbc3⟩
  replace bl := bel_trans bl hbc3
  replace R0 := Lib.hid (R0.out.below hbc3)
  replace R4 := Lib.hid (R4.out.below hbc3)
  clear c0 c1 hk
  go_wp2_with fail
  refine (implEvenRaces_any h o a _ za).mono ?_
  rw [Hxs.out, Hok.out]
  rintro e w6 ⟨v2, rfl, r6, b6⟩
  have R2 := Lib.hid r6
  clear r6
  replace bl := bel_trans bl b6
  replace R0 := Lib.hid (R0.out.below b6)
  replace R4 := Lib.hid (R4.out.below b6)
  go_wp2_with fail
  refine (eqStr_same xs v2 v0 _ _ _ R2.out R0.out).mono ?_
  rintro e w7 ⟨rfl, n7, rfl⟩
  go_wp2_with fail
  refine (heldS_any xs v1 _ 1 _ (R4.out.drewN n7) (by omega) (by omega)).mono ?_
  rintro e w8 ⟨rfl, b8⟩
  replace bl := bel_trans (bel_drewN bl n7) b8
  go_wp2_with fail
  go_ret
  exact ⟨rfl, bl⟩

end Go.Proofs.YtjckmnbpfmcadabDoor
