/- AllWithout: the walk through the law. -/
import Derived.Test.YtbfgieolehbedaaDoorAwI
namespace Go.Proofs.YtbfgieolehbedaaDoor
set_option linter.unusedSimpArgs false
open Go.ChangeShapes Go.WideShapes Go.ChangeAt Go.RowKit
set_option linter.unusedVariables false

set_option maxRecDepth 100000 in
set_option maxHeartbeats 3200000 in
theorem walkExactAllWithout (p : ByteArray) (n : Int) (w : World) (hMl : MLen w) (hs : p.size ≤ maxLen) (hn : (Lit.int .i64 n).wf = true) :
    Calls Tryd.prog 4 #[.string p, .int .i64 n] w fun e w' => e = .returned (.bool true) ∧ Below w.heap.size w w' := by
  clear hn
  have hM := Lib.hid hMl
  clear hMl
  by_cases z : p.size ≤ 1048576
  · skip
    have hlen : (ansAW p n).length ≤ 200 := ansAW_len p n
    generalize hxs : ansAW p n = xs at *
    have Hxs := Lib.hid hxs
    clear hxs
    generalize hok : okAW p n = ok at *
    have Hok := Lib.hid hok
    clear hok
    go_enter Tryd.func4, Tryd.ntmps4
    go_wp2_with fail
    refine (specAW_any p n _ hs).mono ?_
    rw [Hxs.out, Hok.out]
    rintro e w1 ⟨v0, rfl, r0, b1⟩
    have R0 := Lib.hid r0
    have s1 := b1.size
    have bl := b1
    clear r0 b1
    go_wp2_with fail
    refine (implAW_any p n _ (hM.out.keep bl) hs).mono ?_
    rw [Hxs.out, Hok.out]
    rintro e w2 ⟨v1, rfl, r1, b2⟩
    have R1 := Lib.hid r1
    have R0b := R0
    have bl1 := bl
    replace R0 := Lib.hid (R0.out.below b2)
    replace bl := bel_trans bl b2
    clear r1
    go_wp2_with fail
    refine (eqStr_same xs v1 v0 _ _ _ R1.out R0.out).mono ?_
    rintro e w3 ⟨rfl, n3, rfl⟩
    go_wp2_with fail
    refine (markS_any xs v1 _ 1 _ (R1.out.drewN n3) (by omega) (by omega) b2.size).mono ?_
    rintro e w4 ⟨rfl, r4, g4⟩
    have R4 := Lib.hid r4
    clear r4
    have g4' : Below w1.heap.size w1 w4 := b2.trans (show Below w1.heap.size w2 w4 from ⟨g4.os, g4.tape, g4.output, g4.size, g4.block⟩)
    replace bl := bel_trans bl1 g4'
    replace R0 := Lib.hid (R0b.out.below g4')
    clear R0b bl1
    go_wp2_with fail
    refine (heldS_any xs v1 _ 1 _ R4.out (by omega) (by omega)).mono ?_
    rintro e w5 ⟨rfl, b5⟩
    replace bl := bel_trans bl b5
    replace R0 := Lib.hid (R0.out.below b5)
    replace R4 := Lib.hid (R4.out.below b5)
    have t1 : decide ((1 : Int) + (xs.length : Int) < 0) = false := by simp; omega
    go_wp2_with fail
    refine (implAW_any p n _ (hM.out.keep bl) hs).mono ?_
    rw [Hxs.out, Hok.out]
    rintro e w6 ⟨v2, rfl, r6, b6⟩
    have R2 := Lib.hid r6
    clear r6
    replace bl := bel_trans bl b6
    replace R0 := Lib.hid (R0.out.below b6)
    replace R4 := Lib.hid (R4.out.below b6)
    go_wp2_with fail
    refine (eqStr_same xs v2 v0 _ _ _ R2.out R0.out).mono ?_
    rintro e w7 ⟨rfl, n7, rfl⟩
    go_wp2_with fail
    refine (heldS_any xs v1 _ 1 _ (R4.out.drewN n7) (by omega) (by omega)).mono ?_
    rintro e w8 ⟨rfl, b8⟩
    replace bl := bel_trans (bel_drewN bl n7) b8
    go_wp2_with fail
    go_ret
    exact ⟨rfl, bl⟩
  · go_enter Tryd.func4, Tryd.ntmps4
    go_wp2
    go_ret
    exact ⟨rfl, Below.refl _ _⟩
end Go.Proofs.YtbfgieolehbedaaDoor
