/- OverlapsOf: the whole contracts, and the walk. -/
import Derived.Test.YtjckmnbpfmcadaaDoorOvl
namespace Go.Proofs.YtjckmnbpfmcadaaDoor
set_option linter.unusedSimpArgs false
open Go.ChangeShapes Go.WideShapes Go.ChangeAt Go.RowKit
set_option linter.unusedVariables false


def ansOvl (s : ByteArray) : List Int := if patG s then selR (ovlB s) 1 (s.size - 1) else []
theorem ansOvl_len (s : ByteArray) : (ansOvl s).length ≤ 1000 := by
  unfold ansOvl
  split
  · rename_i h
    have := selR_len (ovlB s) 1 (s.size - 1)
    have := (pat_in h).2.1
    omega
  · simp

set_option maxHeartbeats 800000 in
theorem specOverlaps_any (s : ByteArray) (w : World) (hs : s.size ≤ maxLen) :
    Calls Tryd.prog 17 #[.string s] w (RowAns (ansOvl s) (patG s) w) := by
  cases h1 : patG s
  · rw [show ansOvl s = [] from by unfold ansOvl; rw [h1]; rfl]
    go_enter Tryd.func17, Tryd.ntmps17
    go_wp2_with fail
    refine (ptGood_any s _ hs).mono ?_
    rintro e w1 ⟨rfl, rfl⟩
    rw [h1]
    go_wp2_with fail
    go_ret2
    exact ⟨_, rfl, IRow.nil _ _, Below.refl _ _⟩
  · rw [show ansOvl s = selR (ovlB s) 1 (s.size - 1) from by unfold ansOvl; rw [h1]; rfl]
    obtain ⟨p1, p2, p3⟩ := pat_in h1
    go_enter Tryd.func17, Tryd.ntmps17
    go_wp2_with fail
    refine (ptGood_any s _ hs).mono ?_
    rintro e w1 ⟨rfl, rfl⟩
    rw [h1]
    go_wp2_with fail
    refine (specOvl_any s _ p1 p2).mono ?_
    rintro e w2 ⟨v, rfl, r2, b2⟩
    go_wp2_with fail
    go_ret2
    exact ⟨_, rfl, r2, b2⟩

set_option maxHeartbeats 800000 in
theorem implOverlaps_any (s : ByteArray) (w : World) (hs : s.size ≤ maxLen) :
    Calls Tryd.prog 18 #[.string s] w (RowAns (ansOvl s) (patG s) w) := by
  cases h1 : patG s
  · rw [show ansOvl s = [] from by unfold ansOvl; rw [h1]; rfl]
    go_enter Tryd.func18, Tryd.ntmps18
    go_wp2_with fail
    refine (implIsPattern_any s _ hs).mono ?_
    rintro e w1 ⟨rfl, b1⟩
    rw [h1]
    go_wp2_with fail
    go_ret2
    exact ⟨_, rfl, IRow.nil _ _, b1⟩
  · rw [show ansOvl s = selR (ovlB s) 1 (s.size - 1) from by unfold ansOvl; rw [h1]; rfl]
    obtain ⟨p1, p2, p3⟩ := pat_in h1
    go_enter Tryd.func18, Tryd.ntmps18
    go_wp2_with fail
    refine (implIsPattern_any s _ hs).mono ?_
    rintro e w1 ⟨rfl, b1⟩
    rw [h1]
    go_wp2_with fail
    refine (implOvl_any s _ p1 p2).mono ?_
    rintro e w2 ⟨v, rfl, r2, b2⟩
    go_wp2_with fail
    go_ret2
    exact ⟨_, rfl, r2.mono b1.size, bel_trans b1 b2⟩

set_option maxHeartbeats 1600000 in
theorem walkExactOverlapsOf (s : ByteArray) (w : World) (hs : s.size ≤ maxLen) :
    Calls Tryd.prog 5 #[.string s] w fun e w' => e = .returned (.bool true) ∧ Below w.heap.size w w' := by
  by_cases z : s.size ≤ 1048576
  · have hlen : (ansOvl s).length ≤ 1000 := ansOvl_len s
    generalize hxs : ansOvl s = xs at *
    have Hxs := Lib.hid hxs
    clear hxs
    generalize hok : patG s = ok at *
    have Hok := Lib.hid hok
    clear hok
    go_enter Tryd.func5, Tryd.ntmps5
    go_wp2_with fail
    refine (specOverlaps_any s _ hs).mono ?_
    rw [Hxs.out, Hok.out]
    rintro e w1 ⟨v0, rfl, r0, bl1⟩
    have R0 := Lib.hid r0
    clear r0
    go_wp2_with fail
    refine (implOverlaps_any s _ hs).mono ?_
    rw [Hxs.out, Hok.out]
    rintro e w2 ⟨v1, rfl, r1, hb2⟩
    have R1 := Lib.hid r1
    clear r1
    have R0b := Lib.hid (R0.out.below hb2)
    have bl2 := bel_trans bl1 hb2
    go_wp2_with fail
    refine (eqInt_same xs v1 v0 _ _ _ R1.out R0b.out).mono ?_
    rintro e w3 ⟨rfl, n3, rfl⟩
    go_wp2_with fail
    refine (mark_any xs v1 _ 1 _ (R1.out.drewN n3) (by omega) (by omega)).mono ?_
    rintro e w4 ⟨rfl, r4, hg4⟩
    have R4 := Lib.hid r4
    clear r4
    have bl4 := bel_grown (bel_drewN bl2 n3) hg4 (R1.out.drewN n3) (Nat.le_trans bl1.size (Nat.le_refl _))
    have R0c := Lib.hid ((R0b.out.drewN n3).kept_by hg4 (R1.out.drewN n3) bl1.size (R0.out))
    go_wp2_with fail
    refine (held_any xs v1 _ 1 _ R4.out (by omega) (by omega)).mono ?_
    rintro e w5 ⟨rfl, n5, rfl⟩
    have t1 : decide ((1 : Int) + (xs.length : Int) < 0) = false := by simp; omega
    go_wp2_with fail
    refine (implOverlaps_any s _ hs).mono ?_
    rw [Hxs.out, Hok.out]
    rintro e w6 ⟨v2, rfl, r6, hb6⟩
    have R2 := Lib.hid r6
    clear r6
    have hb6b := bel_undrewN hb6
    have R0d := Lib.hid (R0c.out.below hb6b)
    have R1d := Lib.hid (R4.out.below hb6b)
    have bl6 := bel_trans bl4 hb6b
    go_wp2_with fail
    refine (eqInt_same xs v2 v0 _ _ _ R2.out R0d.out).mono ?_
    rintro e w7 ⟨rfl, n7, rfl⟩
    go_wp2_with fail
    refine (held_any xs v1 _ 1 _ (R1d.out.drewN n7) (by omega) (by omega)).mono ?_
    rintro e w8 ⟨rfl, n8, rfl⟩
    go_wp2_with fail
    go_ret
    refine ⟨rfl, ?_⟩
    repeat (first | assumption | with_reducible exact Below.refl _ _ | refine bel_alloc ?_ _ | refine bel_drewN ?_ _ | refine Below.drew ?_ | (refine Below.setCell ?_ (by simp) _) | (refine bel_trans ?_ (by assumption)))
  · go_enter Tryd.func5, Tryd.ntmps5
    go_wp2
    go_ret
    exact ⟨rfl, Below.refl _ _⟩

end Go.Proofs.YtjckmnbpfmcadaaDoor
