/- ChanceToGive, MeanTosses, MeanFair: the contracts of the program and of its model, and the walks. -/
import Derived.Test.YtnpghbbmhehnlaaPow
namespace Go.Proofs.Ytnpghbbmhehnlaa
open Go.ChangeShapes Go.WideShapes Go.ChangeAt Go.RowKit
set_option linter.unusedVariables false


def gv (h o : Int) : Int := 2 * h * (o - h)
def hv (h o : Int) : Int := h * (o - h)
def pr2 (o : Int) : Int := o * o
theorem gv_eq (h o : Int) : gv h o = 2 * hv h o := by unfold gv hv; rw [Int.mul_assoc]
theorem gv_in {h o : Int} (g : coinG h o = true) : 2 ≤ gv h o ∧ gv h o ≤ 200 ∧ 1 ≤ hv h o ∧ hv h o ≤ 100 ∧ 4 ≤ pr2 o ∧ pr2 o ≤ 100 := by
  obtain ⟨r1, r2, r3, r4⟩ := coin_in g
  have a1 := Int.mul_le_mul (show (1 : Int) ≤ h by omega) (show (1 : Int) ≤ o - h by omega) (by omega) (by omega)
  have a2 := Int.mul_le_mul (show h ≤ 10 by omega) (show o - h ≤ 10 by omega) (by omega) (by omega)
  have a3 := Int.mul_le_mul (show (2 : Int) ≤ o by omega) (show (2 : Int) ≤ o by omega) (by omega) (by omega)
  have a4 := Int.mul_le_mul (show o ≤ 10 by omega) (show o ≤ 10 by omega) (by omega) (by omega)
  have e := gv_eq h o
  have b1 : 1 ≤ hv h o := by unfold hv; omega
  have b2 : hv h o ≤ 100 := by unfold hv; omega
  refine ⟨by omega, by omega, b1, b2, by unfold pr2; omega, by unfold pr2; omega⟩
def ansGive (h o : Int) : Value := if coinG h o then lowV (gv h o) (pr2 o) else failV
theorem ansGive_form (h o : Int) : ∃ (x y : Int) (ok : Bool), ansGive h o = .tuple #[.int .i64 x, .int .i64 y, .bool ok] := if_form _ (lowV_form _ _) failV_form
def ansMT (h o : Int) : Value := if coinG h o then lowV (pr2 o) (hv h o) else failV
theorem ansMT_form (h o : Int) : ∃ (x y : Int) (ok : Bool), ansMT h o = .tuple #[.int .i64 x, .int .i64 y, .bool ok] := if_form _ (lowV_form _ _) failV_form
theorem mt_same {h o : Int} (g : coinG h o = true) : lowV (2 * pr2 o) (gv h o) = lowV (pr2 o) (hv h o) := by
  obtain ⟨_, _, a, b, c, d⟩ := gv_in g
  have e := gv_eq h o
  unfold lowV low
  obtain ⟨x, y⟩ := low_eq (2 * pr2 o) (gv h o) (pr2 o) (hv h o) (by omega) (by omega) (by omega) (by omega) (by rw [e, Int.mul_comm 2 (pr2 o), Int.mul_assoc])
  rw [x, y]

theorem pairs_any (h o : Int) (w : World) (g : coinG h o = true) :
    Calls Try.prog 24 #[cn h o] w fun e w' => e = .returned (.int .i64 (pr2 o)) ∧ Below w.heap.size w w' := by
  obtain ⟨_, _, _, _, c, d⟩ := gv_in g
  have hw : IntKind.i64.wrap (o * o) = pr2 o := IntWalk.i64_in _ (by show -9223372036854775808 ≤ pr2 o ∧ pr2 o ≤ 9223372036854775807; omega)
  go_enter Try.func24, Try.ntmps24
  go_wp2
  go_ret
  exact ⟨rfl, bel_alloc (Below.refl _ _) _⟩

set_option maxHeartbeats 1600000 in
theorem giving_any (h o : Int) (w : World) (g : coinG h o = true) :
    Calls Try.prog 23 #[cn h o] w fun e w' => e = .returned (.int .i64 (gv h o)) ∧ Below w.heap.size w w' := by
  obtain ⟨r1, r2, r3, r4⟩ := coin_in g
  obtain ⟨g1, g2, _⟩ := gv_in g
  have bx := Lib.hid (Box2.new w (.int .i64 h) (.int .i64 o) 26)
  have bl := bel_alloc (Below.refl _ w) (.cells #[.int .i64 h, .int .i64 o] 26)
  have hw1 : IntKind.i64.wrap (2 * h) = 2 * h := IntWalk.i64_in _ (by omega)
  have hw2 : IntKind.i64.wrap (2 * h * (o - h)) = gv h o := IntWalk.i64_in _ (by show -9223372036854775808 ≤ gv h o ∧ gv h o ≤ 9223372036854775807; omega)
  go_enter Try.func23, Try.ntmps23
  go_wp2_with fail
  go_region_held3 (fun w' => w'.cell? ⟨w.heap.size, 0, none⟩ = some (.int .i64 h) ∧ w'.cell? ⟨w.heap.size, 1, none⟩ = some (.int .i64 o) ∧ w.heap.size < w'.heap.size ∧ Below w.heap.size w w')
    (first | exact held2_start bx.out bl | exact held2_keep (by assumption) hb5 | exact held2_drewN (by assumption) _ | assumption | go_keep)
    (first | (go_at_call 32; refine (tails_any h o _ g).mono ?_; rintro e w5 ⟨rfl, hb5⟩))
  all_goals
    obtain ⟨hbx9, hbl9⟩ := held2_below (by assumption)
    clear hbx9
    go_wp2
    go_ret
    exact ⟨rfl, hbl9⟩

set_option maxHeartbeats 1600000 in
theorem specGive_any (h o : Int) (w : World) :
    Calls Try.prog 8 #[cn h o] w fun e w' => e = .returned (ansGive h o) ∧ Below w.heap.size w w' := by
  have bx0 := Lib.hid (Box2.new w (.int .i64 h) (.int .i64 o) 26)
  have bl0 : Below w.heap.size w (w.alloc (.cells #[.int .i64 h, .int .i64 o] 26)) := bel_alloc (Below.refl _ _) _
  cases h1 : coinG h o
  · rw [show ansGive h o = failV from by unfold ansGive; rw [h1]; rfl]
    unfold failV
    go_enter Try.func8, Try.ntmps8
    go_wp2_with fail
    refine (ptCoin_any h o _).mono ?_
    rintro e w1 ⟨rfl, hb1⟩
    rw [h1]
    have bx1 := Lib.hid (bx0.out.keep hb1)
    have bl1 := bel_trans bl0 hb1
    obtain ⟨c0_1, c1_1, hk1⟩ := bx1.out
    go_wp2_with fail
    go_ret3
    exact ⟨rfl, bl1⟩
  · rw [show ansGive h o = lowV (gv h o) (pr2 o) from by unfold ansGive; rw [h1]; rfl]
    unfold lowV
    obtain ⟨r1, r2, r3, r4⟩ := coin_in h1
    obtain ⟨g1, g2, g4, g5, g6, g7⟩ := gv_in h1
    go_enter Try.func8, Try.ntmps8
    go_wp2_with fail
    refine (ptCoin_any h o _).mono ?_
    rintro e w1 ⟨rfl, hb1⟩
    rw [h1]
    have bx1 := Lib.hid (bx0.out.keep hb1)
    have bl1 := bel_trans bl0 hb1
    obtain ⟨c0_1, c1_1, hk1⟩ := bx1.out
    have hw2 : IntKind.i64.wrap (2 * h * (o - h)) = gv h o := IntWalk.i64_in _ (by show -9223372036854775808 ≤ gv h o ∧ gv h o ≤ 9223372036854775807; omega)
    have hw3 : IntKind.i64.wrap (o * o) = pr2 o := IntWalk.i64_in _ (by show -9223372036854775808 ≤ pr2 o ∧ pr2 o ≤ 9223372036854775807; omega)
    go_wp2_with fail
    refine (cnLow_any (gv h o) (pr2 o) _ (by omega) (by omega) (by omega) (by omega)).mono ?_
    rintro e w2 ⟨rfl, n2, rfl⟩
    go_wp2_with fail
    go_ret3
    exact ⟨rfl, bel_drewN bl1 n2⟩

set_option maxHeartbeats 1600000 in
theorem implGive_any (h o : Int) (w : World) :
    Calls Try.prog 10 #[cn h o] w fun e w' => e = .returned (ansGive h o) ∧ Below w.heap.size w w' := by
  have bx0 := Lib.hid (Box2.new w (.int .i64 h) (.int .i64 o) 26)
  have bl0 : Below w.heap.size w (w.alloc (.cells #[.int .i64 h, .int .i64 o] 26)) := bel_alloc (Below.refl _ _) _
  cases h1 : coinG h o
  · rw [show ansGive h o = failV from by unfold ansGive; rw [h1]; rfl]
    unfold failV
    go_enter Try.func10, Try.ntmps10
    go_wp2_with fail
    refine (implIsCoin_any h o _).mono ?_
    rintro e w1 ⟨rfl, hb1⟩
    rw [h1]
    have bx1 := Lib.hid (bx0.out.keep hb1)
    have bl1 := bel_trans bl0 hb1
    obtain ⟨c0_1, c1_1, hk1⟩ := bx1.out
    go_wp2_with fail
    go_ret3
    exact ⟨rfl, bl1⟩
  · rw [show ansGive h o = lowV (gv h o) (pr2 o) from by unfold ansGive; rw [h1]; rfl]
    unfold lowV
    obtain ⟨r1, r2, r3, r4⟩ := coin_in h1
    obtain ⟨g1, g2, g4, g5, g6, g7⟩ := gv_in h1
    go_enter Try.func10, Try.ntmps10
    go_wp2_with fail
    refine (implIsCoin_any h o _).mono ?_
    rintro e w1 ⟨rfl, hb1⟩
    rw [h1]
    have bx1 := Lib.hid (bx0.out.keep hb1)
    have bl1 := bel_trans bl0 hb1
    obtain ⟨c0_1, c1_1, hk1⟩ := bx1.out
    go_wp2_with fail
    go_region_held3 (fun w' => w'.cell? ⟨w.heap.size, 0, none⟩ = some (.int .i64 h) ∧ w'.cell? ⟨w.heap.size, 1, none⟩ = some (.int .i64 o) ∧ w.heap.size < w'.heap.size ∧ Below w.heap.size w w')
      (first | exact held2_start bx1.out bl1 | exact held2_keep (by assumption) hb3 | exact held2_keep (by assumption) hb4 | exact held2_drewN (by assumption) _ | assumption | go_keep)
      (first | (go_at_call 23; refine (giving_any h o _ h1).mono ?_; rintro e w3 ⟨rfl, hb3⟩) | (go_at_call 24; refine (pairs_any h o _ h1).mono ?_; rintro e w4 ⟨rfl, hb4⟩) | (go_at_call 22; refine (told_any (gv h o) (pr2 o) _ (by omega) (by omega) (by omega) (by omega)).mono ?_; rintro e w5 ⟨rfl, n5, rfl⟩))
    all_goals
      obtain ⟨hbx9, hbl9⟩ := held2_below (by assumption)
      go_wp2
      go_ret3
      exact ⟨rfl, hbl9⟩

set_option maxHeartbeats 1600000 in
theorem specMT_any (h o : Int) (w : World) :
    Calls Try.prog 11 #[cn h o] w fun e w' => e = .returned (ansMT h o) ∧ Below w.heap.size w w' := by
  have bx0 := Lib.hid (Box2.new w (.int .i64 h) (.int .i64 o) 26)
  have bl0 : Below w.heap.size w (w.alloc (.cells #[.int .i64 h, .int .i64 o] 26)) := bel_alloc (Below.refl _ _) _
  cases h1 : coinG h o
  · rw [show ansMT h o = failV from by unfold ansMT; rw [h1]; rfl]
    unfold failV
    go_enter Try.func11, Try.ntmps11
    go_wp2_with fail
    refine (ptCoin_any h o _).mono ?_
    rintro e w1 ⟨rfl, hb1⟩
    rw [h1]
    have bx1 := Lib.hid (bx0.out.keep hb1)
    have bl1 := bel_trans bl0 hb1
    obtain ⟨c0_1, c1_1, hk1⟩ := bx1.out
    go_wp2_with fail
    go_ret3
    exact ⟨rfl, bl1⟩
  · rw [show ansMT h o = lowV (pr2 o) (hv h o) from by unfold ansMT; rw [h1]; rfl]
    unfold lowV
    obtain ⟨r1, r2, r3, r4⟩ := coin_in h1
    obtain ⟨g1, g2, g4, g5, g6, g7⟩ := gv_in h1
    go_enter Try.func11, Try.ntmps11
    go_wp2_with fail
    refine (ptCoin_any h o _).mono ?_
    rintro e w1 ⟨rfl, hb1⟩
    rw [h1]
    have bx1 := Lib.hid (bx0.out.keep hb1)
    have bl1 := bel_trans bl0 hb1
    obtain ⟨c0_1, c1_1, hk1⟩ := bx1.out
    have hw2 : IntKind.i64.wrap (h * (o - h)) = hv h o := IntWalk.i64_in _ (by show -9223372036854775808 ≤ hv h o ∧ hv h o ≤ 9223372036854775807; omega)
    have hw3 : IntKind.i64.wrap (o * o) = pr2 o := IntWalk.i64_in _ (by show -9223372036854775808 ≤ pr2 o ∧ pr2 o ≤ 9223372036854775807; omega)
    go_wp2_with fail
    refine (cnLow_any (pr2 o) (hv h o) _ (by omega) (by omega) (by omega) (by omega)).mono ?_
    rintro e w2 ⟨rfl, n2, rfl⟩
    go_wp2_with fail
    go_ret3
    exact ⟨rfl, bel_drewN bl1 n2⟩

set_option maxHeartbeats 1600000 in
theorem implMT_any (h o : Int) (w : World) :
    Calls Try.prog 12 #[cn h o] w fun e w' => e = .returned (ansMT h o) ∧ Below w.heap.size w w' := by
  have bx0 := Lib.hid (Box2.new w (.int .i64 h) (.int .i64 o) 26)
  have bl0 : Below w.heap.size w (w.alloc (.cells #[.int .i64 h, .int .i64 o] 26)) := bel_alloc (Below.refl _ _) _
  cases h1 : coinG h o
  · rw [show ansMT h o = failV from by unfold ansMT; rw [h1]; rfl]
    unfold failV
    go_enter Try.func12, Try.ntmps12
    go_wp2_with fail
    refine (implIsCoin_any h o _).mono ?_
    rintro e w1 ⟨rfl, hb1⟩
    rw [h1]
    have bx1 := Lib.hid (bx0.out.keep hb1)
    have bl1 := bel_trans bl0 hb1
    obtain ⟨c0_1, c1_1, hk1⟩ := bx1.out
    go_wp2_with fail
    go_ret3
    exact ⟨rfl, bl1⟩
  · rw [show ansMT h o = lowV (2 * pr2 o) (gv h o) from by rw [mt_same h1]; unfold ansMT; rw [h1]; rfl]
    unfold lowV
    obtain ⟨r1, r2, r3, r4⟩ := coin_in h1
    obtain ⟨g1, g2, g4, g5, g6, g7⟩ := gv_in h1
    go_enter Try.func12, Try.ntmps12
    go_wp2_with fail
    refine (implIsCoin_any h o _).mono ?_
    rintro e w1 ⟨rfl, hb1⟩
    rw [h1]
    have bx1 := Lib.hid (bx0.out.keep hb1)
    have bl1 := bel_trans bl0 hb1
    obtain ⟨c0_1, c1_1, hk1⟩ := bx1.out
    have hw2 : IntKind.i64.wrap (2 * pr2 o) = 2 * pr2 o := IntWalk.i64_in _ (by show -9223372036854775808 ≤ 2 * pr2 o ∧ 2 * pr2 o ≤ 9223372036854775807; omega)
    go_wp2_with fail
    go_region_held3 (fun w' => w'.cell? ⟨w.heap.size, 0, none⟩ = some (.int .i64 h) ∧ w'.cell? ⟨w.heap.size, 1, none⟩ = some (.int .i64 o) ∧ w.heap.size < w'.heap.size ∧ Below w.heap.size w w')
      (first | exact held2_start bx1.out bl1 | exact held2_keep (by assumption) hb3 | exact held2_keep (by assumption) hb4 | exact held2_drewN (by assumption) _ | assumption | go_keep)
      (first | (go_at_call 23; refine (giving_any h o _ h1).mono ?_; rintro e w3 ⟨rfl, hb3⟩) | (go_at_call 24; refine (pairs_any h o _ h1).mono ?_; rintro e w4 ⟨rfl, hb4⟩) | (go_at_call 22; refine (told_any (2 * pr2 o) (gv h o) _ (by omega) (by omega) (by omega) (by omega)).mono ?_; rintro e w5 ⟨rfl, n5, rfl⟩))
    all_goals
      obtain ⟨hbx9, hbl9⟩ := held2_below (by assumption)
      go_wp2
      go_ret3
      exact ⟨rfl, hbl9⟩

set_option maxHeartbeats 800000 in
theorem walkExactChanceToGive (h o : Int)  (w : World) (ha : (Lit.int .i64 h).wf = true) (hb : (Lit.int .i64 o).wf = true)  :
    Calls Try.prog 3 #[cn h o] w fun e w' => e = .returned (.bool true) ∧ Below w.heap.size w w' := by
  clear ha hb
  obtain ⟨x, y, ok, hv⟩ := ansGive_form h o
  have Hv := Lib.hid hv
  clear hv
  have bx0 := Lib.hid (Box2.new w (.int .i64 h) (.int .i64 o) 23)
  have bl0 : Below w.heap.size w (w.alloc (.cells #[.int .i64 h, .int .i64 o] 23)) := bel_alloc (Below.refl _ _) _
  go_enter Try.func3, Try.ntmps3
  go_wp2_with fail
  refine (toCoin_any _ _ _).mono ?_
  rintro e w1 ⟨rfl, hb1⟩
  have bx1 := Lib.hid (bx0.out.keep hb1)
  have bl1 := bel_trans bl0 hb1
  obtain ⟨c0_1, c1_1, hk1⟩ := bx1.out
  go_wp2_with fail
  refine (specGive_any h o _ ).mono ?_
  rintro e w2 ⟨rfl, hb2⟩
  rw [Hv.out]
  have bx2 := Lib.hid (bx1.out.keep hb2)
  have bl2 := bel_trans bl1 hb2
  obtain ⟨c0_2, c1_2, hk2⟩ := bx2.out
  go_wp2_with fail
  refine (toCoin_any _ _ _).mono ?_
  rintro e w3 ⟨rfl, hb3⟩
  have bx3 := Lib.hid (bx2.out.keep hb3)
  have bl3 := bel_trans bl2 hb3
  obtain ⟨c0_3, c1_3, hk3⟩ := bx3.out
  go_wp2_with fail
  refine (implGive_any h o _ ).mono ?_
  rintro e w4 ⟨rfl, hb4⟩
  rw [Hv.out]
  have bx4 := Lib.hid (bx3.out.keep hb4)
  have bl4 := bel_trans bl3 hb4
  obtain ⟨c0_4, c1_4, hk4⟩ := bx4.out
  go_wp2_with fail
  go_ret
  exact ⟨rfl, bl4⟩

set_option maxHeartbeats 800000 in
theorem walkExactMeanTosses (h o : Int)  (w : World) (ha : (Lit.int .i64 h).wf = true) (hb : (Lit.int .i64 o).wf = true)  :
    Calls Try.prog 4 #[cn h o] w fun e w' => e = .returned (.bool true) ∧ Below w.heap.size w w' := by
  clear ha hb
  obtain ⟨x, y, ok, hv⟩ := ansMT_form h o
  have Hv := Lib.hid hv
  clear hv
  have bx0 := Lib.hid (Box2.new w (.int .i64 h) (.int .i64 o) 23)
  have bl0 : Below w.heap.size w (w.alloc (.cells #[.int .i64 h, .int .i64 o] 23)) := bel_alloc (Below.refl _ _) _
  go_enter Try.func4, Try.ntmps4
  go_wp2_with fail
  refine (toCoin_any _ _ _).mono ?_
  rintro e w1 ⟨rfl, hb1⟩
  have bx1 := Lib.hid (bx0.out.keep hb1)
  have bl1 := bel_trans bl0 hb1
  obtain ⟨c0_1, c1_1, hk1⟩ := bx1.out
  go_wp2_with fail
  refine (specMT_any h o _ ).mono ?_
  rintro e w2 ⟨rfl, hb2⟩
  rw [Hv.out]
  have bx2 := Lib.hid (bx1.out.keep hb2)
  have bl2 := bel_trans bl1 hb2
  obtain ⟨c0_2, c1_2, hk2⟩ := bx2.out
  go_wp2_with fail
  refine (toCoin_any _ _ _).mono ?_
  rintro e w3 ⟨rfl, hb3⟩
  have bx3 := Lib.hid (bx2.out.keep hb3)
  have bl3 := bel_trans bl2 hb3
  obtain ⟨c0_3, c1_3, hk3⟩ := bx3.out
  go_wp2_with fail
  refine (implMT_any h o _ ).mono ?_
  rintro e w4 ⟨rfl, hb4⟩
  rw [Hv.out]
  have bx4 := Lib.hid (bx3.out.keep hb4)
  have bl4 := bel_trans bl3 hb4
  obtain ⟨c0_4, c1_4, hk4⟩ := bx4.out
  go_wp2_with fail
  go_ret
  exact ⟨rfl, bl4⟩

end Go.Proofs.Ytnpghbbmhehnlaa
