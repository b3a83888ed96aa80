/- MeanFair: the contracts of the program and of its model, and the walk. -/
import Derived.Test.YtnpghbbmhehnlaaFr1
namespace Go.Proofs.Ytnpghbbmhehnlaa
open Go.ChangeShapes Go.WideShapes Go.ChangeAt Go.RowKit
set_option linter.unusedVariables false


def ansMF (h o n : Int) : Value := if coinG h o && inB n 0 200 then lowV (n / 2 * gv h o) (pr2 o) else failV
theorem ansMF_form (h o n : Int) : ∃ (x y : Int) (ok : Bool), ansMF h o n = .tuple #[.int .i64 x, .int .i64 y, .bool ok] := if_form _ (lowV_form _ _) failV_form
theorem mf_in {h o n : Int} (g : coinG h o = true) (h0 : 0 ≤ n) (h2 : n ≤ 200) : 0 ≤ n / 2 * gv h o ∧ n / 2 * gv h o ≤ 20000 := by
  obtain ⟨a, b, _⟩ := gv_in g
  constructor
  · exact Int.mul_nonneg (by omega) (by omega)
  · have := Int.mul_le_mul (show n / 2 ≤ 100 by omega) b (by omega) (by omega)
    omega
theorem mf_in1 {h o n : Int} (g : coinG h o = true) (h0 : 0 ≤ n) (h2 : n ≤ 200) : 0 ≤ n / 2 * 2 * h ∧ n / 2 * 2 * h ≤ 20000 := by
  obtain ⟨r1, r2, r3, r4⟩ := coin_in g
  constructor
  · exact Int.mul_nonneg (by omega) (by omega)
  · have := Int.mul_le_mul (show n / 2 * 2 ≤ 200 by omega) (show h ≤ 10 by omega) (by omega) (by omega)
    omega
theorem mf_eq (h o n : Int) : n / 2 * 2 * h * (o - h) = n / 2 * gv h o := by
  unfold gv
  rw [Int.mul_assoc (n / 2), Int.mul_assoc (n / 2)]

set_option maxHeartbeats 1600000 in
theorem specMF_any (h o n : Int) (w : World) :
    Calls Try.prog 13 #[cn h o, .int .i64 n] w fun e w' => e = .returned (ansMF h o n) ∧ Below w.heap.size w w' := by
  have bx0 := Lib.hid (Box2.new w (.int .i64 h) (.int .i64 o) 26)
  have bl0 : Below w.heap.size w (w.alloc (.cells #[.int .i64 h, .int .i64 o] 26)) := bel_alloc (Below.refl _ _) _
  cases h1 : coinG h o
  · rw [show ansMF h o n = failV from by unfold ansMF; rw [h1]; rfl]
    unfold failV
    go_enter Try.func13, Try.ntmps13
    go_wp2_with fail
    refine (ptCoin_any h o _).mono ?_
    rintro e w1 ⟨rfl, hb1⟩
    rw [h1]
    have bx1 := Lib.hid (bx0.out.keep hb1)
    have bl1 := bel_trans bl0 hb1
    obtain ⟨c0_1, c1_1, hk1⟩ := bx1.out
    go_wp2_with fail
    go_ret3
    exact ⟨rfl, bl1⟩
  · cases h2 : inB n 0 200
    · rw [show ansMF h o n = failV from by unfold ansMF; rw [h1, h2]; rfl]
      unfold failV
      go_enter Try.func13, Try.ntmps13
      go_wp2_with fail
      refine (ptCoin_any h o _).mono ?_
      rintro e w1 ⟨rfl, hb1⟩
      rw [h1]
      have bx1 := Lib.hid (bx0.out.keep hb1)
      have bl1 := bel_trans bl0 hb1
      obtain ⟨c0_1, c1_1, hk1⟩ := bx1.out
      go_wp2_with fail
      refine (l1In_any _ _ _ _).mono ?_
      rintro e w2 ⟨rfl, rfl⟩
      rw [h2]
      go_wp2_with fail
      go_ret3
      exact ⟨rfl, bl1⟩
    · rw [show ansMF h o n = lowV (n / 2 * gv h o) (pr2 o) from by unfold ansMF; rw [h1, h2]; rfl]
      unfold lowV
      obtain ⟨r1, r2, r3, r4⟩ := coin_in h1
      obtain ⟨g1, g2, g4, g5, g6, g7⟩ := gv_in h1
      obtain ⟨n0, n1⟩ := (inB_iff _ _ _).1 h2
      obtain ⟨m0, m1⟩ := mf_in h1 n0 n1
      obtain ⟨m2, m3⟩ := mf_in1 h1 n0 n1
      go_enter Try.func13, Try.ntmps13
      go_wp2_with fail
      refine (ptCoin_any h o _).mono ?_
      rintro e w1 ⟨rfl, hb1⟩
      rw [h1]
      have bx1 := Lib.hid (bx0.out.keep hb1)
      have bl1 := bel_trans bl0 hb1
      obtain ⟨c0_1, c1_1, hk1⟩ := bx1.out
      go_wp2_with fail
      refine (l1In_any _ _ _ _).mono ?_
      rintro e w2 ⟨rfl, rfl⟩
      rw [h2]
      have hw5 : IntKind.i64.wrap (n / 2 * 2 * h) = n / 2 * 2 * h := IntWalk.i64_in _ (by omega)
      have hw6 : IntKind.i64.wrap (n / 2 * 2 * h * (o - h)) = n / 2 * gv h o := by rw [mf_eq]; exact IntWalk.i64_in _ (by omega)
      have hw3 : IntKind.i64.wrap (o * o) = pr2 o := IntWalk.i64_in _ (by show -9223372036854775808 ≤ pr2 o ∧ pr2 o ≤ 9223372036854775807; omega)
      go_wp2_with fail
      refine (cnLow_any (n / 2 * gv h o) (pr2 o) _ (by omega) (by omega) (by omega) (by omega)).mono ?_
      rintro e w2 ⟨rfl, n2, rfl⟩
      go_wp2_with fail
      go_ret3
      exact ⟨rfl, bel_drewN bl1 n2⟩

set_option maxHeartbeats 1600000 in
theorem implMF_any (h o n : Int) (w : World) :
    Calls Try.prog 14 #[cn h o, .int .i64 n] w fun e w' => e = .returned (ansMF h o n) ∧ Below w.heap.size w w' := by
  have bx0 := Lib.hid (Box2.new w (.int .i64 h) (.int .i64 o) 26)
  have bl0 : Below w.heap.size w (w.alloc (.cells #[.int .i64 h, .int .i64 o] 26)) := bel_alloc (Below.refl _ _) _
  cases h1 : coinG h o
  · rw [show ansMF h o n = failV from by unfold ansMF; rw [h1]; rfl]
    unfold failV
    go_enter Try.func14, Try.ntmps14
    go_wp2_with fail
    refine (implIsCoin_any h o _).mono ?_
    rintro e w1 ⟨rfl, hb1⟩
    rw [h1]
    have bx1 := Lib.hid (bx0.out.keep hb1)
    have bl1 := bel_trans bl0 hb1
    obtain ⟨c0_1, c1_1, hk1⟩ := bx1.out
    go_wp2_with fail
    go_ret3
    exact ⟨rfl, bl1⟩
  · cases h2 : inB n 0 200
    · rw [show ansMF h o n = failV from by unfold ansMF; rw [h1, h2]; rfl]
      unfold failV
      have hn : ¬ (0 ≤ n ∧ n ≤ 200) := fun q => by rw [(inB_iff _ _ _).2 q] at h2; cases h2
      by_cases hn0 : n < 0
      · skip
        go_enter Try.func14, Try.ntmps14
        go_wp2_with fail
        refine (implIsCoin_any h o _).mono ?_
        rintro e w1 ⟨rfl, hb1⟩
        rw [h1]
        have bx1 := Lib.hid (bx0.out.keep hb1)
        have bl1 := bel_trans bl0 hb1
        obtain ⟨c0_1, c1_1, hk1⟩ := bx1.out
        go_wp2_with fail
        go_ret3
        exact ⟨rfl, bl1⟩
      · have hn4 : 200 < n := by omega
        go_enter Try.func14, Try.ntmps14
        go_wp2_with fail
        refine (implIsCoin_any h o _).mono ?_
        rintro e w1 ⟨rfl, hb1⟩
        rw [h1]
        have bx1 := Lib.hid (bx0.out.keep hb1)
        have bl1 := bel_trans bl0 hb1
        obtain ⟨c0_1, c1_1, hk1⟩ := bx1.out
        go_wp2_with fail
        go_ret3
        exact ⟨rfl, bl1⟩
    · rw [show ansMF h o n = lowV (n / 2 * gv h o) (pr2 o) from by unfold ansMF; rw [h1, h2]; rfl]
      unfold lowV
      obtain ⟨r1, r2, r3, r4⟩ := coin_in h1
      obtain ⟨g1, g2, g4, g5, g6, g7⟩ := gv_in h1
      obtain ⟨n0, n1⟩ := (inB_iff _ _ _).1 h2
      obtain ⟨m0, m1⟩ := mf_in h1 n0 n1
      obtain ⟨m2, m3⟩ := mf_in1 h1 n0 n1
      go_enter Try.func14, Try.ntmps14
      go_wp2_with fail
      refine (implIsCoin_any h o _).mono ?_
      rintro e w1 ⟨rfl, hb1⟩
      rw [h1]
      have bx1 := Lib.hid (bx0.out.keep hb1)
      have bl1 := bel_trans bl0 hb1
      obtain ⟨c0_1, c1_1, hk1⟩ := bx1.out
      have hq : n.tdiv 2 = n / 2 := Int.tdiv_eq_ediv_of_nonneg n0
      have hw1 : IntKind.i64.wrap (n / 2) = n / 2 := IntWalk.i64_in _ (by omega)
      have hw2 : IntKind.i64.wrap (n / 2 * gv h o) = n / 2 * gv h o := IntWalk.i64_in _ (by omega)
      go_wp2_with fail
      go_region_held3 (fun w' => w'.cell? ⟨w.heap.size, 0, none⟩ = some (.int .i64 h) ∧ w'.cell? ⟨w.heap.size, 1, none⟩ = some (.int .i64 o) ∧ w.heap.size < w'.heap.size ∧ Below w.heap.size w w')
        (first | exact held2_start bx1.out bl1 | exact held2_keep (by assumption) hb3 | exact held2_keep (by assumption) hb4 | exact held2_drewN (by assumption) _ | assumption | go_keep)
        (first | (go_at_call 23; refine (giving_any h o _ h1).mono ?_; rintro e w3 ⟨rfl, hb3⟩) | (go_at_call 24; refine (pairs_any h o _ h1).mono ?_; rintro e w4 ⟨rfl, hb4⟩) | (go_at_call 22; refine (told_any (n / 2 * gv h o) (pr2 o) _ (by omega) (by omega) (by omega) (by omega)).mono ?_; rintro e w5 ⟨rfl, n5, rfl⟩))
      all_goals
        obtain ⟨hbx9, hbl9⟩ := held2_below (by assumption)
        go_wp2
        go_ret3
        exact ⟨rfl, hbl9⟩

set_option maxHeartbeats 800000 in
theorem walkExactMeanFair (h o : Int) (n : Int) (w : World) (ha : (Lit.int .i64 h).wf = true) (hb : (Lit.int .i64 o).wf = true) (hn : (Lit.int .i64 n).wf = true) :
    Calls Try.prog 5 #[cn h o, .int .i64 n] w fun e w' => e = .returned (.bool true) ∧ Below w.heap.size w w' := by
  clear ha hb
  clear hn
  obtain ⟨x, y, ok, hv⟩ := ansMF_form h o n
  have Hv := Lib.hid hv
  clear hv
  have bx0 := Lib.hid (Box2.new w (.int .i64 h) (.int .i64 o) 23)
  have bl0 : Below w.heap.size w (w.alloc (.cells #[.int .i64 h, .int .i64 o] 23)) := bel_alloc (Below.refl _ _) _
  go_enter Try.func5, Try.ntmps5
  go_wp2_with fail
  refine (toCoin_any _ _ _).mono ?_
  rintro e w1 ⟨rfl, hb1⟩
  have bx1 := Lib.hid (bx0.out.keep hb1)
  have bl1 := bel_trans bl0 hb1
  obtain ⟨c0_1, c1_1, hk1⟩ := bx1.out
  go_wp2_with fail
  refine (specMF_any h o n _ ).mono ?_
  rintro e w2 ⟨rfl, hb2⟩
  rw [Hv.out]
  have bx2 := Lib.hid (bx1.out.keep hb2)
  have bl2 := bel_trans bl1 hb2
  obtain ⟨c0_2, c1_2, hk2⟩ := bx2.out
  go_wp2_with fail
  refine (toCoin_any _ _ _).mono ?_
  rintro e w3 ⟨rfl, hb3⟩
  have bx3 := Lib.hid (bx2.out.keep hb3)
  have bl3 := bel_trans bl2 hb3
  obtain ⟨c0_3, c1_3, hk3⟩ := bx3.out
  go_wp2_with fail
  refine (implMF_any h o n _ ).mono ?_
  rintro e w4 ⟨rfl, hb4⟩
  rw [Hv.out]
  have bx4 := Lib.hid (bx3.out.keep hb4)
  have bl4 := bel_trans bl3 hb4
  obtain ⟨c0_4, c1_4, hk4⟩ := bx4.out
  go_wp2_with fail
  go_ret
  exact ⟨rfl, bl4⟩

end Go.Proofs.Ytnpghbbmhehnlaa
