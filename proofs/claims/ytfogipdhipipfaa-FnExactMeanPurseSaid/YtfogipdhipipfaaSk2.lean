/- MeanPurse, IsFairPlay: the contracts of the program and of its model, and the walks. -/
import Derived.Test.YtfogipdhipipfaaSk
namespace Go.Proofs.Ytfogipdhipipfaa
set_option linter.unusedSimpArgs false
open Go.ChangeShapes Go.WideShapes Go.ChangeAt Go.RowKit
set_option linter.unusedVariables false


def mpA (h o p s : Int) : Int := h * (p + s) + (o - h) * (p - s)
theorem mp_in {h o p s : Int} (g : coinG h o = true) (a : 0 ≤ p) (b : p ≤ 1000) (c : 0 ≤ s) (d : s ≤ p) : 0 ≤ h * (p + s) ∧ h * (p + s) ≤ 20000 ∧ 0 ≤ (o - h) * (p - s) ∧ (o - h) * (p - s) ≤ 20000 := by
  obtain ⟨r1, r2, r3, r4⟩ := coin_in g
  have a1 := Int.mul_nonneg (show (0 : Int) ≤ h by omega) (show (0 : Int) ≤ p + s by omega)
  have a2 := Int.mul_nonneg (show (0 : Int) ≤ o - h by omega) (show (0 : Int) ≤ p - s by omega)
  have a3 := Int.mul_le_mul (show h ≤ 10 by omega) (show p + s ≤ 2000 by omega) (by omega) (by omega)
  have a4 := Int.mul_le_mul (show o - h ≤ 10 by omega) (show p - s ≤ 2000 by omega) (by omega) (by omega)
  omega
def mpG (h o p s : Int) : Bool := coinG h o && (inB p 0 1000 && inB s 0 p)
def ansMP (h o p s : Int) : Value := if mpG h o p s then lowV (mpA h o p s) o else failV
theorem ansMP_form (h o p s : Int) : ∃ (x y : Int) (ok : Bool), ansMP h o p s = .tuple #[.int .i64 x, .int .i64 y, .bool ok] := if_form _ (lowV_form _ _) failV_form
def fpG (h o p s : Int) : Bool := coinG h o && (inB p 0 1000 && inB s 0 1000)
def ansFP (h o p s : Int) : Value := if fpG h o p s then .tuple #[.bool (decide (h * p = (o - h) * s)), .bool true] else .tuple #[.bool false, .bool false]
theorem ansFP_form (h o p s : Int) : ∃ x ok : Bool, ansFP h o p s = .tuple #[.bool x, .bool ok] := by
  unfold ansFP
  split
  · exact ⟨_, _, rfl⟩
  · exact ⟨_, _, rfl⟩
set_option maxRecDepth 100000 in
set_option maxHeartbeats 3200000 in
theorem specMP_any (h o p s : Int) (w : World) :
    Calls Try.prog 33 #[cn h o, .int .i64 p, .int .i64 s] w fun e w' => e = .returned (ansMP h o p s) ∧ Below w.heap.size w w' := by
  have bx0 := Lib.hid (Box2.new w (.int .i64 h) (.int .i64 o) 32)
  have bl0 : Below w.heap.size w (w.alloc (.cells #[.int .i64 h, .int .i64 o] 32)) := bel_alloc (Below.refl _ _) _
  cases h1 : coinG h o
  · skip
    rw [show ansMP h o p s = .tuple #[.int .i64 0, .int .i64 0, .bool false] from by unfold ansMP mpG; simp [h1]; rfl]
    go_enter Try.func33, Try.ntmps33
    go_wp2_with fail
    refine (ptCoin_any h o _).mono ?_
    rintro e w1 ⟨rfl, hb1⟩
    rw [h1]
    have bx1 := Lib.hid (bx0.out.keep hb1)
    have bl1 := Lib.hid (bel_trans bl0 hb1)
    clear hb1
    obtain ⟨c0, c1, hk⟩ := bx1.out
    go_wp2_with fail
    go_ret3
    exact ⟨rfl, bl1.out⟩
  · cases h2 : inB p 0 1000
    · skip
      rw [show ansMP h o p s = .tuple #[.int .i64 0, .int .i64 0, .bool false] from by unfold ansMP mpG; simp [h1, h2]; rfl]
      go_enter Try.func33, Try.ntmps33
      go_wp2_with fail
      refine (ptCoin_any h o _).mono ?_
      rintro e w1 ⟨rfl, hb1⟩
      rw [h1]
      have bx1 := Lib.hid (bx0.out.keep hb1)
      have bl1 := Lib.hid (bel_trans bl0 hb1)
      clear hb1
      obtain ⟨c0, c1, hk⟩ := bx1.out
      go_wp2_with fail
      refine (l1In_any _ _ _ _).mono ?_
      rintro e w2 ⟨rfl, rfl⟩
      rw [h2]
      go_wp2_with fail
      go_ret3
      exact ⟨rfl, bl1.out⟩
    · cases h3 : inB s 0 p
      · skip
        rw [show ansMP h o p s = .tuple #[.int .i64 0, .int .i64 0, .bool false] from by unfold ansMP mpG; simp [h1, h2, h3]; rfl]
        go_enter Try.func33, Try.ntmps33
        go_wp2_with fail
        refine (ptCoin_any h o _).mono ?_
        rintro e w1 ⟨rfl, hb1⟩
        rw [h1]
        have bx1 := Lib.hid (bx0.out.keep hb1)
        have bl1 := Lib.hid (bel_trans bl0 hb1)
        clear hb1
        obtain ⟨c0, c1, hk⟩ := bx1.out
        go_wp2_with fail
        refine (l1In_any _ _ _ _).mono ?_
        rintro e w2 ⟨rfl, rfl⟩
        rw [h2]
        go_wp2_with fail
        refine (l1In_any _ _ _ _).mono ?_
        rintro e w2 ⟨rfl, rfl⟩
        rw [h3]
        go_wp2_with fail
        go_ret3
        exact ⟨rfl, bl1.out⟩
      · skip
        have HG : mpG h o p s = true := by unfold mpG; rw [h1, h2, h3]; rfl
        obtain ⟨r1, r2, r3, r4⟩ := coin_in h1
        obtain ⟨u1, u2⟩ := (inB_iff _ _ _).1 h2
        obtain ⟨u3, u4⟩ := (inB_iff _ _ _).1 h3
        rw [show ansMP h o p s = lowV (mpA h o p s) o from by unfold ansMP; rw [HG]; rfl]
        unfold lowV
        obtain ⟨q1, q2, q3, q4⟩ := mp_in h1 u1 u2 u3 u4
        have hw1 : IntKind.i64.wrap (h * (p + s)) = h * (p + s) := IntWalk.i64_in _ (by omega)
        have hw2 : IntKind.i64.wrap ((o - h) * (p - s)) = (o - h) * (p - s) := IntWalk.i64_in _ (by omega)
        have hw3 : IntKind.i64.wrap (p + s) = p + s := IntWalk.i64_in _ (by omega)
        have hw4 : IntKind.i64.wrap (p - s) = p - s := IntWalk.i64_in _ (by omega)
        have hw5 : IntKind.i64.wrap (o - h) = o - h := IntWalk.i64_in _ (by omega)
        have hw6 : IntKind.i64.wrap (h * (p + s) + (o - h) * (p - s)) = mpA h o p s := IntWalk.i64_in _ (by show -9223372036854775808 ≤ h * (p + s) + (o - h) * (p - s) ∧ h * (p + s) + (o - h) * (p - s) ≤ 9223372036854775807; omega)
        have z1 : 0 ≤ mpA h o p s ∧ mpA h o p s ≤ 40000 := by unfold mpA; omega
        obtain ⟨z1, z2⟩ := z1
        have hT := Lib.hid (fun W => cnLow_any (mpA h o p s) o W z1 (by omega) (by omega) (by omega))
        clear q1 q2 q3 q4 z1 z2
        clear HG u1 u2 u3 u4 r1 r2 r3 r4
        go_enter Try.func33, Try.ntmps33
        go_wp2_with fail
        refine (ptCoin_any h o _).mono ?_
        rintro e w1 ⟨rfl, hb1⟩
        rw [h1]
        have bx1 := Lib.hid (bx0.out.keep hb1)
        have bl1 := Lib.hid (bel_trans bl0 hb1)
        clear hb1
        obtain ⟨c0, c1, hk⟩ := bx1.out
        go_wp2_with fail
        refine (l1In_any _ _ _ _).mono ?_
        rintro e w2 ⟨rfl, rfl⟩
        rw [h2]
        go_wp2_with fail
        refine (l1In_any _ _ _ _).mono ?_
        rintro e w2 ⟨rfl, rfl⟩
        rw [h3]
        go_wp2_with fail
        refine (hT.out _).mono ?_
        rintro e w3 ⟨rfl, n2, rfl⟩
        go_wp2_with fail
        go_ret3
        exact ⟨rfl, bel_drewN bl1.out n2⟩

set_option maxRecDepth 100000 in
set_option maxHeartbeats 3200000 in
theorem implMP_any (h o p s : Int) (w : World) :
    Calls Try.prog 34 #[cn h o, .int .i64 p, .int .i64 s] w fun e w' => e = .returned (ansMP h o p s) ∧ Below w.heap.size w w' := by
  have bx0 := Lib.hid (Box2.new w (.int .i64 h) (.int .i64 o) 32)
  have bl0 : Below w.heap.size w (w.alloc (.cells #[.int .i64 h, .int .i64 o] 32)) := bel_alloc (Below.refl _ _) _
  cases h1 : coinG h o
  · skip
    rw [show ansMP h o p s = .tuple #[.int .i64 0, .int .i64 0, .bool false] from by unfold ansMP mpG; simp [h1]; rfl]
    go_enter Try.func34, Try.ntmps34
    go_wp2_with fail
    refine (implIsCoin_any h o _).mono ?_
    rintro e w1 ⟨rfl, hb1⟩
    rw [h1]
    have bx1 := Lib.hid (bx0.out.keep hb1)
    have bl1 := Lib.hid (bel_trans bl0 hb1)
    clear hb1
    obtain ⟨c0, c1, hk⟩ := bx1.out
    go_wp2_with fail
    go_ret3
    exact ⟨rfl, bl1.out⟩
  · cases h2 : inB p 0 1000
    · skip
      rw [show ansMP h o p s = .tuple #[.int .i64 0, .int .i64 0, .bool false] from by unfold ansMP mpG; simp [h1, h2]; rfl]
      go_enter Try.func34, Try.ntmps34
      go_wp2_with fail
      refine (implIsCoin_any h o _).mono ?_
      rintro e w1 ⟨rfl, hb1⟩
      rw [h1]
      have bx1 := Lib.hid (bx0.out.keep hb1)
      have bl1 := Lib.hid (bel_trans bl0 hb1)
      clear hb1
      obtain ⟨c0, c1, hk⟩ := bx1.out
      go_wp2_with fail
      refine (isUpTo_any _ _ _).mono ?_
      rintro e w2 ⟨rfl, rfl⟩
      rw [h2]
      go_wp2_with fail
      go_ret3
      exact ⟨rfl, bl1.out⟩
    · cases h3 : inB s 0 p
      · skip
        rw [show ansMP h o p s = .tuple #[.int .i64 0, .int .i64 0, .bool false] from by unfold ansMP mpG; simp [h1, h2, h3]; rfl]
        go_enter Try.func34, Try.ntmps34
        go_wp2_with fail
        refine (implIsCoin_any h o _).mono ?_
        rintro e w1 ⟨rfl, hb1⟩
        rw [h1]
        have bx1 := Lib.hid (bx0.out.keep hb1)
        have bl1 := Lib.hid (bel_trans bl0 hb1)
        clear hb1
        obtain ⟨c0, c1, hk⟩ := bx1.out
        go_wp2_with fail
        refine (isUpTo_any _ _ _).mono ?_
        rintro e w2 ⟨rfl, rfl⟩
        rw [h2]
        go_wp2_with fail
        refine (isUpTo_any _ _ _).mono ?_
        rintro e w2 ⟨rfl, rfl⟩
        rw [h3]
        go_wp2_with fail
        go_ret3
        exact ⟨rfl, bl1.out⟩
      · skip
        have HG : mpG h o p s = true := by unfold mpG; rw [h1, h2, h3]; rfl
        obtain ⟨r1, r2, r3, r4⟩ := coin_in h1
        obtain ⟨u1, u2⟩ := (inB_iff _ _ _).1 h2
        obtain ⟨u3, u4⟩ := (inB_iff _ _ _).1 h3
        rw [show ansMP h o p s = lowV (mpA h o p s) o from by unfold ansMP; rw [HG]; rfl]
        unfold lowV
        obtain ⟨q1, q2, q3, q4⟩ := mp_in h1 u1 u2 u3 u4
        have hw1 : IntKind.i64.wrap (h * (p + s)) = h * (p + s) := IntWalk.i64_in _ (by omega)
        have hw2 : IntKind.i64.wrap ((o - h) * (p - s)) = (o - h) * (p - s) := IntWalk.i64_in _ (by omega)
        have hw3 : IntKind.i64.wrap (p + s) = p + s := IntWalk.i64_in _ (by omega)
        have hw4 : IntKind.i64.wrap (p - s) = p - s := IntWalk.i64_in _ (by omega)
        have hw5 : IntKind.i64.wrap (o - h) = o - h := IntWalk.i64_in _ (by omega)
        have hw6 : IntKind.i64.wrap (h * (p + s) + (o - h) * (p - s)) = mpA h o p s := IntWalk.i64_in _ (by show -9223372036854775808 ≤ h * (p + s) + (o - h) * (p - s) ∧ h * (p + s) + (o - h) * (p - s) ≤ 9223372036854775807; omega)
        have z1 : 0 ≤ mpA h o p s ∧ mpA h o p s ≤ 40000 := by unfold mpA; omega
        obtain ⟨z1, z2⟩ := z1
        have hT := Lib.hid (fun W => told_any (mpA h o p s) o W z1 (by omega) (by omega) (by omega))
        clear q1 q2 q3 q4 z1 z2
        clear HG u1 u2 u3 u4 r1 r2 r3 r4
        go_enter Try.func34, Try.ntmps34
        go_wp2_with fail
        refine (implIsCoin_any h o _).mono ?_
        rintro e w1 ⟨rfl, hb1⟩
        rw [h1]
        have bx1 := Lib.hid (bx0.out.keep hb1)
        have bl1 := Lib.hid (bel_trans bl0 hb1)
        clear hb1
        obtain ⟨c0, c1, hk⟩ := bx1.out
        go_wp2_with fail
        refine (isUpTo_any _ _ _).mono ?_
        rintro e w2 ⟨rfl, rfl⟩
        rw [h2]
        go_wp2_with fail
        refine (isUpTo_any _ _ _).mono ?_
        rintro e w2 ⟨rfl, rfl⟩
        rw [h3]
        clear c0 c1 hk
        go_wp2_with fail
        go_region_held3 (fun w' => w'.cell? ⟨w.heap.size, 0, none⟩ = some (.int .i64 h) ∧ w'.cell? ⟨w.heap.size, 1, none⟩ = some (.int .i64 o) ∧ w.heap.size < w'.heap.size ∧ Below w.heap.size w w')
          (first | exact held2_start bx1.out bl1.out | exact held2_keep (by assumption) hb3 | exact held2_drewN (by assumption) _ | assumption | go_keep)
          (first | (go_at_call 51; refine (tails_any h o _ h1).mono ?_; rintro e w3 ⟨rfl, hb3⟩) | (go_at_call 47; refine (hT.out _).mono ?_; rintro e w5 ⟨rfl, n5, rfl⟩))
        all_goals
          obtain ⟨hbx9, hbl9⟩ := held2_below (by assumption)
          clear hbx9
          go_wp2
          go_ret3
          exact ⟨rfl, hbl9⟩

set_option maxRecDepth 100000 in
set_option maxHeartbeats 3200000 in
theorem walkExactMeanPurse (h o p s : Int) (w : World) (zh : (Lit.int .i64 h).wf = true) (zo : (Lit.int .i64 o).wf = true) (zp : (Lit.int .i64 p).wf = true) (zs : (Lit.int .i64 s).wf = true) :
    Calls Try.prog 11 #[cn h o, .int .i64 p, .int .i64 s] w fun e w' => e = .returned (.bool true) ∧ Below w.heap.size w w' := by
  clear zh zo zp zs
  obtain ⟨x, y, ok, hv⟩ := ansMP_form h o p s
  have Hv := Lib.hid hv
  clear hv
  have hbA0 := bel_alloc (Below.refl _ w) (.cells #[.int .i64 h, .int .i64 o] 29)
  have bc_0 := Lib.hid (Box2.new w (.int .i64 h) (.int .i64 o) 29)
  have bl_0 := Lib.hid hbA0
  clear hbA0
  go_enter Try.func11, Try.ntmps11
  obtain ⟨cc0_0, cc1_0, kc_0⟩ := bc_0.out
  go_wp2_with fail
  refine (toCoin_any _ _ _).mono ?_
  rintro e w1 ⟨rfl, hb⟩
  have bc_1 := Lib.hid (bc_0.out.keep hb)
  have bl_1 := Lib.hid (bel_trans bl_0.out hb)
  clear hb
  obtain ⟨cc0_1, cc1_1, kc_1⟩ := bc_1.out
  go_wp2_with fail
  refine (specMP_any h o p s _).mono ?_
  rintro e w2 ⟨rfl, hb⟩
  rw [Hv.out]
  have bc_2 := Lib.hid (bc_1.out.keep hb)
  have bl_2 := Lib.hid (bel_trans bl_1.out hb)
  clear hb
  obtain ⟨cc0_2, cc1_2, kc_2⟩ := bc_2.out
  go_wp2_with fail
  refine (toCoin_any _ _ _).mono ?_
  rintro e w3 ⟨rfl, hb⟩
  have bc_3 := Lib.hid (bc_2.out.keep hb)
  have bl_3 := Lib.hid (bel_trans bl_2.out hb)
  clear hb
  obtain ⟨cc0_3, cc1_3, kc_3⟩ := bc_3.out
  go_wp2_with fail
  refine (implMP_any h o p s _).mono ?_
  rintro e w4 ⟨rfl, hb⟩
  rw [Hv.out]
  have bc_4 := Lib.hid (bc_3.out.keep hb)
  have bl_4 := Lib.hid (bel_trans bl_3.out hb)
  clear hb
  obtain ⟨cc0_4, cc1_4, kc_4⟩ := bc_4.out
  go_wp2_with fail
  go_ret
  exact ⟨rfl, bl_4.out⟩

set_option maxRecDepth 100000 in
set_option maxHeartbeats 3200000 in
theorem specFP_any (h o p s : Int) (w : World) :
    Calls Try.prog 35 #[cn h o, .int .i64 p, .int .i64 s] w fun e w' => e = .returned (ansFP h o p s) ∧ Below w.heap.size w w' := by
  have bx0 := Lib.hid (Box2.new w (.int .i64 h) (.int .i64 o) 32)
  have bl0 : Below w.heap.size w (w.alloc (.cells #[.int .i64 h, .int .i64 o] 32)) := bel_alloc (Below.refl _ _) _
  cases h1 : coinG h o
  · skip
    rw [show ansFP h o p s = .tuple #[.bool false, .bool false] from by unfold ansFP fpG; simp [h1]]
    go_enter Try.func35, Try.ntmps35
    go_wp2_with fail
    refine (ptCoin_any h o _).mono ?_
    rintro e w1 ⟨rfl, hb1⟩
    rw [h1]
    have bx1 := Lib.hid (bx0.out.keep hb1)
    have bl1 := Lib.hid (bel_trans bl0 hb1)
    clear hb1
    obtain ⟨c0, c1, hk⟩ := bx1.out
    go_wp2_with fail
    go_ret2
    exact ⟨rfl, bl1.out⟩
  · cases h2 : inB p 0 1000
    · skip
      rw [show ansFP h o p s = .tuple #[.bool false, .bool false] from by unfold ansFP fpG; simp [h1, h2]]
      go_enter Try.func35, Try.ntmps35
      go_wp2_with fail
      refine (ptCoin_any h o _).mono ?_
      rintro e w1 ⟨rfl, hb1⟩
      rw [h1]
      have bx1 := Lib.hid (bx0.out.keep hb1)
      have bl1 := Lib.hid (bel_trans bl0 hb1)
      clear hb1
      obtain ⟨c0, c1, hk⟩ := bx1.out
      go_wp2_with fail
      refine (l1In_any _ _ _ _).mono ?_
      rintro e w2 ⟨rfl, rfl⟩
      rw [h2]
      go_wp2_with fail
      go_ret2
      exact ⟨rfl, bl1.out⟩
    · cases h3 : inB s 0 1000
      · skip
        rw [show ansFP h o p s = .tuple #[.bool false, .bool false] from by unfold ansFP fpG; simp [h1, h2, h3]]
        go_enter Try.func35, Try.ntmps35
        go_wp2_with fail
        refine (ptCoin_any h o _).mono ?_
        rintro e w1 ⟨rfl, hb1⟩
        rw [h1]
        have bx1 := Lib.hid (bx0.out.keep hb1)
        have bl1 := Lib.hid (bel_trans bl0 hb1)
        clear hb1
        obtain ⟨c0, c1, hk⟩ := bx1.out
        go_wp2_with fail
        refine (l1In_any _ _ _ _).mono ?_
        rintro e w2 ⟨rfl, rfl⟩
        rw [h2]
        go_wp2_with fail
        refine (l1In_any _ _ _ _).mono ?_
        rintro e w2 ⟨rfl, rfl⟩
        rw [h3]
        go_wp2_with fail
        go_ret2
        exact ⟨rfl, bl1.out⟩
      · skip
        have HG : fpG h o p s = true := by unfold fpG; rw [h1, h2, h3]; rfl
        obtain ⟨r1, r2, r3, r4⟩ := coin_in h1
        obtain ⟨u1, u2⟩ := (inB_iff _ _ _).1 h2
        obtain ⟨u3, u4⟩ := (inB_iff _ _ _).1 h3
        rw [show ansFP h o p s = .tuple #[.bool (decide (h * p = (o - h) * s)), .bool true] from by unfold ansFP; rw [HG]; rfl]
        have q1 := Int.mul_nonneg (show (0 : Int) ≤ h by omega) u1
        have q2 := Int.mul_nonneg (show (0 : Int) ≤ o - h by omega) u3
        have q3 := Int.mul_le_mul (show h ≤ 10 by omega) u2 u1 (by omega)
        have q4 := Int.mul_le_mul (show o - h ≤ 10 by omega) u4 u3 (by omega)
        have hw1 : IntKind.i64.wrap (h * p) = h * p := IntWalk.i64_in _ (by omega)
        have hw2 : IntKind.i64.wrap ((o - h) * s) = (o - h) * s := IntWalk.i64_in _ (by omega)
        have hw5 : IntKind.i64.wrap (o - h) = o - h := IntWalk.i64_in _ (by omega)
        clear q1 q2 q3 q4
        clear HG u1 u2 u3 u4 r1 r2 r3 r4
        go_enter Try.func35, Try.ntmps35
        go_wp2_with fail
        refine (ptCoin_any h o _).mono ?_
        rintro e w1 ⟨rfl, hb1⟩
        rw [h1]
        have bx1 := Lib.hid (bx0.out.keep hb1)
        have bl1 := Lib.hid (bel_trans bl0 hb1)
        clear hb1
        obtain ⟨c0, c1, hk⟩ := bx1.out
        go_wp2_with fail
        refine (l1In_any _ _ _ _).mono ?_
        rintro e w2 ⟨rfl, rfl⟩
        rw [h2]
        go_wp2_with fail
        refine (l1In_any _ _ _ _).mono ?_
        rintro e w2 ⟨rfl, rfl⟩
        rw [h3]
        go_wp2_with fail
        go_ret2
        exact ⟨rfl, bl1.out⟩

set_option maxRecDepth 100000 in
set_option maxHeartbeats 3200000 in
theorem implFP_any (h o p s : Int) (w : World) :
    Calls Try.prog 36 #[cn h o, .int .i64 p, .int .i64 s] w fun e w' => e = .returned (ansFP h o p s) ∧ Below w.heap.size w w' := by
  have bx0 := Lib.hid (Box2.new w (.int .i64 h) (.int .i64 o) 32)
  have bl0 : Below w.heap.size w (w.alloc (.cells #[.int .i64 h, .int .i64 o] 32)) := bel_alloc (Below.refl _ _) _
  cases h1 : coinG h o
  · skip
    rw [show ansFP h o p s = .tuple #[.bool false, .bool false] from by unfold ansFP fpG; simp [h1]]
    go_enter Try.func36, Try.ntmps36
    go_wp2_with fail
    refine (implIsCoin_any h o _).mono ?_
    rintro e w1 ⟨rfl, hb1⟩
    rw [h1]
    have bx1 := Lib.hid (bx0.out.keep hb1)
    have bl1 := Lib.hid (bel_trans bl0 hb1)
    clear hb1
    obtain ⟨c0, c1, hk⟩ := bx1.out
    go_wp2_with fail
    go_ret2
    exact ⟨rfl, bl1.out⟩
  · cases h2 : inB p 0 1000
    · skip
      rw [show ansFP h o p s = .tuple #[.bool false, .bool false] from by unfold ansFP fpG; simp [h1, h2]]
      go_enter Try.func36, Try.ntmps36
      go_wp2_with fail
      refine (implIsCoin_any h o _).mono ?_
      rintro e w1 ⟨rfl, hb1⟩
      rw [h1]
      have bx1 := Lib.hid (bx0.out.keep hb1)
      have bl1 := Lib.hid (bel_trans bl0 hb1)
      clear hb1
      obtain ⟨c0, c1, hk⟩ := bx1.out
      go_wp2_with fail
      refine (isUpTo_any _ _ _).mono ?_
      rintro e w2 ⟨rfl, rfl⟩
      rw [h2]
      go_wp2_with fail
      go_ret2
      exact ⟨rfl, bl1.out⟩
    · cases h3 : inB s 0 1000
      · skip
        rw [show ansFP h o p s = .tuple #[.bool false, .bool false] from by unfold ansFP fpG; simp [h1, h2, h3]]
        go_enter Try.func36, Try.ntmps36
        go_wp2_with fail
        refine (implIsCoin_any h o _).mono ?_
        rintro e w1 ⟨rfl, hb1⟩
        rw [h1]
        have bx1 := Lib.hid (bx0.out.keep hb1)
        have bl1 := Lib.hid (bel_trans bl0 hb1)
        clear hb1
        obtain ⟨c0, c1, hk⟩ := bx1.out
        go_wp2_with fail
        refine (isUpTo_any _ _ _).mono ?_
        rintro e w2 ⟨rfl, rfl⟩
        rw [h2]
        go_wp2_with fail
        refine (isUpTo_any _ _ _).mono ?_
        rintro e w2 ⟨rfl, rfl⟩
        rw [h3]
        go_wp2_with fail
        go_ret2
        exact ⟨rfl, bl1.out⟩
      · skip
        have HG : fpG h o p s = true := by unfold fpG; rw [h1, h2, h3]; rfl
        obtain ⟨r1, r2, r3, r4⟩ := coin_in h1
        obtain ⟨u1, u2⟩ := (inB_iff _ _ _).1 h2
        obtain ⟨u3, u4⟩ := (inB_iff _ _ _).1 h3
        rw [show ansFP h o p s = .tuple #[.bool (decide (h * p = (o - h) * s)), .bool true] from by unfold ansFP; rw [HG]; rfl]
        have q1 := Int.mul_nonneg (show (0 : Int) ≤ h by omega) u1
        have q2 := Int.mul_nonneg (show (0 : Int) ≤ o - h by omega) u3
        have q3 := Int.mul_le_mul (show h ≤ 10 by omega) u2 u1 (by omega)
        have q4 := Int.mul_le_mul (show o - h ≤ 10 by omega) u4 u3 (by omega)
        have hw1 : IntKind.i64.wrap (h * p) = h * p := IntWalk.i64_in _ (by omega)
        have hw2 : IntKind.i64.wrap ((o - h) * s) = (o - h) * s := IntWalk.i64_in _ (by omega)
        have hw5 : IntKind.i64.wrap (o - h) = o - h := IntWalk.i64_in _ (by omega)
        clear q1 q2 q3 q4
        clear HG u1 u2 u3 u4 r1 r2 r3 r4
        go_enter Try.func36, Try.ntmps36
        go_wp2_with fail
        refine (implIsCoin_any h o _).mono ?_
        rintro e w1 ⟨rfl, hb1⟩
        rw [h1]
        have bx1 := Lib.hid (bx0.out.keep hb1)
        have bl1 := Lib.hid (bel_trans bl0 hb1)
        clear hb1
        obtain ⟨c0, c1, hk⟩ := bx1.out
        go_wp2_with fail
        refine (isUpTo_any _ _ _).mono ?_
        rintro e w2 ⟨rfl, rfl⟩
        rw [h2]
        go_wp2_with fail
        refine (isUpTo_any _ _ _).mono ?_
        rintro e w2 ⟨rfl, rfl⟩
        rw [h3]
        clear c0 c1 hk
        go_wp2_with fail
        go_region_held3 (fun w' => w'.cell? ⟨w.heap.size, 0, none⟩ = some (.int .i64 h) ∧ w'.cell? ⟨w.heap.size, 1, none⟩ = some (.int .i64 o) ∧ w.heap.size < w'.heap.size ∧ Below w.heap.size w w')
          (first | exact held2_start bx1.out bl1.out | exact held2_keep (by assumption) hb3 | exact held2_drewN (by assumption) _ | assumption | go_keep)
          (first | (go_at_call 51; refine (tails_any h o _ h1).mono ?_; rintro e w3 ⟨rfl, hb3⟩))
        all_goals
          obtain ⟨hbx9, hbl9⟩ := held2_below (by assumption)
          clear hbx9
          go_wp2
          go_ret2
          exact ⟨rfl, hbl9⟩

set_option maxRecDepth 100000 in
set_option maxHeartbeats 3200000 in
theorem walkExactIsFairPlay (h o p s : Int) (w : World) (zh : (Lit.int .i64 h).wf = true) (zo : (Lit.int .i64 o).wf = true) (zp : (Lit.int .i64 p).wf = true) (zs : (Lit.int .i64 s).wf = true) :
    Calls Try.prog 12 #[cn h o, .int .i64 p, .int .i64 s] w fun e w' => e = .returned (.bool true) ∧ Below w.heap.size w w' := by
  clear zh zo zp zs
  obtain ⟨x, ok, hv⟩ := ansFP_form h o p s
  have Hv := Lib.hid hv
  clear hv
  have hbA0 := bel_alloc (Below.refl _ w) (.cells #[.int .i64 h, .int .i64 o] 29)
  have bc_0 := Lib.hid (Box2.new w (.int .i64 h) (.int .i64 o) 29)
  have bl_0 := Lib.hid hbA0
  clear hbA0
  go_enter Try.func12, Try.ntmps12
  obtain ⟨cc0_0, cc1_0, kc_0⟩ := bc_0.out
  go_wp2_with fail
  refine (toCoin_any _ _ _).mono ?_
  rintro e w1 ⟨rfl, hb⟩
  have bc_1 := Lib.hid (bc_0.out.keep hb)
  have bl_1 := Lib.hid (bel_trans bl_0.out hb)
  clear hb
  obtain ⟨cc0_1, cc1_1, kc_1⟩ := bc_1.out
  go_wp2_with fail
  refine (specFP_any h o p s _).mono ?_
  rintro e w2 ⟨rfl, hb⟩
  rw [Hv.out]
  have bc_2 := Lib.hid (bc_1.out.keep hb)
  have bl_2 := Lib.hid (bel_trans bl_1.out hb)
  clear hb
  obtain ⟨cc0_2, cc1_2, kc_2⟩ := bc_2.out
  go_wp2_with fail
  refine (toCoin_any _ _ _).mono ?_
  rintro e w3 ⟨rfl, hb⟩
  have bc_3 := Lib.hid (bc_2.out.keep hb)
  have bl_3 := Lib.hid (bel_trans bl_2.out hb)
  clear hb
  obtain ⟨cc0_3, cc1_3, kc_3⟩ := bc_3.out
  go_wp2_with fail
  refine (implFP_any h o p s _).mono ?_
  rintro e w4 ⟨rfl, hb⟩
  rw [Hv.out]
  have bc_4 := Lib.hid (bc_3.out.keep hb)
  have bl_4 := Lib.hid (bel_trans bl_3.out hb)
  clear hb
  obtain ⟨cc0_4, cc1_4, kc_4⟩ := bc_4.out
  go_wp2_with fail
  go_ret
  exact ⟨rfl, bl_4.out⟩

end Go.Proofs.Ytfogipdhipipfaa
