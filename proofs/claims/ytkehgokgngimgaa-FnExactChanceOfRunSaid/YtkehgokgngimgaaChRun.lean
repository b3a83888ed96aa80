/- ChanceOfRun: the contracts of the program and of its model, and the law's walk. -/
import Derived.Test.YtkehgokgngimgaaAny
namespace Go.Proofs.Ytkehgokgngimgaa
open Go.ChangeShapes Go.WideShapes Go.ChangeAt Go.RowKit
set_option linter.unusedVariables false

def ansChRun (a b c : Int) (s : ByteArray) (n : Int) : Value :=
  if good a b c && dayS s && inB n 1 8 then lowV ((c - chg a b (sgn s 0)) ^ (n.toNat - 1) * chg a b (sgn s 0)) (c ^ n.toNat) else failV
theorem ansChRun_form (a b c : Int) (s : ByteArray) (n : Int) : ∃ (x y : Int) (o : Bool), ansChRun a b c s n = .tuple #[.int .i64 x, .int .i64 y, .bool o] := if_form _ (lowV_form _ _) failV_form
theorem pow_pred (x : Int) (n : Nat) (h : 1 ≤ n) : x ^ (n - 1) * x = x ^ n := by
  obtain ⟨m, rfl⟩ : ∃ m, n = m + 1 := ⟨n - 1, by omega⟩
  exact (Int.pow_succ x m).symm

set_option maxHeartbeats 1600000 in
theorem specChRun_any (a b c : Int) (s : ByteArray) (n : Int) (w : World) (hs : s.size ≤ maxLen) :
    Calls Try.prog 37 #[chn a b c, .string s, .int .i64 n] w fun e w' => e = .returned (ansChRun a b c s n) ∧ Below w.heap.size w w' := by
  have bx0 := Lib.hid (Box3.new w (.int .i64 a) (.int .i64 b) (.int .i64 c) 25)
  have bl0 : Below w.heap.size w (w.alloc (.cells #[.int .i64 a, .int .i64 b, .int .i64 c] 25)) := bel_alloc (Below.refl _ _) _
  cases h1 : (good a b c && dayS s)
  · skip
    rw [show ansChRun a b c s n = failV from by unfold ansChRun; rw [h1]; rfl]
    unfold failV
    go_enter Try.func37, Try.ntmps37
    go_wp2_with fail
    refine (cnDay_any a b c s _ hs).mono ?_
    rintro e w1 ⟨rfl, hb1⟩
    rw [h1]
    have bx1 := Lib.hid (bx0.out.keep hb1)
    have bl1 := bel_trans bl0 hb1
    obtain ⟨c0_1, c1_1, c2_1, hk1⟩ := bx1.out
    go_wp2_with fail
    go_ret3
    exact ⟨rfl, bl1⟩
  · cases h2 : inB n 1 8
    · skip
      rw [show ansChRun a b c s n = failV from by unfold ansChRun; rw [h1, h2]; rfl]
      unfold failV
      go_enter Try.func37, Try.ntmps37
      go_wp2_with fail
      refine (cnDay_any a b c s _ hs).mono ?_
      rintro e w1 ⟨rfl, hb1⟩
      rw [h1]
      have bx1 := Lib.hid (bx0.out.keep hb1)
      have bl1 := bel_trans bl0 hb1
      obtain ⟨c0_1, c1_1, c2_1, hk1⟩ := bx1.out
      go_wp2_with fail
      refine (l1In_any _ _ _ _).mono ?_
      rintro e w8 ⟨rfl, rfl⟩
      rw [h2]
      go_wp2_with fail
      go_ret3
      exact ⟨rfl, bl1⟩
    · skip
      rw [show ansChRun a b c s n = lowV ((c - chg a b (sgn s 0)) ^ (n.toNat - 1) * chg a b (sgn s 0)) (c ^ n.toNat) from by unfold ansChRun; rw [h1, h2]; rfl]
      unfold lowV
      have hn := (inB_iff n 1 8).1 h2
      obtain ⟨n1, n8⟩ := hn
      have h1a : good a b c = true := by simp at h1; exact h1.1
      have h1b : dayS s = true := by simp at h1; exact h1.2
      have hr := inR_of h1a
      have hd := day_val h1b
      have r := hr
      unfold inR at r
      obtain ⟨r1, r2, r3, r4, r5, r6⟩ := r
      have zs : 0 < s.size := by rw [day_size h1b]; omega
      have e1 := sgn_at s 0 zs
      obtain ⟨g0, g1⟩ := chg_in hr (sgn s 0)
      obtain ⟨m, rfl⟩ := Int.eq_ofNat_of_zero_le (show 0 ≤ n by omega)
      rw [show ((m : Int)).toNat = m from rfl]
      obtain ⟨p0, p1⟩ := pow_le9 (c - chg a b (sgn s 0)) (by omega) (by omega) (m - 1) (by omega)
      obtain ⟨q0, q1⟩ := pow_le9 c (by omega) r6 m (by omega)
      have q2 := pow_pos' r5 m
      obtain ⟨m0, m1⟩ := mul_bd p0 p1 g0 (show chg a b (sgn s 0) ≤ 10 by omega)
      generalize hst : c - chg a b (sgn s 0) = st at *
      have Hst := Lib.hid hst
      have hwst : IntKind.i64.wrap (c - chg a b (sgn s 0)) = st := by rw [IntWalk.i64_in _ (by omega)]; exact hst
      clear hst
      have st0 : 0 ≤ st := by have := Hst.out; omega
      have st1 : st ≤ 10 := by have := Hst.out; omega
      go_enter Try.func37, Try.ntmps37
      go_wp2_with fail
      refine (cnDay_any a b c s _ hs).mono ?_
      rintro e w1 ⟨rfl, hb1⟩
      rw [h1]
      have bx1 := Lib.hid (bx0.out.keep hb1)
      have bl1 := bel_trans bl0 hb1
      obtain ⟨c0_1, c1_1, c2_1, hk1⟩ := bx1.out
      go_wp2_with fail
      refine (l1In_any _ _ _ _).mono ?_
      rintro e w8 ⟨rfl, rfl⟩
      rw [h2]
      go_wp2_with fail
      go_region_held3 (fun w' => w'.cell? ⟨w.heap.size, 0, none⟩ = some (.int .i64 a) ∧ w'.cell? ⟨w.heap.size, 1, none⟩ = some (.int .i64 b) ∧ w'.cell? ⟨w.heap.size, 2, none⟩ = some (.int .i64 c) ∧ w.heap.size < w'.heap.size ∧ Below w.heap.size w w')
        (first | exact held3_start bx1.out bl1 | exact held3_keep (by assumption) hb3 | exact held3_drewN (by assumption) _ | assumption | go_keep)
        (first | (go_at_call 77; refine (cnLeave_any a b c (sgn s 0) _ hd).mono ?_; rintro e w3 ⟨rfl, hb3⟩))
      all_goals
        obtain ⟨hbx9, hbl9⟩ := held3_below (by assumption)
        have Hbx9 := Lib.hid hbx9
        clear hbx9
        go_wp2_with fail
        go_loopw [9, 10, 11] (fun x y i wr => ∃ k : Nat, 1 ≤ k ∧ k ≤ m ∧ i = .int .i64 k ∧ x = .int .i64 (st ^ (k - 1) * chg a b (sgn s 0)) ∧ y = .int .i64 (c ^ k) ∧ Hid (Box3 wr w.heap.size (.int .i64 a) (.int .i64 b) (.int .i64 c)) ∧ Below w.heap.size w wr) (fun _ _ i _ => m - (intOf i).toNat)
        case atStart => exact ⟨1, by omega, by omega, rfl, by simp, by rw [show c ^ 1 = c from by rw [Int.pow_succ, Int.pow_zero, Int.one_mul]], Hbx9, hbl9⟩
        case round =>
          obtain ⟨k, hk1, hk, rfl, rfl, rfl, hbx, hbl⟩ := hrel
          obtain ⟨u0, u1⟩ := pow_le9 st st0 st1 (k - 1) (by omega)
          obtain ⟨v0, v1⟩ := pow_le9 c (by omega) r6 k (by omega)
          obtain ⟨x0, x1⟩ := mul_bd u0 u1 g0 (show chg a b (sgn s 0) ≤ 10 by omega)
          by_cases hlt : k < m
          · obtain ⟨y0, y1⟩ := mul_bd x0 x1 st0 st1
            obtain ⟨z0, z1⟩ := mul_bd v0 v1 (show 0 ≤ c by omega) r6
            have sx : st ^ (k - 1) * chg a b (sgn s 0) * st = st ^ (k + 1 - 1) * chg a b (sgn s 0) := by
              rw [show k + 1 - 1 = k from by omega, ← pow_pred st k hk1, Int.mul_assoc, Int.mul_comm (chg a b (sgn s 0)), ← Int.mul_assoc]
            have Sx := Lib.hid sx
            clear sx
            have sy := Lib.hid (Int.pow_succ c k)
            have hm1 : IntKind.i64.wrap (st ^ (k - 1) * chg a b (sgn s 0) * st) = st ^ (k - 1) * chg a b (sgn s 0) * st := IntWalk.i64_in _ (by omega)
            go_wp2_with fail
            go_region_held3 (fun w' => w'.cell? ⟨w.heap.size, 0, none⟩ = some (.int .i64 a) ∧ w'.cell? ⟨w.heap.size, 1, none⟩ = some (.int .i64 b) ∧ w'.cell? ⟨w.heap.size, 2, none⟩ = some (.int .i64 c) ∧ w.heap.size < w'.heap.size ∧ Below w.heap.size w w') (first | exact held3_start hbx.out hbl | exact held3_keep (by assumption) hb4 | exact held3_drewN (by assumption) _ | assumption | go_keep) (first | (go_at_call 77; refine (cnLeave_any a b c (sgn s 0) _ hd).mono ?_; rintro e w4 ⟨rfl, hb4⟩))
            all_goals
              obtain ⟨hbx1, hbl1⟩ := held3_below (by assumption)
              have Hbx1 := Lib.hid hbx1
              obtain ⟨d0, d1, d2, d3⟩ := hbx1
              go_wp2
              exact ⟨⟨k + 1, by omega, by omega, by go_num, by rw [← Sx.out], by rw [sy.out], Hbx1, hbl1⟩, by simp [intOf]; omega⟩
          · have hkm : k = m := by omega
            have Hkm := Lib.hid hkm
            clear hkm
            have q3 := pow_pos' r5 k
            go_wp2_with fail
            refine (cnLow_any (st ^ (k - 1) * chg a b (sgn s 0)) (c ^ k) _ x0 q3 (by omega) (by omega)).mono ?_
            rintro e wd6 ⟨rfl, nd6, rfl⟩
            go_wp2_with fail
            go_ret3
            exact ⟨by rw [← Hkm.out]; rfl, bel_drewN hbl _⟩

set_option maxHeartbeats 1600000 in
theorem implChRun_any (a b c : Int) (s : ByteArray) (n : Int) (w : World) (hs : s.size ≤ maxLen) :
    Calls Try.prog 38 #[chn a b c, .string s, .int .i64 n] w fun e w' => e = .returned (ansChRun a b c s n) ∧ Below w.heap.size w w' := by
  have bx0 := Lib.hid (Box3.new w (.int .i64 a) (.int .i64 b) (.int .i64 c) 25)
  have bl0 : Below w.heap.size w (w.alloc (.cells #[.int .i64 a, .int .i64 b, .int .i64 c] 25)) := bel_alloc (Below.refl _ _) _
  cases h1 : (good a b c && dayS s)
  · skip
    rw [show ansChRun a b c s n = failV from by unfold ansChRun; rw [h1]; rfl]
    unfold failV
    go_enter Try.func38, Try.ntmps38
    go_wp2_with fail
    refine (isDayOf_any a b c s _ hs).mono ?_
    rintro e w1 ⟨rfl, hb1⟩
    rw [h1]
    have bx1 := Lib.hid (bx0.out.keep hb1)
    have bl1 := bel_trans bl0 hb1
    obtain ⟨c0_1, c1_1, c2_1, hk1⟩ := bx1.out
    go_wp2_with fail
    go_ret3
    exact ⟨rfl, bl1⟩
  · cases h2 : inB n 1 8
    · skip
      rw [show ansChRun a b c s n = failV from by unfold ansChRun; rw [h1, h2]; rfl]
      unfold failV
      by_cases h3 : n < 1
      · have hq : decide (n < 1) = true := by simpa using h3
        go_enter Try.func38, Try.ntmps38
        go_wp2_with fail
        refine (isDayOf_any a b c s _ hs).mono ?_
        rintro e w1 ⟨rfl, hb1⟩
        rw [h1]
        have bx1 := Lib.hid (bx0.out.keep hb1)
        have bl1 := bel_trans bl0 hb1
        obtain ⟨c0_1, c1_1, c2_1, hk1⟩ := bx1.out
        go_wp2_with fail
        go_ret3
        exact ⟨rfl, bl1⟩
      · have hq : decide (n < 1) = false := by simpa using h3
        have hq2 : decide (8 < n) = true := by simp [inB] at h2; simp; omega
        have hq3 : 8 < n := by simp [inB] at h2; omega
        go_enter Try.func38, Try.ntmps38
        go_wp2_with fail
        refine (isDayOf_any a b c s _ hs).mono ?_
        rintro e w1 ⟨rfl, hb1⟩
        rw [h1]
        have bx1 := Lib.hid (bx0.out.keep hb1)
        have bl1 := bel_trans bl0 hb1
        obtain ⟨c0_1, c1_1, c2_1, hk1⟩ := bx1.out
        go_wp2_with fail
        go_ret3
        exact ⟨rfl, bl1⟩
    · skip
      rw [show ansChRun a b c s n = lowV ((c - chg a b (sgn s 0)) ^ (n.toNat - 1) * chg a b (sgn s 0)) (c ^ n.toNat) from by unfold ansChRun; rw [h1, h2]; rfl]
      unfold lowV
      have hn := (inB_iff n 1 8).1 h2
      obtain ⟨n1, n8⟩ := hn
      have h1a : good a b c = true := by simp at h1; exact h1.1
      have h1b : dayS s = true := by simp at h1; exact h1.2
      have hr := inR_of h1a
      have hd := day_val h1b
      have r := hr
      unfold inR at r
      obtain ⟨r1, r2, r3, r4, r5, r6⟩ := r
      have zs : 0 < s.size := by rw [day_size h1b]; omega
      have e1 := sgn_at s 0 zs
      obtain ⟨g0, g1⟩ := chg_in hr (sgn s 0)
      obtain ⟨m, rfl⟩ := Int.eq_ofNat_of_zero_le (show 0 ≤ n by omega)
      rw [show ((m : Int)).toNat = m from rfl]
      obtain ⟨p0, p1⟩ := pow_le9 (c - chg a b (sgn s 0)) (by omega) (by omega) (m - 1) (by omega)
      obtain ⟨q0, q1⟩ := pow_le9 c (by omega) r6 m (by omega)
      have q2 := pow_pos' r5 m
      obtain ⟨m0, m1⟩ := mul_bd p0 p1 g0 (show chg a b (sgn s 0) ≤ 10 by omega)
      have hw1 : IntKind.i64.wrap ((m : Int) - 1) = ((m - 1 : Nat) : Int) := by rw [IntWalk.i64_in _ (by omega)]; omega
      have hm1 : IntKind.i64.wrap ((c - chg a b (sgn s 0)) ^ (m - 1) * chg a b (sgn s 0)) = (c - chg a b (sgn s 0)) ^ (m - 1) * chg a b (sgn s 0) := IntWalk.i64_in _ (by omega)
      have hq2 : decide ((8 : Int) < (m : Int)) = false := by simp; omega
      have hq1 : decide ((m : Int) < 1) = false := by simp; omega
      go_enter Try.func38, Try.ntmps38
      go_wp2_with fail
      refine (isDayOf_any a b c s _ hs).mono ?_
      rintro e w1 ⟨rfl, hb1⟩
      rw [h1]
      have bx1 := Lib.hid (bx0.out.keep hb1)
      have bl1 := bel_trans bl0 hb1
      obtain ⟨c0_1, c1_1, c2_1, hk1⟩ := bx1.out
      go_wp2_with fail
      go_region
      have cx := bx1.out.keep (bel_alloc (Below.refl _ w1) (.cells #[.int .i64 a, .int .i64 b, .int .i64 c, .int .u8 (sgn s 0)] 62))
      have cy := Box4.new w1 (.int .i64 a) (.int .i64 b) (.int .i64 c) (.int .u8 (sgn s 0)) 62
      have Cx : Hid (Box3 (w1.alloc (.cells #[.int .i64 a, .int .i64 b, .int .i64 c, .int .u8 (sgn s 0)] 62)).drew w.heap.size (.int .i64 a) (.int .i64 b) (.int .i64 c)) := ⟨cx.1, cx.2.1, cx.2.2.1, cx.2.2.2⟩
      have Cy : Hid (Box4 (w1.alloc (.cells #[.int .i64 a, .int .i64 b, .int .i64 c, .int .u8 (sgn s 0)] 62)).drew w1.heap.size (.int .i64 a) (.int .i64 b) (.int .i64 c) (.int .u8 (sgn s 0))) := ⟨cy.1, cy.2.1, cy.2.2.1, cy.2.2.2.1, cy.2.2.2.2⟩
      have blc : Below w.heap.size w (w1.alloc (.cells #[.int .i64 a, .int .i64 b, .int .i64 c, .int .u8 (sgn s 0)] 62)).drew := (bel_alloc bl1 _).drew
      clear cx cy
      go_wp2_with fail
      go_region_held3 (fun w' => w'.cell? ⟨w.heap.size, 0, none⟩ = some (.int .i64 a) ∧ w'.cell? ⟨w.heap.size, 1, none⟩ = some (.int .i64 b) ∧ w'.cell? ⟨w.heap.size, 2, none⟩ = some (.int .i64 c) ∧ w.heap.size < w'.heap.size ∧ w'.cell? ⟨w1.heap.size, 0, none⟩ = some (.int .i64 a) ∧ w'.cell? ⟨w1.heap.size, 1, none⟩ = some (.int .i64 b) ∧ w'.cell? ⟨w1.heap.size, 2, none⟩ = some (.int .i64 c) ∧ w'.cell? ⟨w1.heap.size, 3, none⟩ = some (.int .u8 (sgn s 0)) ∧ w1.heap.size < w'.heap.size ∧ Below w.heap.size w w')
        (first | exact held34_start Cx.out Cy.out blc | exact held34_keep (by assumption) hb5 | exact held34_keep (by assumption) hb6 | exact held34_drewN (by assumption) _ | assumption | go_keep)
        (first | (go_at_call 79; refine (staying_any a b c (sgn s 0) _ hd hr).mono ?_; rintro e w5 ⟨rfl, hb5⟩) | (go_at_call 78; refine (changing_any a b c (sgn s 0) _ hd).mono ?_; rintro e w6 ⟨rfl, hb6⟩) | (go_at_call_of 69 (Value.int IntKind.i64 (c - chg a b (sgn s 0))); refine (power_any (c - chg a b (sgn s 0)) (m - 1) _ (by omega) (by omega) (by omega)).mono ?_; rintro e w7 ⟨rfl, rfl⟩) | (go_at_call_of 69 (Value.int IntKind.i64 c); refine (power_any c m _ (by omega) r6 (by omega)).mono ?_; rintro e w7 ⟨rfl, rfl⟩) | (go_at_call 66; refine (told_any ((c - chg a b (sgn s 0)) ^ (m - 1) * chg a b (sgn s 0)) (c ^ m) _ m0 q2 (by omega) (by omega)).mono ?_; rintro e w8 ⟨rfl, n8, rfl⟩))
      all_goals
        obtain ⟨_, _, hbl9⟩ := held34_below (by assumption)
        go_wp2
        go_ret3
        exact ⟨rfl, hbl9⟩

set_option maxHeartbeats 800000 in
theorem walkExactChanceOfRun (a b c : Int) (s : ByteArray) (n : Int) (w : World) (ha : (Lit.int .i64 a).wf = true) (hb : (Lit.int .i64 b).wf = true) (hc : (Lit.int .i64 c).wf = true) (hs : s.size ≤ maxLen) (hn : (Lit.int .i64 n).wf = true) :
    Calls Try.prog 11 #[chn a b c, .string s, .int .i64 n] w fun e w' => e = .returned (.bool true) ∧ Below w.heap.size w w' := by
  clear ha hb hc
  clear hn
  by_cases zs : s.size ≤ 1048576
  · skip
    obtain ⟨x, y, o, hv⟩ := ansChRun_form a b c s n
    have Hv := Lib.hid hv
    clear hv
    have bx0 := Lib.hid (Box3.new w (.int .i64 a) (.int .i64 b) (.int .i64 c) 23)
    have bl0 : Below w.heap.size w (w.alloc (.cells #[.int .i64 a, .int .i64 b, .int .i64 c] 23)) := bel_alloc (Below.refl _ _) _
    go_enter Try.func11, Try.ntmps11
    go_wp2_with fail
    refine (toChain_any _ _ _ _).mono ?_
    rintro e w1 ⟨rfl, hb1⟩
    have bx1 := Lib.hid (bx0.out.keep hb1)
    have bl1 := bel_trans bl0 hb1
    obtain ⟨c0_1, c1_1, c2_1, hk1⟩ := bx1.out
    go_wp2_with fail
    refine (specChRun_any a b c s n _ hs).mono ?_
    rintro e w2 ⟨rfl, hb2⟩
    rw [Hv.out]
    have bx2 := Lib.hid (bx1.out.keep hb2)
    have bl2 := bel_trans bl1 hb2
    obtain ⟨c0_2, c1_2, c2_2, hk2⟩ := bx2.out
    go_wp2_with fail
    refine (toChain_any _ _ _ _).mono ?_
    rintro e w3 ⟨rfl, hb3⟩
    have bx3 := Lib.hid (bx2.out.keep hb3)
    have bl3 := bel_trans bl2 hb3
    obtain ⟨c0_3, c1_3, c2_3, hk3⟩ := bx3.out
    go_wp2_with fail
    refine (implChRun_any a b c s n _ hs).mono ?_
    rintro e w4 ⟨rfl, hb4⟩
    rw [Hv.out]
    have bx4 := Lib.hid (bx3.out.keep hb4)
    have bl4 := bel_trans bl3 hb4
    obtain ⟨c0_4, c1_4, c2_4, hk4⟩ := bx4.out
    go_wp2_with fail
    go_ret
    exact ⟨rfl, bl4⟩
  · go_enter Try.func11, Try.ntmps11
    go_wp2
    go_ret
    exact ⟨rfl, bel_alloc (Below.refl _ _) _⟩
end Go.Proofs.Ytkehgokgngimgaa
