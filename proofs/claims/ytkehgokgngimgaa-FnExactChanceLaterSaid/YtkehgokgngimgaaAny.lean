/- ChanceOfAny, ChanceOfRun, MeanUntil: the contracts of the program and of its model, and the laws' walks. -/
import Derived.Test.YtkehgokgngimgaaChDays
import Derived.BigRegion
namespace Go.Proofs.Ytkehgokgngimgaa
open Go.ChangeShapes Go.WideShapes Go.ChangeAt Go.RowKit
set_option linter.unusedVariables false

theorem held34_start {w W : World} {k l : Nat} {x y z p q r u : Value} (h : Box3 W k x y z) (h4 : Box4 W l p q r u) (hb : Below w.heap.size w W) : let V := W.drew
    V.cell? ⟨k, 0, none⟩ = some x ∧ V.cell? ⟨k, 1, none⟩ = some y ∧ V.cell? ⟨k, 2, none⟩ = some z ∧ k < V.heap.size ∧ V.cell? ⟨l, 0, none⟩ = some p ∧ V.cell? ⟨l, 1, none⟩ = some q ∧ V.cell? ⟨l, 2, none⟩ = some r ∧ V.cell? ⟨l, 3, none⟩ = some u ∧ l < V.heap.size ∧ Below w.heap.size w V := ⟨h.1, h.2.1, h.2.2.1, h.2.2.2, h4.1, h4.2.1, h4.2.2.1, h4.2.2.2.1, h4.2.2.2.2, hb.drew⟩
theorem held34_keep {w W w1 : World} {k l : Nat} {x y z p q r u : Value} (h : W.cell? ⟨k, 0, none⟩ = some x ∧ W.cell? ⟨k, 1, none⟩ = some y ∧ W.cell? ⟨k, 2, none⟩ = some z ∧ k < W.heap.size ∧ W.cell? ⟨l, 0, none⟩ = some p ∧ W.cell? ⟨l, 1, none⟩ = some q ∧ W.cell? ⟨l, 2, none⟩ = some r ∧ W.cell? ⟨l, 3, none⟩ = some u ∧ l < W.heap.size ∧ Below w.heap.size w W) (hb : Below W.heap.size W w1) : w1.cell? ⟨k, 0, none⟩ = some x ∧ w1.cell? ⟨k, 1, none⟩ = some y ∧ w1.cell? ⟨k, 2, none⟩ = some z ∧ k < w1.heap.size ∧ w1.cell? ⟨l, 0, none⟩ = some p ∧ w1.cell? ⟨l, 1, none⟩ = some q ∧ w1.cell? ⟨l, 2, none⟩ = some r ∧ w1.cell? ⟨l, 3, none⟩ = some u ∧ l < w1.heap.size ∧ Below w.heap.size w w1 := by
  obtain ⟨a1, a2, a3, a4, b1, b2, b3, b4, b5, hl⟩ := h
  have b : Box3 w1 k x y z := Box3.keep ⟨a1, a2, a3, a4⟩ hb
  have d : Box4 w1 l p q r u := Box4.keep ⟨b1, b2, b3, b4, b5⟩ hb
  exact ⟨b.1, b.2.1, b.2.2.1, b.2.2.2, d.1, d.2.1, d.2.2.1, d.2.2.2.1, d.2.2.2.2, bel_trans hl hb⟩
theorem held34_drewN {w W : World} {k l : Nat} {x y z p q r u : Value} (h : W.cell? ⟨k, 0, none⟩ = some x ∧ W.cell? ⟨k, 1, none⟩ = some y ∧ W.cell? ⟨k, 2, none⟩ = some z ∧ k < W.heap.size ∧ W.cell? ⟨l, 0, none⟩ = some p ∧ W.cell? ⟨l, 1, none⟩ = some q ∧ W.cell? ⟨l, 2, none⟩ = some r ∧ W.cell? ⟨l, 3, none⟩ = some u ∧ l < W.heap.size ∧ Below w.heap.size w W) (n : Nat) : let V := W.drewN n
    V.cell? ⟨k, 0, none⟩ = some x ∧ V.cell? ⟨k, 1, none⟩ = some y ∧ V.cell? ⟨k, 2, none⟩ = some z ∧ k < V.heap.size ∧ V.cell? ⟨l, 0, none⟩ = some p ∧ V.cell? ⟨l, 1, none⟩ = some q ∧ V.cell? ⟨l, 2, none⟩ = some r ∧ V.cell? ⟨l, 3, none⟩ = some u ∧ l < V.heap.size ∧ Below w.heap.size w V := by
  obtain ⟨a1, a2, a3, a4, b1, b2, b3, b4, b5, hl⟩ := h
  exact ⟨a1, a2, a3, a4, b1, b2, b3, b4, b5, bel_drewN hl n⟩
theorem held34_below {w W : World} {k l : Nat} {x y z p q r u : Value} (h : W.cell? ⟨k, 0, none⟩ = some x ∧ W.cell? ⟨k, 1, none⟩ = some y ∧ W.cell? ⟨k, 2, none⟩ = some z ∧ k < W.heap.size ∧ W.cell? ⟨l, 0, none⟩ = some p ∧ W.cell? ⟨l, 1, none⟩ = some q ∧ W.cell? ⟨l, 2, none⟩ = some r ∧ W.cell? ⟨l, 3, none⟩ = some u ∧ l < W.heap.size ∧ Below w.heap.size w W) : Box3 W k x y z ∧ Box4 W l p q r u ∧ Below w.heap.size w W := by
  obtain ⟨a1, a2, a3, a4, b1, b2, b3, b4, b5, hl⟩ := h
  exact ⟨⟨a1, a2, a3, a4⟩, ⟨b1, b2, b3, b4, b5⟩, hl⟩

theorem mul_bd {x y A B : Int} (hx : 0 ≤ x) (hxA : x ≤ A) (hy : 0 ≤ y) (hyB : y ≤ B) : 0 ≤ x * y ∧ x * y ≤ A * B :=
  ⟨Int.mul_nonneg hx hy, Int.mul_le_mul hxA hyB hy (by omega)⟩
theorem mul_ge1 {x y : Int} (hx : 1 ≤ x) (hy : 1 ≤ y) : 1 ≤ x * y := by
  have : x * 1 ≤ x * y := Int.mul_le_mul_of_nonneg_left hy (by omega)
  omega

def ansAny (a b c : Int) (s : ByteArray) : Value :=
  if good a b c && (daysB s && (decide (s.size ≤ 8) && mixB a b)) then lowV (flw a b c s s.size * chg a b (219 - sgn s 0)) (c ^ (s.size - 1) * (a + b)) else failV
theorem ansAny_form (a b c : Int) (s : ByteArray) : ∃ (x y : Int) (o : Bool), ansAny a b c s = .tuple #[.int .i64 x, .int .i64 y, .bool o] := if_form _ (lowV_form _ _) failV_form

set_option maxHeartbeats 1600000 in
theorem specAny_any (a b c : Int) (s : ByteArray) (w : World) (hs : s.size ≤ maxLen) :
    Calls Try.prog 33 #[chn a b c, .string s] w fun e w' => e = .returned (ansAny a b c s) ∧ Below w.heap.size w w' := by
  have bx0 := Lib.hid (Box3.new w (.int .i64 a) (.int .i64 b) (.int .i64 c) 25)
  have bl0 : Below w.heap.size w (w.alloc (.cells #[.int .i64 a, .int .i64 b, .int .i64 c] 25)) := bel_alloc (Below.refl _ _) _
  cases h1 : good a b c
  · skip
    rw [show ansAny a b c s = failV from by unfold ansAny; rw [h1]; rfl]
    unfold failV
    go_enter Try.func33, Try.ntmps33
    go_wp2_with fail
    refine (cnGood_any a b c _).mono ?_
    rintro e w1 ⟨rfl, hb1⟩
    rw [h1]
    have bx1 := Lib.hid (bx0.out.keep hb1)
    have bl1 := bel_trans bl0 hb1
    obtain ⟨c0_1, c1_1, c2_1, hk1⟩ := bx1.out
    go_wp2_with fail
    go_ret3
    exact ⟨rfl, bl1⟩
  · cases h2 : daysB s
    · skip
      rw [show ansAny a b c s = failV from by unfold ansAny; rw [h1, h2]; rfl]
      unfold failV
      go_enter Try.func33, Try.ntmps33
      go_wp2_with fail
      refine (cnGood_any a b c _).mono ?_
      rintro e w1 ⟨rfl, hb1⟩
      rw [h1]
      have bx1 := Lib.hid (bx0.out.keep hb1)
      have bl1 := bel_trans bl0 hb1
      obtain ⟨c0_1, c1_1, c2_1, hk1⟩ := bx1.out
      go_wp2_with fail
      refine (cnDays_any s _ hs).mono ?_
      rintro e w8 ⟨rfl, rfl⟩
      rw [h2]
      go_wp2_with fail
      go_ret3
      exact ⟨rfl, bl1⟩
    · by_cases h3 : s.size ≤ 8
      · have hz : decide ((8 : Int) < (s.size : Int)) = false := by simp; omega
        cases h4 : mixB a b
        · skip
          rw [show ansAny a b c s = failV from by unfold ansAny; rw [h1, h2, decide_eq_true h3, h4]; rfl]
          unfold failV
          go_enter Try.func33, Try.ntmps33
          go_wp2_with fail
          refine (cnGood_any a b c _).mono ?_
          rintro e w1 ⟨rfl, hb1⟩
          rw [h1]
          have bx1 := Lib.hid (bx0.out.keep hb1)
          have bl1 := bel_trans bl0 hb1
          obtain ⟨c0_1, c1_1, c2_1, hk1⟩ := bx1.out
          go_wp2_with fail
          refine (cnDays_any s _ hs).mono ?_
          rintro e w8 ⟨rfl, rfl⟩
          rw [h2]
          go_wp2_with fail
          refine (cnMixes_any a b c _).mono ?_
          rintro e w2 ⟨rfl, hb2⟩
          rw [h4]
          have bx2 := Lib.hid (bx1.out.keep hb2)
          have bl2 := bel_trans bl1 hb2
          obtain ⟨c0_2, c1_2, c2_2, hk2⟩ := bx2.out
          go_wp2_with fail
          go_ret3
          exact ⟨rfl, bl2⟩
        · skip
          rw [show ansAny a b c s = lowV (flw a b c s s.size * chg a b (219 - sgn s 0)) (c ^ (s.size - 1) * (a + b)) from by unfold ansAny; rw [h1, h2, decide_eq_true h3, h4]; rfl]
          unfold lowV
          obtain ⟨g1, g2⟩ := days_facts h2
          have hr := inR_of h1
          have r := hr
          unfold inR at r
          obtain ⟨r1, r2, r3, r4, r5, r6⟩ := r
          obtain ⟨p0, p1⟩ := flw_le9 hr s s.size (by omega)
          obtain ⟨q0, q1⟩ := pow_le9 c (by omega) r6 (s.size - 1) (by omega)
          have q2 := pow_pos' r5 (s.size - 1)
          have g4 : 1 ≤ a ∧ 1 ≤ b := by simpa [mixB] using h4
          have hd := sgn_day s 0 (by omega) g2
          obtain ⟨t0, t1⟩ := chg_in hr (219 - sgn s 0)
          obtain ⟨m0, m1⟩ := mul_bd p0 p1 t0 (show chg a b (219 - sgn s 0) ≤ 10 by omega)
          obtain ⟨m2, m3⟩ := mul_bd q0 q1 (show 0 ≤ a + b by omega) (show a + b ≤ 20 by omega)
          have m4 := mul_ge1 q2 (show 1 ≤ a + b by omega)
          have zs : 0 < s.size := by omega
          have e1 := sgn_at s 0 zs
          have hab : IntKind.i64.wrap (a + b) = a + b := IntWalk.i64_in _ (by omega)
          have hm1 : IntKind.i64.wrap (flw a b c s s.size * chg a b (219 - sgn s 0)) = flw a b c s s.size * chg a b (219 - sgn s 0) := IntWalk.i64_in _ (by omega)
          have hm2 : IntKind.i64.wrap (c ^ (s.size - 1) * (a + b)) = c ^ (s.size - 1) * (a + b) := IntWalk.i64_in _ (by omega)
          go_enter Try.func33, Try.ntmps33
          go_wp2_with fail
          refine (cnGood_any a b c _).mono ?_
          rintro e w1 ⟨rfl, hb1⟩
          rw [h1]
          have bx1 := Lib.hid (bx0.out.keep hb1)
          have bl1 := bel_trans bl0 hb1
          obtain ⟨c0_1, c1_1, c2_1, hk1⟩ := bx1.out
          go_wp2_with fail
          refine (cnDays_any s _ hs).mono ?_
          rintro e w8 ⟨rfl, rfl⟩
          rw [h2]
          go_wp2_with fail
          refine (cnMixes_any a b c _).mono ?_
          rintro e w2 ⟨rfl, hb2⟩
          rw [h4]
          have bx2 := Lib.hid (bx1.out.keep hb2)
          have bl2 := bel_trans bl1 hb2
          obtain ⟨c0_2, c1_2, c2_2, hk2⟩ := bx2.out
          go_wp2_with fail
          refine (cnFollow_any a b c s _ hr g2 g1 (by omega)).mono ?_
          rintro e w3 ⟨rfl, hb3⟩
          have bx3 := Lib.hid (bx2.out.keep hb3)
          have bl3 := bel_trans bl2 hb3
          obtain ⟨c0_3, c1_3, c2_3, hk3⟩ := bx3.out
          go_wp2_with fail
          go_region_held3 (fun w' => w'.cell? ⟨w.heap.size, 0, none⟩ = some (.int .i64 a) ∧ w'.cell? ⟨w.heap.size, 1, none⟩ = some (.int .i64 b) ∧ w'.cell? ⟨w.heap.size, 2, none⟩ = some (.int .i64 c) ∧ w.heap.size < w'.heap.size ∧ Below w.heap.size w w')
            (first | exact held3_start bx3.out bl3 | exact held3_keep (by assumption) hb4 | exact held3_drewN (by assumption) _ | assumption | go_keep)
            (first | (go_at_call 74; refine (cnShare_any a b c (sgn s 0) _ hd hr).mono ?_; rintro e w4 ⟨rfl, hb4⟩))
          all_goals
            obtain ⟨hbx9, hbl9⟩ := held3_below (by assumption)
            go_wp2_with fail
            refine (cnLow_any (flw a b c s s.size * chg a b (219 - sgn s 0)) (c ^ (s.size - 1) * (a + b)) _ m0 m4 (by omega) (by omega)).mono ?_
            rintro e wd5 ⟨rfl, nd5, rfl⟩
            go_wp2_with fail
            go_ret3
            exact ⟨rfl, bel_drewN hbl9 _⟩
      · have hz : decide ((8 : Int) < (s.size : Int)) = true := by simp; omega
        rw [show ansAny a b c s = failV from by unfold ansAny; rw [h1, h2, decide_eq_false h3]; rfl]
        unfold failV
        go_enter Try.func33, Try.ntmps33
        go_wp2_with fail
        refine (cnGood_any a b c _).mono ?_
        rintro e w1 ⟨rfl, hb1⟩
        rw [h1]
        have bx1 := Lib.hid (bx0.out.keep hb1)
        have bl1 := bel_trans bl0 hb1
        obtain ⟨c0_1, c1_1, c2_1, hk1⟩ := bx1.out
        go_wp2_with fail
        refine (cnDays_any s _ hs).mono ?_
        rintro e w8 ⟨rfl, rfl⟩
        rw [h2]
        go_wp2_with fail
        go_ret3
        exact ⟨rfl, bl1⟩

set_option maxHeartbeats 1600000 in
theorem implAny_any (a b c : Int) (s : ByteArray) (w : World) (hs : s.size ≤ maxLen) :
    Calls Try.prog 34 #[chn a b c, .string s] w fun e w' => e = .returned (ansAny a b c s) ∧ Below w.heap.size w w' := by
  have bx0 := Lib.hid (Box3.new w (.int .i64 a) (.int .i64 b) (.int .i64 c) 25)
  have bl0 : Below w.heap.size w (w.alloc (.cells #[.int .i64 a, .int .i64 b, .int .i64 c] 25)) := bel_alloc (Below.refl _ _) _
  cases h1 : good a b c
  · skip
    rw [show ansAny a b c s = failV from by unfold ansAny; rw [h1]; rfl]
    unfold failV
    go_enter Try.func34, Try.ntmps34
    go_wp2_with fail
    refine (implIsChain_any a b c _).mono ?_
    rintro e w1 ⟨rfl, hb1⟩
    rw [h1]
    have bx1 := Lib.hid (bx0.out.keep hb1)
    have bl1 := bel_trans bl0 hb1
    obtain ⟨c0_1, c1_1, c2_1, hk1⟩ := bx1.out
    go_wp2_with fail
    go_ret3
    exact ⟨rfl, bl1⟩
  · cases h2 : daysB s
    · skip
      rw [show ansAny a b c s = failV from by unfold ansAny; rw [h1, h2]; rfl]
      unfold failV
      go_enter Try.func34, Try.ntmps34
      go_wp2_with fail
      refine (implIsChain_any a b c _).mono ?_
      rintro e w1 ⟨rfl, hb1⟩
      rw [h1]
      have bx1 := Lib.hid (bx0.out.keep hb1)
      have bl1 := bel_trans bl0 hb1
      obtain ⟨c0_1, c1_1, c2_1, hk1⟩ := bx1.out
      go_wp2_with fail
      refine (implAreDays_any s _ hs).mono ?_
      rintro e w8 ⟨rfl, rfl⟩
      rw [h2]
      go_wp2_with fail
      go_ret3
      exact ⟨rfl, bl1⟩
    · by_cases h3 : s.size ≤ 8
      · have hz : decide ((8 : Int) < (s.size : Int)) = false := by simp; omega
        cases h4 : mixB a b
        · skip
          rw [show ansAny a b c s = failV from by unfold ansAny; rw [h1, h2, decide_eq_true h3, h4]; rfl]
          unfold failV
          go_enter Try.func34, Try.ntmps34
          go_wp2_with fail
          refine (implIsChain_any a b c _).mono ?_
          rintro e w1 ⟨rfl, hb1⟩
          rw [h1]
          have bx1 := Lib.hid (bx0.out.keep hb1)
          have bl1 := bel_trans bl0 hb1
          obtain ⟨c0_1, c1_1, c2_1, hk1⟩ := bx1.out
          go_wp2_with fail
          refine (implAreDays_any s _ hs).mono ?_
          rintro e w8 ⟨rfl, rfl⟩
          rw [h2]
          go_wp2_with fail
          refine (mixes_any a b c _).mono ?_
          rintro e w2 ⟨rfl, hb2⟩
          rw [h4]
          have bx2 := Lib.hid (bx1.out.keep hb2)
          have bl2 := bel_trans bl1 hb2
          obtain ⟨c0_2, c1_2, c2_2, hk2⟩ := bx2.out
          go_wp2_with fail
          go_ret3
          exact ⟨rfl, bl2⟩
        · skip
          rw [show ansAny a b c s = lowV (flw a b c s s.size * chg a b (219 - sgn s 0)) (c ^ (s.size - 1) * (a + b)) from by unfold ansAny; rw [h1, h2, decide_eq_true h3, h4]; rfl]
          unfold lowV
          obtain ⟨g1, g2⟩ := days_facts h2
          have hr := inR_of h1
          have r := hr
          unfold inR at r
          obtain ⟨r1, r2, r3, r4, r5, r6⟩ := r
          obtain ⟨p0, p1⟩ := flw_le9 hr s s.size (by omega)
          obtain ⟨q0, q1⟩ := pow_le9 c (by omega) r6 (s.size - 1) (by omega)
          have q2 := pow_pos' r5 (s.size - 1)
          have g4 : 1 ≤ a ∧ 1 ≤ b := by simpa [mixB] using h4
          have hd := sgn_day s 0 (by omega) g2
          obtain ⟨t0, t1⟩ := chg_in hr (219 - sgn s 0)
          obtain ⟨m0, m1⟩ := mul_bd p0 p1 t0 (show chg a b (219 - sgn s 0) ≤ 10 by omega)
          obtain ⟨m2, m3⟩ := mul_bd q0 q1 (show 0 ≤ a + b by omega) (show a + b ≤ 20 by omega)
          have m4 := mul_ge1 q2 (show 1 ≤ a + b by omega)
          have zs : 0 < s.size := by omega
          have e1 := sgn_at s 0 zs
          have hab : IntKind.i64.wrap (a + b) = a + b := IntWalk.i64_in _ (by omega)
          have hw1 : IntKind.i64.wrap ((s.size : Int) - 1) = ((s.size - 1 : Nat) : Int) := by rw [IntWalk.i64_in _ (by omega)]; omega
          have cm1 := Lib.hid (Int.mul_comm (chg a b (219 - sgn s 0)) (flw a b c s s.size))
          have cm2 := Lib.hid (Int.mul_comm (a + b) (c ^ (s.size - 1)))
          have hm1 : IntKind.i64.wrap (chg a b (219 - sgn s 0) * flw a b c s s.size) = flw a b c s s.size * chg a b (219 - sgn s 0) := by rw [cm1.out]; exact IntWalk.i64_in _ (by omega)
          have hm2 : IntKind.i64.wrap ((a + b) * c ^ (s.size - 1)) = c ^ (s.size - 1) * (a + b) := by rw [cm2.out]; exact IntWalk.i64_in _ (by omega)
          go_enter Try.func34, Try.ntmps34
          go_wp2_with fail
          refine (implIsChain_any a b c _).mono ?_
          rintro e w1 ⟨rfl, hb1⟩
          rw [h1]
          have bx1 := Lib.hid (bx0.out.keep hb1)
          have bl1 := bel_trans bl0 hb1
          obtain ⟨c0_1, c1_1, c2_1, hk1⟩ := bx1.out
          go_wp2_with fail
          refine (implAreDays_any s _ hs).mono ?_
          rintro e w8 ⟨rfl, rfl⟩
          rw [h2]
          go_wp2_with fail
          refine (mixes_any a b c _).mono ?_
          rintro e w2 ⟨rfl, hb2⟩
          rw [h4]
          have bx2 := Lib.hid (bx1.out.keep hb2)
          have bl2 := bel_trans bl1 hb2
          obtain ⟨c0_2, c1_2, c2_2, hk2⟩ := bx2.out
          go_wp2_with fail
          go_region
          have cx := bx2.out.keep (bel_alloc (Below.refl _ w2) (.cells #[.int .i64 a, .int .i64 b, .int .i64 c, .int .u8 (sgn s 0)] 62))
          have cy := Box4.new w2 (.int .i64 a) (.int .i64 b) (.int .i64 c) (.int .u8 (sgn s 0)) 62
          have Cx : Hid (Box3 (w2.alloc (.cells #[.int .i64 a, .int .i64 b, .int .i64 c, .int .u8 (sgn s 0)] 62)).drew w.heap.size (.int .i64 a) (.int .i64 b) (.int .i64 c)) := ⟨cx.1, cx.2.1, cx.2.2.1, cx.2.2.2⟩
          have Cy : Hid (Box4 (w2.alloc (.cells #[.int .i64 a, .int .i64 b, .int .i64 c, .int .u8 (sgn s 0)] 62)).drew w2.heap.size (.int .i64 a) (.int .i64 b) (.int .i64 c) (.int .u8 (sgn s 0))) := ⟨cy.1, cy.2.1, cy.2.2.1, cy.2.2.2.1, cy.2.2.2.2⟩
          have blc : Below w.heap.size w (w2.alloc (.cells #[.int .i64 a, .int .i64 b, .int .i64 c, .int .u8 (sgn s 0)] 62)).drew := (bel_alloc bl2 _).drew
          clear cx cy
          go_wp2_with fail
          go_region_held3 (fun w' => w'.cell? ⟨w.heap.size, 0, none⟩ = some (.int .i64 a) ∧ w'.cell? ⟨w.heap.size, 1, none⟩ = some (.int .i64 b) ∧ w'.cell? ⟨w.heap.size, 2, none⟩ = some (.int .i64 c) ∧ w.heap.size < w'.heap.size ∧ w'.cell? ⟨w2.heap.size, 0, none⟩ = some (.int .i64 a) ∧ w'.cell? ⟨w2.heap.size, 1, none⟩ = some (.int .i64 b) ∧ w'.cell? ⟨w2.heap.size, 2, none⟩ = some (.int .i64 c) ∧ w'.cell? ⟨w2.heap.size, 3, none⟩ = some (.int .u8 (sgn s 0)) ∧ w2.heap.size < w'.heap.size ∧ Below w.heap.size w w')
            (first | exact held34_start Cx.out Cy.out blc | exact held34_keep (by assumption) hb5 | exact held34_keep (by assumption) hb6 | exact held34_drewN (by assumption) _ | assumption | go_keep)
            (first | (go_at_call 76; refine (share_any a b c (sgn s 0) _ hd).mono ?_; rintro e w5 ⟨rfl, hb5⟩) | (go_at_call 67; refine (followed_any a b c s _ hr g2 g1 (by omega)).mono ?_; rintro e w6 ⟨rfl, hb6⟩) | (go_at_call 69; refine (power_any c (s.size - 1) _ (by omega) r6 (by omega)).mono ?_; rintro e w7 ⟨rfl, rfl⟩) | (go_at_call 66; refine (told_any (flw a b c s s.size * chg a b (219 - sgn s 0)) (c ^ (s.size - 1) * (a + b)) _ m0 m4 (by omega) (by omega)).mono ?_; rintro e w8 ⟨rfl, n8, rfl⟩))
          all_goals
            obtain ⟨_, _, hbl9⟩ := held34_below (by assumption)
            go_wp2
            go_ret3
            exact ⟨rfl, hbl9⟩
      · have hz : decide ((8 : Int) < (s.size : Int)) = true := by simp; omega
        rw [show ansAny a b c s = failV from by unfold ansAny; rw [h1, h2, decide_eq_false h3]; rfl]
        unfold failV
        go_enter Try.func34, Try.ntmps34
        go_wp2_with fail
        refine (implIsChain_any a b c _).mono ?_
        rintro e w1 ⟨rfl, hb1⟩
        rw [h1]
        have bx1 := Lib.hid (bx0.out.keep hb1)
        have bl1 := bel_trans bl0 hb1
        obtain ⟨c0_1, c1_1, c2_1, hk1⟩ := bx1.out
        go_wp2_with fail
        refine (implAreDays_any s _ hs).mono ?_
        rintro e w8 ⟨rfl, rfl⟩
        rw [h2]
        go_wp2_with fail
        go_ret3
        exact ⟨rfl, bl1⟩

set_option maxHeartbeats 800000 in
theorem walkExactChanceOfAny (a b c : Int) (s : ByteArray) (w : World) (ha : (Lit.int .i64 a).wf = true) (hb : (Lit.int .i64 b).wf = true) (hc : (Lit.int .i64 c).wf = true) (hs : s.size ≤ maxLen) :
    Calls Try.prog 9 #[chn a b c, .string s] w fun e w' => e = .returned (.bool true) ∧ Below w.heap.size w w' := by
  clear ha hb hc
  by_cases zs : s.size ≤ 1048576
  · skip
    obtain ⟨x, y, o, hv⟩ := ansAny_form a b c s
    have Hv := Lib.hid hv
    clear hv
    have bx0 := Lib.hid (Box3.new w (.int .i64 a) (.int .i64 b) (.int .i64 c) 23)
    have bl0 : Below w.heap.size w (w.alloc (.cells #[.int .i64 a, .int .i64 b, .int .i64 c] 23)) := bel_alloc (Below.refl _ _) _
    go_enter Try.func9, Try.ntmps9
    go_wp2_with fail
    refine (toChain_any _ _ _ _).mono ?_
    rintro e w1 ⟨rfl, hb1⟩
    have bx1 := Lib.hid (bx0.out.keep hb1)
    have bl1 := bel_trans bl0 hb1
    obtain ⟨c0_1, c1_1, c2_1, hk1⟩ := bx1.out
    go_wp2_with fail
    refine (specAny_any a b c s _ hs).mono ?_
    rintro e w2 ⟨rfl, hb2⟩
    rw [Hv.out]
    have bx2 := Lib.hid (bx1.out.keep hb2)
    have bl2 := bel_trans bl1 hb2
    obtain ⟨c0_2, c1_2, c2_2, hk2⟩ := bx2.out
    go_wp2_with fail
    refine (toChain_any _ _ _ _).mono ?_
    rintro e w3 ⟨rfl, hb3⟩
    have bx3 := Lib.hid (bx2.out.keep hb3)
    have bl3 := bel_trans bl2 hb3
    obtain ⟨c0_3, c1_3, c2_3, hk3⟩ := bx3.out
    go_wp2_with fail
    refine (implAny_any a b c s _ hs).mono ?_
    rintro e w4 ⟨rfl, hb4⟩
    rw [Hv.out]
    have bx4 := Lib.hid (bx3.out.keep hb4)
    have bl4 := bel_trans bl3 hb4
    obtain ⟨c0_4, c1_4, c2_4, hk4⟩ := bx4.out
    go_wp2_with fail
    go_ret
    exact ⟨rfl, bl4⟩
  · go_enter Try.func9, Try.ntmps9
    go_wp2
    go_ret
    exact ⟨rfl, bel_alloc (Below.refl _ _) _⟩
end Go.Proofs.Ytkehgokgngimgaa
