/- ChanceLater: the contracts of the program and of its model, and the law's walk. -/
import Derived.Test.YtkehgokgngimgaaLater2
namespace Go.Proofs.Ytkehgokgngimgaa
open Go.ChangeShapes Go.WideShapes Go.ChangeAt Go.RowKit
set_option linter.unusedVariables false

def ansLater (a b c : Int) (s t : ByteArray) (n : Int) : Value :=
  if good a b c && dayS s && dayS t && inB n 0 8 then lowV (sel (sgn t 0) (ltr a b c (sgn s 0) n.toNat)) (c ^ n.toNat) else failV
theorem ansLater_form (a b c : Int) (s t : ByteArray) (n : Int) : ∃ (x y : Int) (o : Bool), ansLater a b c s t n = .tuple #[.int .i64 x, .int .i64 y, .bool o] := if_form _ (lowV_form _ _) failV_form
theorem day_is {s : ByteArray} (h : dayS s = true) : (sgn s 0 = 100 ∧ s.toList = [100]) ∨ (sgn s 0 = 119 ∧ s.toList = [119]) := by
  rw [ByteArray.toList_eq]
  unfold sgn
  rcases dayS_cases h with e | e
  · left; rw [e]; exact ⟨rfl, rfl⟩
  · right; rw [e]; exact ⟨rfl, rfl⟩

set_option maxHeartbeats 3200000 in
theorem specLater_any (a b c : Int) (s t : ByteArray) (n : Int) (w : World) (hs : s.size ≤ maxLen) (ht : t.size ≤ maxLen) :
    Calls Try.prog 29 #[chn a b c, .string s, .string t, .int .i64 n] w fun e w' => e = .returned (ansLater a b c s t n) ∧ Below w.heap.size w w' := by
  have bx0 := Lib.hid (Box3.new w (.int .i64 a) (.int .i64 b) (.int .i64 c) 25)
  have bl0 : Below w.heap.size w (w.alloc (.cells #[.int .i64 a, .int .i64 b, .int .i64 c] 25)) := bel_alloc (Below.refl _ _) _
  cases h1 : (good a b c && dayS s)
  · skip
    rw [show ansLater a b c s t n = failV from by unfold ansLater; rw [h1]; rfl]
    unfold failV
    go_enter Try.func29, Try.ntmps29
    go_wp2_with fail
    refine (cnDay_any a b c s _ hs).mono ?_
    rintro e w1 ⟨rfl, hb1⟩
    rw [h1]
    have bx1 := Lib.hid (bx0.out.keep hb1)
    have bl1 := bel_trans bl0 hb1
    obtain ⟨c0_1, c1_1, c2_1, hk1⟩ := bx1.out
    go_wp2_with fail
    go_ret3
    exact ⟨rfl, bl1⟩
  · have h1a : good a b c = true := by simp at h1; exact h1.1
    have h1b : dayS s = true := by simp at h1; exact h1.2
    cases h2 : dayS t
    · skip
      rw [show ansLater a b c s t n = failV from by unfold ansLater; rw [h1, h2]; rfl]
      unfold failV
      have h3 : (good a b c && dayS t) = false := by rw [h1a, h2]; rfl
      go_enter Try.func29, Try.ntmps29
      go_wp2_with fail
      refine (cnDay_any a b c s _ hs).mono ?_
      rintro e w1 ⟨rfl, hb1⟩
      rw [h1]
      have bx1 := Lib.hid (bx0.out.keep hb1)
      have bl1 := bel_trans bl0 hb1
      obtain ⟨c0_1, c1_1, c2_1, hk1⟩ := bx1.out
      go_wp2_with fail
      refine (cnDay_any a b c t _ ht).mono ?_
      rintro e w2 ⟨rfl, hb2⟩
      rw [h3]
      have bx2 := Lib.hid (bx1.out.keep hb2)
      have bl2 := bel_trans bl1 hb2
      obtain ⟨c0_2, c1_2, c2_2, hk2⟩ := bx2.out
      go_wp2_with fail
      go_ret3
      exact ⟨rfl, bl2⟩
    · cases h4 : inB n 0 8
      · skip
        rw [show ansLater a b c s t n = failV from by unfold ansLater; rw [h1, h2, h4]; rfl]
        unfold failV
        have h3 : (good a b c && dayS t) = true := by rw [h1a, h2]; rfl
        go_enter Try.func29, Try.ntmps29
        go_wp2_with fail
        refine (cnDay_any a b c s _ hs).mono ?_
        rintro e w1 ⟨rfl, hb1⟩
        rw [h1]
        have bx1 := Lib.hid (bx0.out.keep hb1)
        have bl1 := bel_trans bl0 hb1
        obtain ⟨c0_1, c1_1, c2_1, hk1⟩ := bx1.out
        go_wp2_with fail
        refine (cnDay_any a b c t _ ht).mono ?_
        rintro e w2 ⟨rfl, hb2⟩
        rw [h3]
        have bx2 := Lib.hid (bx1.out.keep hb2)
        have bl2 := bel_trans bl1 hb2
        obtain ⟨c0_2, c1_2, c2_2, hk2⟩ := bx2.out
        go_wp2_with fail
        refine (l1In_any _ _ _ _).mono ?_
        rintro e w9 ⟨rfl, rfl⟩
        rw [h4]
        go_wp2_with fail
        go_ret3
        exact ⟨rfl, bl2⟩
      · skip
        rw [show ansLater a b c s t n = lowV (sel (sgn t 0) (ltr a b c (sgn s 0) n.toNat)) (c ^ n.toNat) from by unfold ansLater; rw [h1, h2, h4]; rfl]
        unfold lowV
        have h3 : (good a b c && dayS t) = true := by rw [h1a, h2]; rfl
        obtain ⟨n1, n8⟩ := (inB_iff n 0 8).1 h4
        have hr := inR_of h1a
        have r := hr
        unfold inR at r
        obtain ⟨r1, r2, r3, r4, r5, r6⟩ := r
        have zs : 0 < s.size := by rw [day_size h1b]; omega
        have zt : 0 < t.size := by rw [day_size h2]; omega
        have hd := day_val h1b
        have hf := day_val h2
        have e1 := sgn_at s 0 zs
        have e2 := sgn_at t 0 zt
        obtain ⟨m, rfl⟩ := Int.eq_ofNat_of_zero_le n1
        rw [show ((m : Int)).toNat = m from rfl]
        obtain ⟨p0, p1⟩ := sel_le hr (sgn s 0) (sgn t 0) m (by omega)
        have q2 := pow_pos' r5 m
        obtain ⟨q0, q1⟩ := pow_le9 c (by omega) r6 m (by omega)
        rcases day_is h2 with ⟨hx, hl⟩ | ⟨hx, hl⟩
        · skip
          have hsel : sel (sgn t 0) (ltr a b c (sgn s 0) m) = (ltr a b c (sgn s 0) m).1 := by rw [hx]; rfl
          rw [hsel] at p0 p1 ⊢
          have hl1 : (t.toList == [119]) = false := by rw [hl]; rfl
          have hl2 : ¬ t.toList = [119] := by rw [hl]; decide
          clear hsel hl hx
          go_enter Try.func29, Try.ntmps29
          go_wp2_with fail
          refine (cnDay_any a b c s _ hs).mono ?_
          rintro e w1 ⟨rfl, hb1⟩
          rw [h1]
          have bx1 := Lib.hid (bx0.out.keep hb1)
          have bl1 := bel_trans bl0 hb1
          obtain ⟨c0_1, c1_1, c2_1, hk1⟩ := bx1.out
          go_wp2_with fail
          refine (cnDay_any a b c t _ ht).mono ?_
          rintro e w2 ⟨rfl, hb2⟩
          rw [h3]
          have bx2 := Lib.hid (bx1.out.keep hb2)
          have bl2 := bel_trans bl1 hb2
          obtain ⟨c0_2, c1_2, c2_2, hk2⟩ := bx2.out
          go_wp2_with fail
          refine (l1In_any _ _ _ _).mono ?_
          rintro e w9 ⟨rfl, rfl⟩
          rw [h4]
          go_wp2_with fail
          go_region_held3 (fun w' => w'.cell? ⟨w.heap.size, 0, none⟩ = some (.int .i64 a) ∧ w'.cell? ⟨w.heap.size, 1, none⟩ = some (.int .i64 b) ∧ w'.cell? ⟨w.heap.size, 2, none⟩ = some (.int .i64 c) ∧ w.heap.size < w'.heap.size ∧ Below w.heap.size w w')
            (first | exact held3_start bx2.out bl2 | exact held3_keep (by assumption) hb3 | exact held3_drewN (by assumption) _ | assumption | go_keep)
            (first | (go_at_call 71; refine (cnLater_any a b c (sgn s 0) m _ hd hr (by omega)).mono ?_; rintro e w3 ⟨rfl, hb3⟩))
          all_goals
            obtain ⟨hbx9, hbl9⟩ := held3_below (by assumption)
            go_wp2_with fail
            refine (cnLow_any ((ltr a b c (sgn s 0) m).1) (c ^ m) _ p0 q2 (by omega) (by omega)).mono ?_
            rintro e wd5 ⟨rfl, nd5, rfl⟩
            go_wp2_with fail
            go_ret3
            exact ⟨rfl, bel_drewN hbl9 _⟩
        · skip
          have hsel : sel (sgn t 0) (ltr a b c (sgn s 0) m) = (ltr a b c (sgn s 0) m).2 := by rw [hx]; rfl
          rw [hsel] at p0 p1 ⊢
          have hl1 : (t.toList == [119]) = true := by rw [hl]; rfl
          have hl2 : t.toList = [119] := by exact hl
          clear hsel hl hx
          go_enter Try.func29, Try.ntmps29
          go_wp2_with fail
          refine (cnDay_any a b c s _ hs).mono ?_
          rintro e w1 ⟨rfl, hb1⟩
          rw [h1]
          have bx1 := Lib.hid (bx0.out.keep hb1)
          have bl1 := bel_trans bl0 hb1
          obtain ⟨c0_1, c1_1, c2_1, hk1⟩ := bx1.out
          go_wp2_with fail
          refine (cnDay_any a b c t _ ht).mono ?_
          rintro e w2 ⟨rfl, hb2⟩
          rw [h3]
          have bx2 := Lib.hid (bx1.out.keep hb2)
          have bl2 := bel_trans bl1 hb2
          obtain ⟨c0_2, c1_2, c2_2, hk2⟩ := bx2.out
          go_wp2_with fail
          refine (l1In_any _ _ _ _).mono ?_
          rintro e w9 ⟨rfl, rfl⟩
          rw [h4]
          go_wp2_with fail
          go_region_held3 (fun w' => w'.cell? ⟨w.heap.size, 0, none⟩ = some (.int .i64 a) ∧ w'.cell? ⟨w.heap.size, 1, none⟩ = some (.int .i64 b) ∧ w'.cell? ⟨w.heap.size, 2, none⟩ = some (.int .i64 c) ∧ w.heap.size < w'.heap.size ∧ Below w.heap.size w w')
            (first | exact held3_start bx2.out bl2 | exact held3_keep (by assumption) hb3 | exact held3_drewN (by assumption) _ | assumption | go_keep)
            (first | (go_at_call 71; refine (cnLater_any a b c (sgn s 0) m _ hd hr (by omega)).mono ?_; rintro e w3 ⟨rfl, hb3⟩))
          all_goals
            obtain ⟨hbx9, hbl9⟩ := held3_below (by assumption)
            go_wp2_with fail
            refine (cnLow_any ((ltr a b c (sgn s 0) m).2) (c ^ m) _ p0 q2 (by omega) (by omega)).mono ?_
            rintro e wd5 ⟨rfl, nd5, rfl⟩
            go_wp2_with fail
            go_ret3
            exact ⟨rfl, bel_drewN hbl9 _⟩

set_option maxHeartbeats 3200000 in
theorem implLater_any (a b c : Int) (s t : ByteArray) (n : Int) (w : World) (hs : s.size ≤ maxLen) (ht : t.size ≤ maxLen) :
    Calls Try.prog 30 #[chn a b c, .string s, .string t, .int .i64 n] w fun e w' => e = .returned (ansLater a b c s t n) ∧ Below w.heap.size w w' := by
  have bx0 := Lib.hid (Box3.new w (.int .i64 a) (.int .i64 b) (.int .i64 c) 25)
  have bl0 : Below w.heap.size w (w.alloc (.cells #[.int .i64 a, .int .i64 b, .int .i64 c] 25)) := bel_alloc (Below.refl _ _) _
  cases h1 : (good a b c && dayS s)
  · skip
    rw [show ansLater a b c s t n = failV from by unfold ansLater; rw [h1]; rfl]
    unfold failV
    go_enter Try.func30, Try.ntmps30
    go_wp2_with fail
    refine (isDayOf_any a b c s _ hs).mono ?_
    rintro e w1 ⟨rfl, hb1⟩
    rw [h1]
    have bx1 := Lib.hid (bx0.out.keep hb1)
    have bl1 := bel_trans bl0 hb1
    obtain ⟨c0_1, c1_1, c2_1, hk1⟩ := bx1.out
    go_wp2_with fail
    go_ret3
    exact ⟨rfl, bl1⟩
  · have h1a : good a b c = true := by simp at h1; exact h1.1
    have h1b : dayS s = true := by simp at h1; exact h1.2
    cases h2 : dayS t
    · skip
      rw [show ansLater a b c s t n = failV from by unfold ansLater; rw [h1, h2]; rfl]
      unfold failV
      go_enter Try.func30, Try.ntmps30
      go_wp2_with fail
      refine (isDayOf_any a b c s _ hs).mono ?_
      rintro e w1 ⟨rfl, hb1⟩
      rw [h1]
      have bx1 := Lib.hid (bx0.out.keep hb1)
      have bl1 := bel_trans bl0 hb1
      obtain ⟨c0_1, c1_1, c2_1, hk1⟩ := bx1.out
      go_wp2_with fail
      refine (isDay_any _ _ ht).mono ?_
      rintro e w8 ⟨rfl, rfl⟩
      rw [h2]
      go_wp2_with fail
      go_ret3
      exact ⟨rfl, bl1⟩
    · cases h4 : inB n 0 8
      · skip
        rw [show ansLater a b c s t n = failV from by unfold ansLater; rw [h1, h2, h4]; rfl]
        unfold failV
        by_cases h5 : n < 0
        · have hq : decide (n < 0) = true := by simpa using h5
          go_enter Try.func30, Try.ntmps30
          go_wp2_with fail
          refine (isDayOf_any a b c s _ hs).mono ?_
          rintro e w1 ⟨rfl, hb1⟩
          rw [h1]
          have bx1 := Lib.hid (bx0.out.keep hb1)
          have bl1 := bel_trans bl0 hb1
          obtain ⟨c0_1, c1_1, c2_1, hk1⟩ := bx1.out
          go_wp2_with fail
          refine (isDay_any _ _ ht).mono ?_
          rintro e w8 ⟨rfl, rfl⟩
          rw [h2]
          go_wp2_with fail
          go_ret3
          exact ⟨rfl, bl1⟩
        · have hq : decide (n < 0) = false := by simpa using h5
          have hq2 : decide (8 < n) = true := by simp [inB] at h4; simp; omega
          have hq3 : 8 < n := by simp [inB] at h4; omega
          go_enter Try.func30, Try.ntmps30
          go_wp2_with fail
          refine (isDayOf_any a b c s _ hs).mono ?_
          rintro e w1 ⟨rfl, hb1⟩
          rw [h1]
          have bx1 := Lib.hid (bx0.out.keep hb1)
          have bl1 := bel_trans bl0 hb1
          obtain ⟨c0_1, c1_1, c2_1, hk1⟩ := bx1.out
          go_wp2_with fail
          refine (isDay_any _ _ ht).mono ?_
          rintro e w8 ⟨rfl, rfl⟩
          rw [h2]
          go_wp2_with fail
          go_ret3
          exact ⟨rfl, bl1⟩
      · skip
        rw [show ansLater a b c s t n = lowV (sel (sgn t 0) (ltr a b c (sgn s 0) n.toNat)) (c ^ n.toNat) from by unfold ansLater; rw [h1, h2, h4]; rfl]
        unfold lowV
        obtain ⟨n1, n8⟩ := (inB_iff n 0 8).1 h4
        have hr := inR_of h1a
        have r := hr
        unfold inR at r
        obtain ⟨r1, r2, r3, r4, r5, r6⟩ := r
        have zs : 0 < s.size := by rw [day_size h1b]; omega
        have zt : 0 < t.size := by rw [day_size h2]; omega
        have hd := day_val h1b
        have hf := day_val h2
        have e1 := sgn_at s 0 zs
        have e2 := sgn_at t 0 zt
        obtain ⟨m, rfl⟩ := Int.eq_ofNat_of_zero_le n1
        rw [show ((m : Int)).toNat = m from rfl]
        obtain ⟨p0, p1⟩ := sel_le hr (sgn s 0) (sgn t 0) m (by omega)
        have q2 := pow_pos' r5 m
        obtain ⟨q0, q1⟩ := pow_le9 c (by omega) r6 m (by omega)
        have hq2 : decide ((8 : Int) < (m : Int)) = false := by simp; omega
        have hq1 : decide ((m : Int) < 0) = false := by simp
        go_enter Try.func30, Try.ntmps30
        go_wp2_with fail
        refine (isDayOf_any a b c s _ hs).mono ?_
        rintro e w1 ⟨rfl, hb1⟩
        rw [h1]
        have bx1 := Lib.hid (bx0.out.keep hb1)
        have bl1 := bel_trans bl0 hb1
        obtain ⟨c0_1, c1_1, c2_1, hk1⟩ := bx1.out
        go_wp2_with fail
        refine (isDay_any _ _ ht).mono ?_
        rintro e w8 ⟨rfl, rfl⟩
        rw [h2]
        go_wp2_with fail
        go_region
        have cx := bx1.out.keep (bel_alloc (Below.refl _ w1) (.cells #[.int .i64 a, .int .i64 b, .int .i64 c, .int .u8 (sgn t 0)] 62))
        have cy := Box4.new w1 (.int .i64 a) (.int .i64 b) (.int .i64 c) (.int .u8 (sgn t 0)) 62
        have Cx : Hid (Box3 (w1.alloc (.cells #[.int .i64 a, .int .i64 b, .int .i64 c, .int .u8 (sgn t 0)] 62)).drew w.heap.size (.int .i64 a) (.int .i64 b) (.int .i64 c)) := ⟨cx.1, cx.2.1, cx.2.2.1, cx.2.2.2⟩
        have Cy : Hid (Box4 (w1.alloc (.cells #[.int .i64 a, .int .i64 b, .int .i64 c, .int .u8 (sgn t 0)] 62)).drew w1.heap.size (.int .i64 a) (.int .i64 b) (.int .i64 c) (.int .u8 (sgn t 0))) := ⟨cy.1, cy.2.1, cy.2.2.1, cy.2.2.2.1, cy.2.2.2.2⟩
        have blc : Below w.heap.size w (w1.alloc (.cells #[.int .i64 a, .int .i64 b, .int .i64 c, .int .u8 (sgn t 0)] 62)).drew := (bel_alloc bl1 _).drew
        clear cx cy
        go_wp2_with fail
        go_region_held3 (fun w' => w'.cell? ⟨w.heap.size, 0, none⟩ = some (.int .i64 a) ∧ w'.cell? ⟨w.heap.size, 1, none⟩ = some (.int .i64 b) ∧ w'.cell? ⟨w.heap.size, 2, none⟩ = some (.int .i64 c) ∧ w.heap.size < w'.heap.size ∧ w'.cell? ⟨w1.heap.size, 0, none⟩ = some (.int .i64 a) ∧ w'.cell? ⟨w1.heap.size, 1, none⟩ = some (.int .i64 b) ∧ w'.cell? ⟨w1.heap.size, 2, none⟩ = some (.int .i64 c) ∧ w'.cell? ⟨w1.heap.size, 3, none⟩ = some (.int .u8 (sgn t 0)) ∧ w1.heap.size < w'.heap.size ∧ Below w.heap.size w w')
          (first | exact held34_start Cx.out Cy.out blc | exact held34_keep (by assumption) hb5 | exact held34_drewN (by assumption) _ | assumption | go_keep)
          (first | (go_at_call 72; refine (later_any a b c (sgn s 0) (sgn t 0) m _ hd hf hr (by omega)).mono ?_; rintro e w5 ⟨rfl, hb5⟩) | (go_at_call 69; refine (power_any c m _ (by omega) r6 (by omega)).mono ?_; rintro e w7 ⟨rfl, rfl⟩) | (go_at_call 66; refine (told_any (sel (sgn t 0) (ltr a b c (sgn s 0) m)) (c ^ m) _ p0 q2 (by omega) (by omega)).mono ?_; rintro e w8 ⟨rfl, n8, rfl⟩))
        all_goals
          obtain ⟨_, _, hbl9⟩ := held34_below (by assumption)
          go_wp2
          go_ret3
          exact ⟨rfl, hbl9⟩

set_option maxHeartbeats 800000 in
theorem walkExactChanceLater (a b c : Int) (s : ByteArray) (t : ByteArray) (n : Int) (w : World) (ha : (Lit.int .i64 a).wf = true) (hb : (Lit.int .i64 b).wf = true) (hc : (Lit.int .i64 c).wf = true) (hs : s.size ≤ maxLen) (ht : t.size ≤ maxLen) (hn : (Lit.int .i64 n).wf = true) :
    Calls Try.prog 7 #[chn a b c, .string s, .string t, .int .i64 n] w fun e w' => e = .returned (.bool true) ∧ Below w.heap.size w w' := by
  clear ha hb hc
  clear hn
  by_cases zs : s.size ≤ 1048576
  · skip
    by_cases zt : t.size ≤ 1048576
    · skip
      obtain ⟨x, y, o, hv⟩ := ansLater_form a b c s t n
      have Hv := Lib.hid hv
      clear hv
      have bx0 := Lib.hid (Box3.new w (.int .i64 a) (.int .i64 b) (.int .i64 c) 23)
      have bl0 : Below w.heap.size w (w.alloc (.cells #[.int .i64 a, .int .i64 b, .int .i64 c] 23)) := bel_alloc (Below.refl _ _) _
      go_enter Try.func7, Try.ntmps7
      go_wp2_with fail
      refine (toChain_any _ _ _ _).mono ?_
      rintro e w1 ⟨rfl, hb1⟩
      have bx1 := Lib.hid (bx0.out.keep hb1)
      have bl1 := bel_trans bl0 hb1
      obtain ⟨c0_1, c1_1, c2_1, hk1⟩ := bx1.out
      go_wp2_with fail
      refine (specLater_any a b c s t n _ hs ht).mono ?_
      rintro e w2 ⟨rfl, hb2⟩
      rw [Hv.out]
      have bx2 := Lib.hid (bx1.out.keep hb2)
      have bl2 := bel_trans bl1 hb2
      obtain ⟨c0_2, c1_2, c2_2, hk2⟩ := bx2.out
      go_wp2_with fail
      refine (toChain_any _ _ _ _).mono ?_
      rintro e w3 ⟨rfl, hb3⟩
      have bx3 := Lib.hid (bx2.out.keep hb3)
      have bl3 := bel_trans bl2 hb3
      obtain ⟨c0_3, c1_3, c2_3, hk3⟩ := bx3.out
      go_wp2_with fail
      refine (implLater_any a b c s t n _ hs ht).mono ?_
      rintro e w4 ⟨rfl, hb4⟩
      rw [Hv.out]
      have bx4 := Lib.hid (bx3.out.keep hb4)
      have bl4 := bel_trans bl3 hb4
      obtain ⟨c0_4, c1_4, c2_4, hk4⟩ := bx4.out
      go_wp2_with fail
      go_ret
      exact ⟨rfl, bl4⟩
    · go_enter Try.func7, Try.ntmps7
      go_wp2
      go_ret
      exact ⟨rfl, bel_alloc (Below.refl _ _) _⟩
  · go_enter Try.func7, Try.ntmps7
    go_wp2
    go_ret
    exact ⟨rfl, bel_alloc (Below.refl _ _) _⟩
end Go.Proofs.Ytkehgokgngimgaa
