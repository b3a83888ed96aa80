/- ChanceNext: the contracts of the program and of its model, and the law's walk. -/
import Derived.Test.YtkehgokgngimgaaFollow
namespace Go.Proofs.Ytkehgokgngimgaa
open Go.ChangeShapes Go.WideShapes Go.ChangeAt Go.RowKit
set_option linter.unusedVariables false

def failV : Value := .tuple #[.int .i64 0, .int .i64 0, .bool false]
def lowV (num den : Int) : Value := .tuple #[.int .i64 (low num num den), .int .i64 (low den num den), .bool true]

theorem day_size {s : ByteArray} (h : dayS s = true) : s.size = 1 := by
  have hl : s.data.toList.length = s.size := by simp
  rcases dayS_cases h with e | e <;> rw [e] at hl <;> simpa using hl.symm
theorem day_all {s : ByteArray} (h : dayS s = true) : allB s = true := by
  unfold allB
  rcases dayS_cases h with e | e <;> rw [e] <;> simp [dayB]
theorem day_val {s : ByteArray} (h : dayS s = true) : dayV (sgn s 0) := sgn_day s 0 (by rw [day_size h]; omega) (day_all h)

/-- Two days, one behind the other: the chance of the step. -/
theorem two_days {s t : ByteArray} (a b c : Int) (hs : dayS s = true) (ht : dayS t = true) :
    (s ++ t).size = 2 ∧ allB (s ++ t) = true ∧ flw a b c (s ++ t) (s ++ t).size = stp a b c (sgn s 0) (sgn t 0) := by
  have e : (s ++ t).data.toList = s.data.toList ++ t.data.toList := by simp
  have hz : (s ++ t).size = 2 := by rw [ByteArray.size_append, day_size hs, day_size ht]
  refine ⟨hz, ?_, ?_⟩
  · have h1 := day_all hs
    have h2 := day_all ht
    unfold allB at *
    rw [e, List.all_append, h1, h2]; rfl
  · rw [hz]
    have h0 : sgn (s ++ t) 0 = sgn s 0 := by unfold sgn; rw [e]; rcases dayS_cases hs with q | q <;> rw [q] <;> rfl
    have h1 : sgn (s ++ t) 1 = sgn t 0 := by unfold sgn; rw [e]; rcases dayS_cases hs with q | q <;> rcases dayS_cases ht with r | r <;> rw [q, r] <;> rfl
    simp [flw, h0, h1]

def ansNext (a b c : Int) (s t : ByteArray) : Value := if good a b c && dayS s && dayS t then lowV (stp a b c (sgn s 0) (sgn t 0)) c else failV
theorem failV_form : ∃ (x y : Int) (o : Bool), failV = .tuple #[.int .i64 x, .int .i64 y, .bool o] := ⟨0, 0, false, rfl⟩
theorem lowV_form (n d : Int) : ∃ (x y : Int) (o : Bool), lowV n d = .tuple #[.int .i64 x, .int .i64 y, .bool o] := ⟨_, _, true, rfl⟩
theorem if_form (p : Bool) {u v : Value} (hu : ∃ (x y : Int) (o : Bool), u = .tuple #[.int .i64 x, .int .i64 y, .bool o]) (hv : ∃ (x y : Int) (o : Bool), v = .tuple #[.int .i64 x, .int .i64 y, .bool o]) :
    ∃ (x y : Int) (o : Bool), (if p then u else v) = .tuple #[.int .i64 x, .int .i64 y, .bool o] := by
  cases p
  · exact hv
  · exact hu
theorem ansNext_form (a b c : Int) (s t : ByteArray) : ∃ (x y : Int) (o : Bool), ansNext a b c s t = .tuple #[.int .i64 x, .int .i64 y, .bool o] := if_form _ (lowV_form _ _) failV_form

set_option maxHeartbeats 1600000 in
theorem specNext_any (a b c : Int) (s t : ByteArray) (w : World) (hs : s.size ≤ maxLen) (ht : t.size ≤ maxLen) :
    Calls Try.prog 25 #[chn a b c, .string s, .string t] w fun e w' => e = .returned (ansNext a b c s t) ∧ Below w.heap.size w w' := by
  have bx0 := Lib.hid (Box3.new w (.int .i64 a) (.int .i64 b) (.int .i64 c) 25)
  have bl0 : Below w.heap.size w (w.alloc (.cells #[.int .i64 a, .int .i64 b, .int .i64 c] 25)) := bel_alloc (Below.refl _ _) _
  cases h1 : (good a b c && dayS s)
  · rw [show ansNext a b c s t = failV from by unfold ansNext; rw [h1]; rfl]
    unfold failV
    go_enter Try.func25, Try.ntmps25
    go_wp2_with fail
    refine (cnDay_any a b c s _ hs).mono ?_
    rintro e w1 ⟨rfl, hb1⟩
    rw [h1]
    have bx1 := Lib.hid (bx0.out.keep hb1)
    have bl1 := bel_trans bl0 hb1
    obtain ⟨c0_1, c1_1, c2_1, hk1⟩ := bx1.out
    go_wp2_with fail
    go_ret3
    exact ⟨rfl, bl1⟩
  · have h1a : good a b c = true := by simp at h1; exact h1.1
    have h1b : dayS s = true := by simp at h1; exact h1.2
    cases h2 : dayS t
    · rw [show ansNext a b c s t = failV from by unfold ansNext; rw [h1, h2]; rfl]
      unfold failV
      have h3 : (good a b c && dayS t) = false := by rw [h2, Bool.and_false]
      go_enter Try.func25, Try.ntmps25
      go_wp2_with fail
      refine (cnDay_any a b c s _ hs).mono ?_
      rintro e w1 ⟨rfl, hb1⟩
      rw [h1]
      have bx1 := Lib.hid (bx0.out.keep hb1)
      have bl1 := bel_trans bl0 hb1
      obtain ⟨c0_1, c1_1, c2_1, hk1⟩ := bx1.out
      go_wp2_with fail
      refine (cnDay_any a b c t _ ht).mono ?_
      rintro e w2 ⟨rfl, hb2⟩
      rw [h3]
      have bx2 := Lib.hid (bx1.out.keep hb2)
      have bl2 := bel_trans bl1 hb2
      obtain ⟨c0_2, c1_2, c2_2, hk2⟩ := bx2.out
      go_wp2_with fail
      go_ret3
      exact ⟨rfl, bl2⟩
    · rw [show ansNext a b c s t = lowV (stp a b c (sgn s 0) (sgn t 0)) c from by unfold ansNext; rw [h1, h2]; rfl]
      unfold lowV
      have hr := inR_of h1a
      have h3 : (good a b c && dayS t) = true := by rw [h1a, h2]; rfl
      have hd := day_val h1b
      have hf := day_val h2
      obtain ⟨p0, p1⟩ := stp_in hr (sgn s 0) (sgn t 0)
      have r := hr
      unfold inR at r
      obtain ⟨_, _, _, _, r5, r6⟩ := r
      have zs : 0 < s.size := by rw [day_size h1b]; omega
      have zt : 0 < t.size := by rw [day_size h2]; omega
      have e1 := sgn_at s 0 zs
      have e2 := sgn_at t 0 zt
      go_enter Try.func25, Try.ntmps25
      go_wp2_with fail
      refine (cnDay_any a b c s _ hs).mono ?_
      rintro e w1 ⟨rfl, hb1⟩
      rw [h1]
      have bx1 := Lib.hid (bx0.out.keep hb1)
      have bl1 := bel_trans bl0 hb1
      obtain ⟨c0_1, c1_1, c2_1, hk1⟩ := bx1.out
      go_wp2_with fail
      refine (cnDay_any a b c t _ ht).mono ?_
      rintro e w2 ⟨rfl, hb2⟩
      rw [h3]
      have bx2 := Lib.hid (bx1.out.keep hb2)
      have bl2 := bel_trans bl1 hb2
      obtain ⟨c0_2, c1_2, c2_2, hk2⟩ := bx2.out
      go_wp2_with fail
      go_region_held3 (fun w' => w'.cell? ⟨w.heap.size, 0, none⟩ = some (.int .i64 a) ∧ w'.cell? ⟨w.heap.size, 1, none⟩ = some (.int .i64 b) ∧ w'.cell? ⟨w.heap.size, 2, none⟩ = some (.int .i64 c) ∧ w.heap.size < w'.heap.size ∧ Below w.heap.size w w')
        (first | exact held3_start bx2.out bl2 | exact held3_keep (by assumption) hb7 | exact held3_drewN (by assumption) _ | go_keep)
        (first | (go_at_call 63; refine (cnNext_any a b c (sgn s 0) (sgn t 0) _ hd hf hr).mono ?_; rintro e w7 ⟨rfl, hb7⟩) | (go_at_call 62; refine (cnLow_any (stp a b c (sgn s 0) (sgn t 0)) c _ p0 r5 (by omega) (by omega)).mono ?_; rintro e w8 ⟨rfl, n8, rfl⟩))
      all_goals
        obtain ⟨hbx9, hbl9⟩ := held3_below (by assumption)
        go_wp2
        go_ret3
        exact ⟨rfl, hbl9⟩

set_option maxHeartbeats 1600000 in
theorem implNext_any (a b c : Int) (s t : ByteArray) (w : World) (hs : s.size ≤ maxLen) (ht : t.size ≤ maxLen) :
    Calls Try.prog 26 #[chn a b c, .string s, .string t] w fun e w' => e = .returned (ansNext a b c s t) ∧ Below w.heap.size w w' := by
  have bx0 := Lib.hid (Box3.new w (.int .i64 a) (.int .i64 b) (.int .i64 c) 25)
  have bl0 : Below w.heap.size w (w.alloc (.cells #[.int .i64 a, .int .i64 b, .int .i64 c] 25)) := bel_alloc (Below.refl _ _) _
  cases h1 : (good a b c && dayS s)
  · rw [show ansNext a b c s t = failV from by unfold ansNext; rw [h1]; rfl]
    unfold failV
    go_enter Try.func26, Try.ntmps26
    go_wp2_with fail
    refine (isDayOf_any a b c s _ hs).mono ?_
    rintro e w1 ⟨rfl, hb1⟩
    rw [h1]
    have bx1 := Lib.hid (bx0.out.keep hb1)
    have bl1 := bel_trans bl0 hb1
    obtain ⟨c0_1, c1_1, c2_1, hk1⟩ := bx1.out
    go_wp2_with fail
    go_ret3
    exact ⟨rfl, bl1⟩
  · have h1a : good a b c = true := by simp at h1; exact h1.1
    have h1b : dayS s = true := by simp at h1; exact h1.2
    cases h2 : dayS t
    · rw [show ansNext a b c s t = failV from by unfold ansNext; rw [h1, h2]; rfl]
      unfold failV
      go_enter Try.func26, Try.ntmps26
      go_wp2_with fail
      refine (isDayOf_any a b c s _ hs).mono ?_
      rintro e w1 ⟨rfl, hb1⟩
      rw [h1]
      have bx1 := Lib.hid (bx0.out.keep hb1)
      have bl1 := bel_trans bl0 hb1
      obtain ⟨c0_1, c1_1, c2_1, hk1⟩ := bx1.out
      go_wp2_with fail
      refine (isDay_any _ _ ht).mono ?_
      rintro e w2 ⟨rfl, rfl⟩
      rw [h2]
      go_wp2_with fail
      go_ret3
      exact ⟨rfl, bl1⟩
    · rw [show ansNext a b c s t = lowV (stp a b c (sgn s 0) (sgn t 0)) c from by unfold ansNext; rw [h1, h2]; rfl]
      unfold lowV
      have hr := inR_of h1a
      have hd := day_val h1b
      have hf := day_val h2
      obtain ⟨p0, p1⟩ := stp_in hr (sgn s 0) (sgn t 0)
      have r := hr
      unfold inR at r
      obtain ⟨_, _, _, _, r5, r6⟩ := r
      have zs : 0 < s.size := by rw [day_size h1b]; omega
      have zt : 0 < t.size := by rw [day_size h2]; omega
      obtain ⟨q1, q2, q3⟩ := two_days a b c h1b h2
      have Q3 := Lib.hid q3
      have Q1 := Lib.hid q1
      clear q3 q1
      have gs : (s.size : Int) ≤ 8388608 := by rw [day_size h1b]; omega
      have gt : (t.size : Int) ≤ 8388608 := by rw [day_size h2]; omega
      have hadd : ∀ W : World, (Op.stringOp .add s t).run Try.prog W = .ok (.string (s ++ t)) W := fun W => run_string_add W s t gs gt
      go_enter Try.func26, Try.ntmps26
      go_wp2_with fail
      refine (isDayOf_any a b c s _ hs).mono ?_
      rintro e w1 ⟨rfl, hb1⟩
      rw [h1]
      have bx1 := Lib.hid (bx0.out.keep hb1)
      have bl1 := bel_trans bl0 hb1
      obtain ⟨c0_1, c1_1, c2_1, hk1⟩ := bx1.out
      go_wp2_with fail
      refine (isDay_any _ _ ht).mono ?_
      rintro e w2 ⟨rfl, rfl⟩
      rw [h2]
      go_wp2_with fail
      go_region_held3 (fun w' => w'.cell? ⟨w.heap.size, 0, none⟩ = some (.int .i64 a) ∧ w'.cell? ⟨w.heap.size, 1, none⟩ = some (.int .i64 b) ∧ w'.cell? ⟨w.heap.size, 2, none⟩ = some (.int .i64 c) ∧ w.heap.size < w'.heap.size ∧ Below w.heap.size w w')
        (first | exact held3_start bx1.out bl1 | exact held3_keep (by assumption) hb7 | exact held3_drewN (by assumption) _ | go_keep)
        (first | (go_at_call 67; refine (followed_any a b c (s ++ t) _ hr q2 (by rw [Q1.out]; omega) (by rw [Q1.out]; omega)).mono ?_; rintro e w7 ⟨rfl, hb7⟩; rw [Q3.out]) | (go_at_call 66; refine (told_any (stp a b c (sgn s 0) (sgn t 0)) c _ p0 r5 (by omega) (by omega)).mono ?_; rintro e w8 ⟨rfl, n8, rfl⟩))
      all_goals
        obtain ⟨hbx9, hbl9⟩ := held3_below (by assumption)
        go_wp2
        go_ret3
        exact ⟨rfl, hbl9⟩

set_option maxHeartbeats 800000 in
theorem walkExactChanceNext (a b c : Int) (s : ByteArray) (t : ByteArray) (w : World) (ha : (Lit.int .i64 a).wf = true) (hb : (Lit.int .i64 b).wf = true) (hc : (Lit.int .i64 c).wf = true) (hs : s.size ≤ maxLen) (ht : t.size ≤ maxLen) :
    Calls Try.prog 5 #[chn a b c, .string s, .string t] w fun e w' => e = .returned (.bool true) ∧ Below w.heap.size w w' := by
  clear ha hb hc
  by_cases zs : s.size ≤ 1048576
  · skip
    by_cases zt : t.size ≤ 1048576
    · skip
      obtain ⟨x, y, o, hv⟩ := ansNext_form a b c s t
      have Hv := Lib.hid hv
      clear hv
      have bx0 := Lib.hid (Box3.new w (.int .i64 a) (.int .i64 b) (.int .i64 c) 23)
      have bl0 : Below w.heap.size w (w.alloc (.cells #[.int .i64 a, .int .i64 b, .int .i64 c] 23)) := bel_alloc (Below.refl _ _) _
      go_enter Try.func5, Try.ntmps5
      go_wp2_with fail
      refine (toChain_any _ _ _ _).mono ?_
      rintro e w1 ⟨rfl, hb1⟩
      have bx1 := Lib.hid (bx0.out.keep hb1)
      have bl1 := bel_trans bl0 hb1
      obtain ⟨c0_1, c1_1, c2_1, hk1⟩ := bx1.out
      go_wp2_with fail
      refine (specNext_any a b c s t _ hs ht).mono ?_
      rintro e w2 ⟨rfl, hb2⟩
      rw [Hv.out]
      have bx2 := Lib.hid (bx1.out.keep hb2)
      have bl2 := bel_trans bl1 hb2
      obtain ⟨c0_2, c1_2, c2_2, hk2⟩ := bx2.out
      go_wp2_with fail
      refine (toChain_any _ _ _ _).mono ?_
      rintro e w3 ⟨rfl, hb3⟩
      have bx3 := Lib.hid (bx2.out.keep hb3)
      have bl3 := bel_trans bl2 hb3
      obtain ⟨c0_3, c1_3, c2_3, hk3⟩ := bx3.out
      go_wp2_with fail
      refine (implNext_any a b c s t _ hs ht).mono ?_
      rintro e w4 ⟨rfl, hb4⟩
      rw [Hv.out]
      have bx4 := Lib.hid (bx3.out.keep hb4)
      have bl4 := bel_trans bl3 hb4
      obtain ⟨c0_4, c1_4, c2_4, hk4⟩ := bx4.out
      go_wp2_with fail
      go_ret
      exact ⟨rfl, bl4⟩
    · go_enter Try.func5, Try.ntmps5
      go_wp2
      go_ret
      exact ⟨rfl, bel_alloc (Below.refl _ _) _⟩
  · go_enter Try.func5, Try.ntmps5
    go_wp2
    go_ret
    exact ⟨rfl, bel_alloc (Below.refl _ _) _⟩
end Go.Proofs.Ytkehgokgngimgaa
