/- AreDays, IsEven, ChanceOfDays: the contracts of the program and of its model, and the laws' walks. -/
import Derived.Test.YtkehgokgngimgaaRun
import Derived.RegionTactic
namespace Go.Proofs.Ytkehgokgngimgaa
open Go.ChangeShapes Go.WideShapes Go.ChangeAt Go.RowKit
set_option linter.unusedVariables false

theorem walkExactAreDays (s : ByteArray) (w : World) (hs : s.size ≤ maxLen) :
    Calls Try.prog 4 #[.string s] w fun e w' => e = .returned (.bool true) ∧ Below w.heap.size w w' := by
  by_cases z : s.size ≤ 1048576
  · go_enter Try.func4, Try.ntmps4
    go_wp2_with fail
    refine (specAreDays_any _ _ hs).mono ?_
    rintro e w1 ⟨rfl, rfl⟩
    go_wp2_with fail
    refine (implAreDays_any _ _ hs).mono ?_
    rintro e w1 ⟨rfl, rfl⟩
    go_wp2_with fail
    go_ret
    exact ⟨rfl, Below.refl _ _⟩
  · go_enter Try.func4, Try.ntmps4
    go_wp2
    go_ret
    exact ⟨rfl, Below.refl _ _⟩

def ansEven (a b c : Int) : Value := if good a b c then .tuple #[.bool (a == c - b), .bool true] else .tuple #[.bool false, .bool false]
theorem ansEven_form (a b c : Int) : ∃ (x o : Bool), ansEven a b c = .tuple #[.bool x, .bool o] := by
  unfold ansEven
  cases good a b c
  · exact ⟨false, false, rfl⟩
  · exact ⟨_, true, rfl⟩
def ansDays (a b c : Int) (s : ByteArray) : Value := if good a b c && (daysB s && decide (s.size ≤ 9)) then lowV (flw a b c s s.size) (c ^ (s.size - 1)) else failV
theorem ansDays_form (a b c : Int) (s : ByteArray) : ∃ (x y : Int) (o : Bool), ansDays a b c s = .tuple #[.int .i64 x, .int .i64 y, .bool o] := if_form _ (lowV_form _ _) failV_form
theorem days_facts {s : ByteArray} (h : daysB s = true) : 1 ≤ s.size ∧ allB s = true := by
  unfold daysB inB at h
  simp at h
  exact ⟨by omega, h.2⟩
theorem pow_pos' {c : Int} (h : 1 ≤ c) : ∀ n : Nat, 1 ≤ c ^ n
  | 0 => by simp
  | n + 1 => by
    rw [Int.pow_succ]
    have := pow_pos' h n
    have h2 : c ^ n * 1 ≤ c ^ n * c := Int.mul_le_mul_of_nonneg_left h (by omega)
    omega

set_option maxHeartbeats 1600000 in
theorem specEven_any (a b c : Int) (w : World) :
    Calls Try.prog 57 #[chn a b c] w fun e w' => e = .returned (ansEven a b c) ∧ Below w.heap.size w w' := by
  have bx0 := Lib.hid (Box3.new w (.int .i64 a) (.int .i64 b) (.int .i64 c) 25)
  have bl0 : Below w.heap.size w (w.alloc (.cells #[.int .i64 a, .int .i64 b, .int .i64 c] 25)) := bel_alloc (Below.refl _ _) _
  cases h1 : good a b c
  · rw [show ansEven a b c = .tuple #[.bool false, .bool false] from by unfold ansEven; rw [h1]; rfl]
    go_enter Try.func57, Try.ntmps57
    go_wp2_with fail
    refine (cnGood_any a b c _).mono ?_
    rintro e w1 ⟨rfl, hb1⟩
    rw [h1]
    have bx1 := Lib.hid (bx0.out.keep hb1)
    have bl1 := bel_trans bl0 hb1
    obtain ⟨c0_1, c1_1, c2_1, hk1⟩ := bx1.out
    go_wp2_with fail
    go_ret2
    exact ⟨rfl, bl1⟩
  · rw [show ansEven a b c = .tuple #[.bool (a == c - b), .bool true] from by unfold ansEven; rw [h1]; rfl]
    have hr := inR_of h1
    have r := hr
    unfold inR at r
    obtain ⟨r1, r2, r3, r4, r5, r6⟩ := r
    go_enter Try.func57, Try.ntmps57
    go_wp2_with fail
    refine (cnGood_any a b c _).mono ?_
    rintro e w1 ⟨rfl, hb1⟩
    rw [h1]
    have bx1 := Lib.hid (bx0.out.keep hb1)
    have bl1 := bel_trans bl0 hb1
    obtain ⟨c0_1, c1_1, c2_1, hk1⟩ := bx1.out
    go_wp2_with fail
    go_ret2
    exact ⟨rfl, bl1⟩

set_option maxHeartbeats 1600000 in
theorem implEven_any (a b c : Int) (w : World) :
    Calls Try.prog 58 #[chn a b c] w fun e w' => e = .returned (ansEven a b c) ∧ Below w.heap.size w w' := by
  have bx0 := Lib.hid (Box3.new w (.int .i64 a) (.int .i64 b) (.int .i64 c) 25)
  have bl0 : Below w.heap.size w (w.alloc (.cells #[.int .i64 a, .int .i64 b, .int .i64 c] 25)) := bel_alloc (Below.refl _ _) _
  cases h1 : good a b c
  · rw [show ansEven a b c = .tuple #[.bool false, .bool false] from by unfold ansEven; rw [h1]; rfl]
    go_enter Try.func58, Try.ntmps58
    go_wp2_with fail
    refine (implIsChain_any a b c _).mono ?_
    rintro e w1 ⟨rfl, hb1⟩
    rw [h1]
    have bx1 := Lib.hid (bx0.out.keep hb1)
    have bl1 := bel_trans bl0 hb1
    obtain ⟨c0_1, c1_1, c2_1, hk1⟩ := bx1.out
    go_wp2_with fail
    go_ret2
    exact ⟨rfl, bl1⟩
  · rw [show ansEven a b c = .tuple #[.bool (a == c - b), .bool true] from by unfold ansEven; rw [h1]; rfl]
    have hr := inR_of h1
    have r := hr
    unfold inR at r
    obtain ⟨r1, r2, r3, r4, r5, r6⟩ := r
    go_enter Try.func58, Try.ntmps58
    go_wp2_with fail
    refine (implIsChain_any a b c _).mono ?_
    rintro e w1 ⟨rfl, hb1⟩
    rw [h1]
    have bx1 := Lib.hid (bx0.out.keep hb1)
    have bl1 := bel_trans bl0 hb1
    obtain ⟨c0_1, c1_1, c2_1, hk1⟩ := bx1.out
    go_wp2_with fail
    go_region_held3 (fun w' => w'.cell? ⟨w.heap.size, 0, none⟩ = some (.int .i64 a) ∧ w'.cell? ⟨w.heap.size, 1, none⟩ = some (.int .i64 b) ∧ w'.cell? ⟨w.heap.size, 2, none⟩ = some (.int .i64 c) ∧ w.heap.size < w'.heap.size ∧ Below w.heap.size w w')
      (first | exact held3_start bx1.out bl1 | exact held3_keep (by assumption) hb3 | exact held3_keep (by assumption) hb4 | exact held3_drewN (by assumption) _ | assumption | go_keep)
      (first | (go_at_call 78; refine (changing_any a b c 100 _ (.inl rfl)).mono ?_; rintro e w3 ⟨rfl, hb3⟩; rw [chg_dry]) | (go_at_call 79; refine (staying_any a b c 119 _ (.inr rfl) hr).mono ?_; rintro e w4 ⟨rfl, hb4⟩; rw [chg_wet]))
    all_goals
      obtain ⟨hbx9, hbl9⟩ := held3_below (by assumption)
      go_wp2
      go_ret2
      exact ⟨rfl, hbl9⟩

set_option maxHeartbeats 800000 in
theorem walkExactIsEven (a b c : Int)  (w : World) (ha : (Lit.int .i64 a).wf = true) (hb : (Lit.int .i64 b).wf = true) (hc : (Lit.int .i64 c).wf = true)  :
    Calls Try.prog 19 #[chn a b c] w fun e w' => e = .returned (.bool true) ∧ Below w.heap.size w w' := by
  clear ha hb hc
  obtain ⟨x, o, hv⟩ := ansEven_form a b c
  have Hv := Lib.hid hv
  clear hv
  have bx0 := Lib.hid (Box3.new w (.int .i64 a) (.int .i64 b) (.int .i64 c) 23)
  have bl0 : Below w.heap.size w (w.alloc (.cells #[.int .i64 a, .int .i64 b, .int .i64 c] 23)) := bel_alloc (Below.refl _ _) _
  go_enter Try.func19, Try.ntmps19
  go_wp2_with fail
  refine (toChain_any _ _ _ _).mono ?_
  rintro e w1 ⟨rfl, hb1⟩
  have bx1 := Lib.hid (bx0.out.keep hb1)
  have bl1 := bel_trans bl0 hb1
  obtain ⟨c0_1, c1_1, c2_1, hk1⟩ := bx1.out
  go_wp2_with fail
  refine (specEven_any a b c _ ).mono ?_
  rintro e w2 ⟨rfl, hb2⟩
  rw [Hv.out]
  have bx2 := Lib.hid (bx1.out.keep hb2)
  have bl2 := bel_trans bl1 hb2
  obtain ⟨c0_2, c1_2, c2_2, hk2⟩ := bx2.out
  go_wp2_with fail
  refine (toChain_any _ _ _ _).mono ?_
  rintro e w3 ⟨rfl, hb3⟩
  have bx3 := Lib.hid (bx2.out.keep hb3)
  have bl3 := bel_trans bl2 hb3
  obtain ⟨c0_3, c1_3, c2_3, hk3⟩ := bx3.out
  go_wp2_with fail
  refine (implEven_any a b c _ ).mono ?_
  rintro e w4 ⟨rfl, hb4⟩
  rw [Hv.out]
  have bx4 := Lib.hid (bx3.out.keep hb4)
  have bl4 := bel_trans bl3 hb4
  obtain ⟨c0_4, c1_4, c2_4, hk4⟩ := bx4.out
  go_wp2_with fail
  go_ret
  exact ⟨rfl, bl4⟩

set_option maxHeartbeats 1600000 in
theorem specDays_any (a b c : Int) (s : ByteArray) (w : World) (hs : s.size ≤ maxLen) :
    Calls Try.prog 27 #[chn a b c, .string s] w fun e w' => e = .returned (ansDays a b c s) ∧ Below w.heap.size w w' := by
  have bx0 := Lib.hid (Box3.new w (.int .i64 a) (.int .i64 b) (.int .i64 c) 25)
  have bl0 : Below w.heap.size w (w.alloc (.cells #[.int .i64 a, .int .i64 b, .int .i64 c] 25)) := bel_alloc (Below.refl _ _) _
  cases h1 : good a b c
  · rw [show ansDays a b c s = failV from by unfold ansDays; rw [h1]; rfl]
    unfold failV
    go_enter Try.func27, Try.ntmps27
    go_wp2_with fail
    refine (cnGood_any a b c _).mono ?_
    rintro e w1 ⟨rfl, hb1⟩
    rw [h1]
    have bx1 := Lib.hid (bx0.out.keep hb1)
    have bl1 := bel_trans bl0 hb1
    obtain ⟨c0_1, c1_1, c2_1, hk1⟩ := bx1.out
    go_wp2_with fail
    go_ret3
    exact ⟨rfl, bl1⟩
  · cases h2 : daysB s
    · rw [show ansDays a b c s = failV from by unfold ansDays; rw [h1, h2]; rfl]
      unfold failV
      go_enter Try.func27, Try.ntmps27
      go_wp2_with fail
      refine (cnGood_any a b c _).mono ?_
      rintro e w1 ⟨rfl, hb1⟩
      rw [h1]
      have bx1 := Lib.hid (bx0.out.keep hb1)
      have bl1 := bel_trans bl0 hb1
      obtain ⟨c0_1, c1_1, c2_1, hk1⟩ := bx1.out
      go_wp2_with fail
      refine (cnDays_any s _ hs).mono ?_
      rintro e w2 ⟨rfl, rfl⟩
      rw [h2]
      go_wp2_with fail
      go_ret3
      exact ⟨rfl, bl1⟩
    · by_cases h3 : s.size ≤ 9
      · rw [show ansDays a b c s = lowV (flw a b c s s.size) (c ^ (s.size - 1)) from by unfold ansDays; rw [h1, h2, decide_eq_true h3]; rfl]
        unfold lowV
        obtain ⟨g1, g2⟩ := days_facts h2
        have hr := inR_of h1
        have r := hr
        unfold inR at r
        obtain ⟨r1, r2, r3, r4, r5, r6⟩ := r
        obtain ⟨p0, p1⟩ := flw_le9 hr s s.size h3
        obtain ⟨q0, q1⟩ := pow_le9 c (by omega) r6 (s.size - 1) (by omega)
        have q2 := pow_pos' r5 (s.size - 1)
        have hw1 : IntKind.i64.wrap ((s.size : Int) - 1) = ((s.size - 1 : Nat) : Int) := by rw [IntWalk.i64_in _ (by omega)]; omega
        have hz : decide ((9 : Int) < (s.size : Int)) = false := by simp; omega
        go_enter Try.func27, Try.ntmps27
        go_wp2_with fail
        refine (cnGood_any a b c _).mono ?_
        rintro e w1 ⟨rfl, hb1⟩
        rw [h1]
        have bx1 := Lib.hid (bx0.out.keep hb1)
        have bl1 := bel_trans bl0 hb1
        obtain ⟨c0_1, c1_1, c2_1, hk1⟩ := bx1.out
        go_wp2_with fail
        refine (cnDays_any s _ hs).mono ?_
        rintro e w2 ⟨rfl, rfl⟩
        rw [h2]
        go_wp2_with fail
        refine (cnFollow_any a b c s _ hr g2 g1 h3).mono ?_
        rintro e w3 ⟨rfl, hb3⟩
        have bx3 := Lib.hid (bx1.out.keep hb3)
        have bl3 := bel_trans bl1 hb3
        obtain ⟨c0_3, c1_3, c2_3, hk3⟩ := bx3.out
        go_wp2_with fail
        refine (cnLow_any (flw a b c s s.size) (c ^ (s.size - 1)) _ p0 q2 (by omega) (by omega)).mono ?_
        rintro e wd4 ⟨rfl, nd4, rfl⟩
        go_wp2_with fail
        go_ret3
        exact ⟨rfl, bel_drewN bl3 _⟩
      · rw [show ansDays a b c s = failV from by unfold ansDays; rw [h1, h2, decide_eq_false h3]; rfl]
        unfold failV
        have h3' : 9 < s.size := by omega
        have hz : decide ((9 : Int) < (s.size : Int)) = true := by simp; omega
        go_enter Try.func27, Try.ntmps27
        go_wp2_with fail
        refine (cnGood_any a b c _).mono ?_
        rintro e w1 ⟨rfl, hb1⟩
        rw [h1]
        have bx1 := Lib.hid (bx0.out.keep hb1)
        have bl1 := bel_trans bl0 hb1
        obtain ⟨c0_1, c1_1, c2_1, hk1⟩ := bx1.out
        go_wp2_with fail
        refine (cnDays_any s _ hs).mono ?_
        rintro e w2 ⟨rfl, rfl⟩
        rw [h2]
        go_wp2_with fail
        go_ret3
        exact ⟨rfl, bl1⟩

set_option maxHeartbeats 1600000 in
theorem implDays_any (a b c : Int) (s : ByteArray) (w : World) (hs : s.size ≤ maxLen) :
    Calls Try.prog 28 #[chn a b c, .string s] w fun e w' => e = .returned (ansDays a b c s) ∧ Below w.heap.size w w' := by
  have bx0 := Lib.hid (Box3.new w (.int .i64 a) (.int .i64 b) (.int .i64 c) 25)
  have bl0 : Below w.heap.size w (w.alloc (.cells #[.int .i64 a, .int .i64 b, .int .i64 c] 25)) := bel_alloc (Below.refl _ _) _
  cases h1 : good a b c
  · rw [show ansDays a b c s = failV from by unfold ansDays; rw [h1]; rfl]
    unfold failV
    go_enter Try.func28, Try.ntmps28
    go_wp2_with fail
    refine (implIsChain_any a b c _).mono ?_
    rintro e w1 ⟨rfl, hb1⟩
    rw [h1]
    have bx1 := Lib.hid (bx0.out.keep hb1)
    have bl1 := bel_trans bl0 hb1
    obtain ⟨c0_1, c1_1, c2_1, hk1⟩ := bx1.out
    go_wp2_with fail
    go_ret3
    exact ⟨rfl, bl1⟩
  · cases h2 : daysB s
    · rw [show ansDays a b c s = failV from by unfold ansDays; rw [h1, h2]; rfl]
      unfold failV
      go_enter Try.func28, Try.ntmps28
      go_wp2_with fail
      refine (implIsChain_any a b c _).mono ?_
      rintro e w1 ⟨rfl, hb1⟩
      rw [h1]
      have bx1 := Lib.hid (bx0.out.keep hb1)
      have bl1 := bel_trans bl0 hb1
      obtain ⟨c0_1, c1_1, c2_1, hk1⟩ := bx1.out
      go_wp2_with fail
      refine (implAreDays_any s _ hs).mono ?_
      rintro e w2 ⟨rfl, rfl⟩
      rw [h2]
      go_wp2_with fail
      go_ret3
      exact ⟨rfl, bl1⟩
    · by_cases h3 : s.size ≤ 9
      · rw [show ansDays a b c s = lowV (flw a b c s s.size) (c ^ (s.size - 1)) from by unfold ansDays; rw [h1, h2, decide_eq_true h3]; rfl]
        unfold lowV
        obtain ⟨g1, g2⟩ := days_facts h2
        have hr := inR_of h1
        have r := hr
        unfold inR at r
        obtain ⟨r1, r2, r3, r4, r5, r6⟩ := r
        obtain ⟨p0, p1⟩ := flw_le9 hr s s.size h3
        obtain ⟨q0, q1⟩ := pow_le9 c (by omega) r6 (s.size - 1) (by omega)
        have q2 := pow_pos' r5 (s.size - 1)
        have hw1 : IntKind.i64.wrap ((s.size : Int) - 1) = ((s.size - 1 : Nat) : Int) := by rw [IntWalk.i64_in _ (by omega)]; omega
        have hz : decide ((9 : Int) < (s.size : Int)) = false := by simp; omega
        go_enter Try.func28, Try.ntmps28
        go_wp2_with fail
        refine (implIsChain_any a b c _).mono ?_
        rintro e w1 ⟨rfl, hb1⟩
        rw [h1]
        have bx1 := Lib.hid (bx0.out.keep hb1)
        have bl1 := bel_trans bl0 hb1
        obtain ⟨c0_1, c1_1, c2_1, hk1⟩ := bx1.out
        go_wp2_with fail
        refine (implAreDays_any s _ hs).mono ?_
        rintro e w2 ⟨rfl, rfl⟩
        rw [h2]
        go_wp2_with fail
        go_region_held3 (fun w' => w'.cell? ⟨w.heap.size, 0, none⟩ = some (.int .i64 a) ∧ w'.cell? ⟨w.heap.size, 1, none⟩ = some (.int .i64 b) ∧ w'.cell? ⟨w.heap.size, 2, none⟩ = some (.int .i64 c) ∧ w.heap.size < w'.heap.size ∧ Below w.heap.size w w')
          (first | exact held3_start bx1.out bl1 | exact held3_keep (by assumption) hb3 | exact held3_drewN (by assumption) _ | assumption | go_keep)
          (first | (go_at_call 67; refine (followed_any a b c s _ hr g2 g1 h3).mono ?_; rintro e w3 ⟨rfl, hb3⟩) | (go_at_call 69; refine (power_any c (s.size - 1) _ (by omega) r6 (by omega)).mono ?_; rintro e w4 ⟨rfl, rfl⟩) | (go_at_call 66; refine (told_any (flw a b c s s.size) (c ^ (s.size - 1)) _ p0 q2 (by omega) (by omega)).mono ?_; rintro e w5 ⟨rfl, n5, rfl⟩))
        all_goals
          obtain ⟨hbx9, hbl9⟩ := held3_below (by assumption)
          go_wp2
          go_ret3
          exact ⟨rfl, hbl9⟩
      · rw [show ansDays a b c s = failV from by unfold ansDays; rw [h1, h2, decide_eq_false h3]; rfl]
        unfold failV
        have h3' : 9 < s.size := by omega
        have hz : decide ((9 : Int) < (s.size : Int)) = true := by simp; omega
        go_enter Try.func28, Try.ntmps28
        go_wp2_with fail
        refine (implIsChain_any a b c _).mono ?_
        rintro e w1 ⟨rfl, hb1⟩
        rw [h1]
        have bx1 := Lib.hid (bx0.out.keep hb1)
        have bl1 := bel_trans bl0 hb1
        obtain ⟨c0_1, c1_1, c2_1, hk1⟩ := bx1.out
        go_wp2_with fail
        refine (implAreDays_any s _ hs).mono ?_
        rintro e w2 ⟨rfl, rfl⟩
        rw [h2]
        go_wp2_with fail
        go_ret3
        exact ⟨rfl, bl1⟩

set_option maxHeartbeats 800000 in
theorem walkExactChanceOfDays (a b c : Int) (s : ByteArray) (w : World) (ha : (Lit.int .i64 a).wf = true) (hb : (Lit.int .i64 b).wf = true) (hc : (Lit.int .i64 c).wf = true) (hs : s.size ≤ maxLen) :
    Calls Try.prog 6 #[chn a b c, .string s] w fun e w' => e = .returned (.bool true) ∧ Below w.heap.size w w' := by
  clear ha hb hc
  by_cases zs : s.size ≤ 1048576
  · skip
    obtain ⟨x, y, o, hv⟩ := ansDays_form a b c s
    have Hv := Lib.hid hv
    clear hv
    have bx0 := Lib.hid (Box3.new w (.int .i64 a) (.int .i64 b) (.int .i64 c) 23)
    have bl0 : Below w.heap.size w (w.alloc (.cells #[.int .i64 a, .int .i64 b, .int .i64 c] 23)) := bel_alloc (Below.refl _ _) _
    go_enter Try.func6, Try.ntmps6
    go_wp2_with fail
    refine (toChain_any _ _ _ _).mono ?_
    rintro e w1 ⟨rfl, hb1⟩
    have bx1 := Lib.hid (bx0.out.keep hb1)
    have bl1 := bel_trans bl0 hb1
    obtain ⟨c0_1, c1_1, c2_1, hk1⟩ := bx1.out
    go_wp2_with fail
    refine (specDays_any a b c s _ hs).mono ?_
    rintro e w2 ⟨rfl, hb2⟩
    rw [Hv.out]
    have bx2 := Lib.hid (bx1.out.keep hb2)
    have bl2 := bel_trans bl1 hb2
    obtain ⟨c0_2, c1_2, c2_2, hk2⟩ := bx2.out
    go_wp2_with fail
    refine (toChain_any _ _ _ _).mono ?_
    rintro e w3 ⟨rfl, hb3⟩
    have bx3 := Lib.hid (bx2.out.keep hb3)
    have bl3 := bel_trans bl2 hb3
    obtain ⟨c0_3, c1_3, c2_3, hk3⟩ := bx3.out
    go_wp2_with fail
    refine (implDays_any a b c s _ hs).mono ?_
    rintro e w4 ⟨rfl, hb4⟩
    rw [Hv.out]
    have bx4 := Lib.hid (bx3.out.keep hb4)
    have bl4 := bel_trans bl3 hb4
    obtain ⟨c0_4, c1_4, c2_4, hk4⟩ := bx4.out
    go_wp2_with fail
    go_ret
    exact ⟨rfl, bl4⟩
  · go_enter Try.func6, Try.ntmps6
    go_wp2
    go_ret
    exact ⟨rfl, bel_alloc (Below.refl _ _) _⟩
end Go.Proofs.Ytkehgokgngimgaa
