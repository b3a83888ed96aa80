/- MeanRun, LongShare: the contracts of the program. -/
import Derived.Test.YtggflgmjncjmbaaLaterD
namespace Go.Proofs.Ytggflgmjncjmbaa
set_option linter.unusedSimpArgs false
open Go.ChangeShapes Go.WideShapes Go.ChangeAt Go.RowKit
set_option linter.unusedVariables false

theorem day_size {s : ByteArray} (h : dayS s = true) : s.size = 1 := by
  have hl : s.data.toList.length = s.size := by simp
  rcases dayS_cases h with e | e <;> rw [e] at hl <;> simpa using hl.symm
theorem day_all {s : ByteArray} (h : dayS s = true) : allB s = true := by
  unfold allB
  rcases dayS_cases h with e | e <;> rw [e] <;> simp [dayB]
theorem day_val {s : ByteArray} (h : dayS s = true) : dayV (sgn s 0) := sgn_day s 0 (by rw [day_size h]; omega) (day_all h)

theorem bel_undrew {W w1 : World} (h : Below W.drew.heap.size W.drew w1) : Below W.heap.size W w1 := ⟨h.os, h.tape, h.output, h.size, h.block⟩
def ansRun (a b c : Int) (s : ByteArray) : Value := if good a b c && dayS s then (if chg a b (sgn s 0) == 0 then failV else lowV c (chg a b (sgn s 0))) else failV
theorem ansRun_form (a b c : Int) (s : ByteArray) : ∃ (x y : Int) (o : Bool), ansRun a b c s = .tuple #[.int .i64 x, .int .i64 y, .bool o] := if_form _ (if_form _ failV_form (lowV_form _ _)) failV_form
def ansShare (a b c : Int) (s : ByteArray) : Value := if good a b c && dayS s then (if mixB a b then lowV (chg a b (219 - sgn s 0)) (a + b) else failV) else failV
theorem ansShare_form (a b c : Int) (s : ByteArray) : ∃ (x y : Int) (o : Bool), ansShare a b c s = .tuple #[.int .i64 x, .int .i64 y, .bool o] := if_form _ (if_form _ (lowV_form _ _) failV_form) failV_form
theorem chg_turn (a b d : Int) (h : dayV d) : chg a b (219 - d) = (if d = 100 then b else a) := by
  rcases h with rfl | rfl <;> simp [chg]

set_option maxHeartbeats 1600000 in
theorem implRun_any (a b c : Int) (s : ByteArray) (w : World) (hs : s.size ≤ maxLen) :
    Calls Try.prog 102 #[chn a b c, .string s] w fun e w' => e = .returned (ansRun a b c s) ∧ Below w.heap.size w w' := by
  have bx0 := Lib.hid (Box3.new w (.int .i64 a) (.int .i64 b) (.int .i64 c) 41)
  have bl0 : Below w.heap.size w (w.alloc (.cells #[.int .i64 a, .int .i64 b, .int .i64 c] 41)) := bel_alloc (Below.refl _ _) _
  cases h1 : (good a b c && dayS s)
  · rw [show ansRun a b c s = failV from by unfold ansRun; rw [h1]; rfl]
    unfold failV
    go_enter Try.func102, Try.ntmps102
    go_wp2_with fail
    refine (isDayOf_any a b c s _ hs).mono ?_
    rintro e w1 ⟨rfl, hb1⟩
    rw [h1]
    have bx1 := Lib.hid (bx0.out.keep hb1)
    have bl1 := bel_trans bl0 hb1
    obtain ⟨c0_1, c1_1, c2_1, hk1⟩ := bx1.out
    go_wp2_with fail
    go_ret3
    exact ⟨rfl, bl1⟩
  · skip
    have h1a : good a b c = true := by simp at h1; exact h1.1
    have h1b : dayS s = true := by simp at h1; exact h1.2
    have hr := inR_of h1a
    have hd := day_val h1b
    have r := hr
    unfold inR at r
    obtain ⟨r1, r2, r3, r4, r5, r6⟩ := r
    have zs : 0 < s.size := by rw [day_size h1b]; omega
    have e1 := sgn_at s 0 zs
    cases h2 : (chg a b (sgn s 0) == 0)
    · rw [show ansRun a b c s = lowV c (chg a b (sgn s 0)) from by unfold ansRun; rw [h1, h2]; rfl]
      unfold lowV
      obtain ⟨g0, g1⟩ := chg_in hr (sgn s 0)
      have g2 : 1 ≤ chg a b (sgn s 0) := by simp at h2; omega
      go_enter Try.func102, Try.ntmps102
      go_wp2_with fail
      refine (isDayOf_any a b c s _ hs).mono ?_
      rintro e w1 ⟨rfl, hb1⟩
      rw [h1]
      have bx1 := Lib.hid (bx0.out.keep hb1)
      have bl1 := bel_trans bl0 hb1
      obtain ⟨c0_1, c1_1, c2_1, hk1⟩ := bx1.out
      go_wp2_with fail
      go_region_held3 (fun w' => w'.cell? ⟨w.heap.size, 0, none⟩ = some (.int .i64 a) ∧ w'.cell? ⟨w.heap.size, 1, none⟩ = some (.int .i64 b) ∧ w'.cell? ⟨w.heap.size, 2, none⟩ = some (.int .i64 c) ∧ w.heap.size < w'.heap.size ∧ Below w.heap.size w w')
        (first | exact held3_start bx1.out bl1 | exact held3_keep (by assumption) hb2 | exact held3_drewN (by assumption) _ | go_keep)
        (first | (go_at_call 108; refine (changing_any a b c (sgn s 0) _ hd).mono ?_; rintro e w2 ⟨rfl, hb2⟩))
      all_goals
        obtain ⟨hbx3, hbl3⟩ := held3_below (by assumption)
        obtain ⟨k0, k1, k2, k3⟩ := hbx3
        go_wp2_with fail
        refine (told_any c (chg a b (sgn s 0)) _ (by omega) g2 (by omega) (by omega)).mono ?_
        rintro e wd5 ⟨rfl, nd5, rfl⟩
        go_wp2_with fail
        go_ret3
        exact ⟨rfl, bel_drewN hbl3 _⟩
    · rw [show ansRun a b c s = failV from by unfold ansRun; rw [h1, h2]; rfl]
      unfold failV
      go_enter Try.func102, Try.ntmps102
      go_wp2_with fail
      refine (isDayOf_any a b c s _ hs).mono ?_
      rintro e w1 ⟨rfl, hb1⟩
      rw [h1]
      have bx1 := Lib.hid (bx0.out.keep hb1)
      have bl1 := bel_trans bl0 hb1
      obtain ⟨c0_1, c1_1, c2_1, hk1⟩ := bx1.out
      go_wp2_with fail
      go_region_held3 (fun w' => w'.cell? ⟨w.heap.size, 0, none⟩ = some (.int .i64 a) ∧ w'.cell? ⟨w.heap.size, 1, none⟩ = some (.int .i64 b) ∧ w'.cell? ⟨w.heap.size, 2, none⟩ = some (.int .i64 c) ∧ w.heap.size < w'.heap.size ∧ Below w.heap.size w w')
        (first | exact held3_start bx1.out bl1 | exact held3_keep (by assumption) hb2 | exact held3_drewN (by assumption) _ | go_keep)
        (first | (go_at_call 108; refine (changing_any a b c (sgn s 0) _ hd).mono ?_; rintro e w2 ⟨rfl, hb2⟩))
      all_goals
        obtain ⟨hbx3, hbl3⟩ := held3_below (by assumption)
        go_wp2
        go_ret3
        exact ⟨rfl, hbl3⟩

set_option maxHeartbeats 1600000 in
theorem implShare_any (a b c : Int) (s : ByteArray) (w : World) (hs : s.size ≤ maxLen) :
    Calls Try.prog 101 #[chn a b c, .string s] w fun e w' => e = .returned (ansShare a b c s) ∧ Below w.heap.size w w' := by
  have bx0 := Lib.hid (Box3.new w (.int .i64 a) (.int .i64 b) (.int .i64 c) 41)
  have bl0 : Below w.heap.size w (w.alloc (.cells #[.int .i64 a, .int .i64 b, .int .i64 c] 41)) := bel_alloc (Below.refl _ _) _
  cases h1 : (good a b c && dayS s)
  · rw [show ansShare a b c s = failV from by unfold ansShare; rw [h1]; rfl]
    unfold failV
    go_enter Try.func101, Try.ntmps101
    go_wp2_with fail
    refine (isDayOf_any a b c s _ hs).mono ?_
    rintro e w1 ⟨rfl, hb1⟩
    rw [h1]
    have bx1 := Lib.hid (bx0.out.keep hb1)
    have bl1 := bel_trans bl0 hb1
    obtain ⟨c0_1, c1_1, c2_1, hk1⟩ := bx1.out
    go_wp2_with fail
    go_ret3
    exact ⟨rfl, bl1⟩
  · skip
    have h1a : good a b c = true := by simp at h1; exact h1.1
    have h1b : dayS s = true := by simp at h1; exact h1.2
    have hr := inR_of h1a
    have hd := day_val h1b
    have r := hr
    unfold inR at r
    obtain ⟨r1, r2, r3, r4, r5, r6⟩ := r
    have zs : 0 < s.size := by rw [day_size h1b]; omega
    have e1 := sgn_at s 0 zs
    cases h2 : mixB a b
    · rw [show ansShare a b c s = failV from by unfold ansShare; rw [h1, h2]; rfl]
      unfold failV
      go_enter Try.func101, Try.ntmps101
      go_wp2_with fail
      refine (isDayOf_any a b c s _ hs).mono ?_
      rintro e w1 ⟨rfl, hb1⟩
      rw [h1]
      have bx1 := Lib.hid (bx0.out.keep hb1)
      have bl1 := bel_trans bl0 hb1
      obtain ⟨c0_1, c1_1, c2_1, hk1⟩ := bx1.out
      go_wp2_with fail
      refine (mixes_any a b c _).mono ?_
      rintro e w2 ⟨rfl, hb2⟩
      rw [h2]
      have bx2 := Lib.hid (bx1.out.keep hb2)
      have bl2 := bel_trans bl1 hb2
      obtain ⟨c0_2, c1_2, c2_2, hk2⟩ := bx2.out
      go_wp2_with fail
      go_ret3
      exact ⟨rfl, bl2⟩
    · rw [show ansShare a b c s = lowV (chg a b (219 - sgn s 0)) (a + b) from by unfold ansShare; rw [h1, h2]; rfl]
      unfold lowV
      obtain ⟨g0, g1⟩ := chg_in hr (219 - sgn s 0)
      have g2 : 1 ≤ a ∧ 1 ≤ b := by simpa [mixB] using h2
      have hab : IntKind.i64.wrap (a + b) = a + b := IntWalk.i64_in _ (by omega)
      go_enter Try.func101, Try.ntmps101
      go_wp2_with fail
      refine (isDayOf_any a b c s _ hs).mono ?_
      rintro e w1 ⟨rfl, hb1⟩
      rw [h1]
      have bx1 := Lib.hid (bx0.out.keep hb1)
      have bl1 := bel_trans bl0 hb1
      obtain ⟨c0_1, c1_1, c2_1, hk1⟩ := bx1.out
      go_wp2_with fail
      refine (mixes_any a b c _).mono ?_
      rintro e w2 ⟨rfl, hb2⟩
      rw [h2]
      have bx2 := Lib.hid (bx1.out.keep hb2)
      have bl2 := bel_trans bl1 hb2
      obtain ⟨c0_2, c1_2, c2_2, hk2⟩ := bx2.out
      go_wp2_with fail
      go_region_held3 (fun w' => w'.cell? ⟨w.heap.size, 0, none⟩ = some (.int .i64 a) ∧ w'.cell? ⟨w.heap.size, 1, none⟩ = some (.int .i64 b) ∧ w'.cell? ⟨w.heap.size, 2, none⟩ = some (.int .i64 c) ∧ w.heap.size < w'.heap.size ∧ Below w.heap.size w w')
        (first | exact held3_start bx2.out bl2 | exact held3_keep (by assumption) hb3 | exact held3_drewN (by assumption) _ | go_keep)
        (first | (go_at_call 107; refine (share_any a b c (sgn s 0) _ hd).mono ?_; rintro e w3 ⟨rfl, hb3⟩) | (go_at_call 106; refine (told_any (chg a b (219 - sgn s 0)) (a + b) _ (by omega) (by omega) (by omega) (by omega)).mono ?_; rintro e w4 ⟨rfl, n4, rfl⟩))
      all_goals
        obtain ⟨hbx4, hbl4⟩ := held3_below (by assumption)
        go_wp2
        go_ret3
        exact ⟨rfl, hbl4⟩

end Go.Proofs.Ytggflgmjncjmbaa
