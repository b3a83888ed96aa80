/- ChanceOfAll: the contracts of the program and of its model, and the walk. -/
import Derived.Test.YtnpghbbmhehnlaaDoorFrT
import Derived.Test.YtnpghbbmhehnlaaDoorPart
namespace Go.Proofs.YtnpghbbmhehnlaaDoor
open Go.ChangeShapes Go.WideShapes Go.ChangeAt Go.RowKit
set_option linter.unusedVariables false


def ansCA (h o : Int) (s : ByteArray) : Value := if coinG h o && upG 8 s then lowV (prA h o s) (o ^ s.size) else failV
theorem ansCA_form (h o : Int) (s : ByteArray) : ∃ (x y : Int) (ok : Bool), ansCA h o s = .tuple #[.int .i64 x, .int .i64 y, .bool ok] := if_form _ (lowV_form _ _) failV_form
theorem up8_in {s : ByteArray} (g : upG 8 s = true) : s.size ≤ 8 ∧ allT s = true ∧ tossG s = true := by
  unfold upG at g
  simp at g
  refine ⟨g.1, g.2, ?_⟩
  unfold tossG
  simp [g.2]
  omega
theorem up8_not {s : ByteArray} (g : upG 8 s = false) (t : tossG s = true) : ¬ s.size ≤ 8 := by
  intro h
  unfold tossG at t
  unfold upG at g
  simp at t g
  rw [g h] at t
  cases t.2

set_option maxHeartbeats 1600000 in
theorem specCA_any (h o : Int) (s : ByteArray) (w : World) (hs : s.size ≤ maxLen) :
    Calls Tryd.prog 19 #[cn h o, .string s] w fun e w' => e = .returned (ansCA h o s) ∧ Below w.heap.size w w' := by
  have bx0 := Lib.hid (Box2.new w (.int .i64 h) (.int .i64 o) 34)
  have bl0 : Below w.heap.size w (w.alloc (.cells #[.int .i64 h, .int .i64 o] 34)) := bel_alloc (Below.refl _ _) _
  cases h1 : coinG h o
  · rw [show ansCA h o s = failV from by unfold ansCA; rw [h1]; rfl]
    unfold failV
    go_enter Tryd.func19, Tryd.ntmps19
    go_wp2_with fail
    refine (ptCoin_any h o _).mono ?_
    rintro e w1 ⟨rfl, hb1⟩
    rw [h1]
    have bx1 := Lib.hid (bx0.out.keep hb1)
    have bl1 := bel_trans bl0 hb1
    obtain ⟨c0_1, c1_1, hk1⟩ := bx1.out
    go_wp2_with fail
    go_ret3
    exact ⟨rfl, bl1⟩
  · cases h2 : upG 8 s
    · rw [show ansCA h o s = failV from by unfold ansCA; rw [h1, h2]; rfl]
      unfold failV
      cases h3 : tossG s
      · skip
        go_enter Tryd.func19, Tryd.ntmps19
        go_wp2_with fail
        refine (ptCoin_any h o _).mono ?_
        rintro e w1 ⟨rfl, hb1⟩
        rw [h1]
        have bx1 := Lib.hid (bx0.out.keep hb1)
        have bl1 := bel_trans bl0 hb1
        obtain ⟨c0_1, c1_1, hk1⟩ := bx1.out
        go_wp2_with fail
        refine (ptTosses_any s _ hs).mono ?_
        rintro e w2 ⟨rfl, rfl⟩
        rw [h3]
        go_wp2_with fail
        go_ret3
        exact ⟨rfl, bl1⟩
      · have h4 := up8_not h2 h3
        have h5 : ¬ (s.size : Int) ≤ 8 := by omega
        go_enter Tryd.func19, Tryd.ntmps19
        go_wp2_with fail
        refine (ptCoin_any h o _).mono ?_
        rintro e w1 ⟨rfl, hb1⟩
        rw [h1]
        have bx1 := Lib.hid (bx0.out.keep hb1)
        have bl1 := bel_trans bl0 hb1
        obtain ⟨c0_1, c1_1, hk1⟩ := bx1.out
        go_wp2_with fail
        refine (ptTosses_any s _ hs).mono ?_
        rintro e w2 ⟨rfl, rfl⟩
        rw [h3]
        go_wp2_with fail
        go_ret3
        exact ⟨rfl, bl1⟩
    · rw [show ansCA h o s = lowV (prA h o s) (o ^ s.size) from by unfold ansCA; rw [h1, h2]; rfl]
      unfold lowV
      obtain ⟨g3, g4, g5⟩ := up8_in h2
      obtain ⟨r1, r2, r3, r4⟩ := coin_in h1
      obtain ⟨p0, p1⟩ := prK_le8 h1 s s.size g3
      obtain ⟨q0, q1⟩ := pow_le8 o (by omega) r4 s.size g3
      change 1 ≤ prA h o s at p0
      change prA h o s ≤ _ at p1
      have h5 : (s.size : Int) ≤ 8 := by omega
      go_enter Tryd.func19, Tryd.ntmps19
      go_wp2_with fail
      refine (ptCoin_any h o _).mono ?_
      rintro e w1 ⟨rfl, hb1⟩
      rw [h1]
      have bx1 := Lib.hid (bx0.out.keep hb1)
      have bl1 := bel_trans bl0 hb1
      obtain ⟨c0_1, c1_1, hk1⟩ := bx1.out
      go_wp2_with fail
      refine (ptTosses_any s _ hs).mono ?_
      rintro e w2 ⟨rfl, rfl⟩
      rw [g5]
      go_wp2_with fail
      refine (ptChance_any h o s _ h1 g4 g3).mono ?_
      rintro e w3 ⟨rfl, hb3⟩
      have bx3 := Lib.hid (bx1.out.keep hb3)
      have bl3 := bel_trans bl1 hb3
      obtain ⟨c0_3, c1_3, hk3⟩ := bx3.out
      go_wp2_with fail
      refine (cnLow_any (prA h o s) (o ^ s.size) _ (by omega) (by omega) (by omega) (by omega)).mono ?_
      rintro e w5 ⟨rfl, n5, rfl⟩
      go_wp2_with fail
      go_ret3
      exact ⟨rfl, bel_drewN bl3 n5⟩

set_option maxHeartbeats 1600000 in
theorem implCA_any (h o : Int) (s : ByteArray) (w : World) (hs : s.size ≤ maxLen) :
    Calls Tryd.prog 21 #[cn h o, .string s] w fun e w' => e = .returned (ansCA h o s) ∧ Below w.heap.size w w' := by
  have bx0 := Lib.hid (Box2.new w (.int .i64 h) (.int .i64 o) 34)
  have bl0 : Below w.heap.size w (w.alloc (.cells #[.int .i64 h, .int .i64 o] 34)) := bel_alloc (Below.refl _ _) _
  cases h1 : coinG h o
  · rw [show ansCA h o s = failV from by unfold ansCA; rw [h1]; rfl]
    unfold failV
    go_enter Tryd.func21, Tryd.ntmps21
    go_wp2_with fail
    refine (implIsCoin_any h o _).mono ?_
    rintro e w1 ⟨rfl, hb1⟩
    rw [h1]
    have bx1 := Lib.hid (bx0.out.keep hb1)
    have bl1 := bel_trans bl0 hb1
    obtain ⟨c0_1, c1_1, hk1⟩ := bx1.out
    go_wp2_with fail
    go_ret3
    exact ⟨rfl, bl1⟩
  · cases h2 : upG 8 s
    · rw [show ansCA h o s = failV from by unfold ansCA; rw [h1, h2]; rfl]
      unfold failV
      go_enter Tryd.func21, Tryd.ntmps21
      go_wp2_with fail
      refine (implIsCoin_any h o _).mono ?_
      rintro e w1 ⟨rfl, hb1⟩
      rw [h1]
      have bx1 := Lib.hid (bx0.out.keep hb1)
      have bl1 := bel_trans bl0 hb1
      obtain ⟨c0_1, c1_1, hk1⟩ := bx1.out
      go_wp2_with fail
      refine (upTo_any 8 s _ (by omega) hs).mono ?_
      rintro e w2 ⟨rfl, hb2⟩
      rw [h2]
      have bx2 := Lib.hid (bx1.out.keep hb2)
      have bl2 := bel_trans bl1 hb2
      obtain ⟨c0_2, c1_2, hk2⟩ := bx2.out
      go_wp2_with fail
      go_ret3
      exact ⟨rfl, bl2⟩
    · rw [show ansCA h o s = lowV (prA h o s) (o ^ s.size) from by unfold ansCA; rw [h1, h2]; rfl]
      unfold lowV
      obtain ⟨g3, g4, g5⟩ := up8_in h2
      obtain ⟨r1, r2, r3, r4⟩ := coin_in h1
      obtain ⟨p0, p1⟩ := prK_le8 h1 s s.size g3
      obtain ⟨q0, q1⟩ := pow_le8 o (by omega) r4 s.size g3
      change 1 ≤ prA h o s at p0
      change prA h o s ≤ _ at p1
      have h5 : (s.size : Int) ≤ 8 := by omega
      go_enter Tryd.func21, Tryd.ntmps21
      go_wp2_with fail
      refine (implIsCoin_any h o _).mono ?_
      rintro e w1 ⟨rfl, hb1⟩
      rw [h1]
      have bx1 := Lib.hid (bx0.out.keep hb1)
      have bl1 := bel_trans bl0 hb1
      obtain ⟨c0_1, c1_1, hk1⟩ := bx1.out
      go_wp2_with fail
      refine (upTo_any 8 s _ (by omega) hs).mono ?_
      rintro e w2 ⟨rfl, hb2⟩
      rw [h2]
      have bx2 := Lib.hid (bx1.out.keep hb2)
      have bl2 := bel_trans bl1 hb2
      obtain ⟨c0_2, c1_2, hk2⟩ := bx2.out
      go_wp2_with fail
      go_region_held3 (fun w' => w'.cell? ⟨w.heap.size, 0, none⟩ = some (.int .i64 h) ∧ w'.cell? ⟨w.heap.size, 1, none⟩ = some (.int .i64 o) ∧ w.heap.size < w'.heap.size ∧ Below w.heap.size w w')
        (first | exact held2_start bx2.out bl2 | exact held2_keep (by assumption) hb3 | exact held2_drewN (by assumption) _ | assumption | go_keep)
        (first | (go_at_call 34; refine (part_any h o s _ h1 g3).mono ?_; rintro e w3 ⟨rfl, hb3⟩) | (go_at_call 35; refine (power_any o s.size _ (by omega) r4 (by omega)).mono ?_; rintro e w4 ⟨rfl, rfl⟩) | (go_at_call 33; refine (told_any (prA h o s) (o ^ s.size) _ (by omega) (by omega) (by omega) (by omega)).mono ?_; rintro e w5 ⟨rfl, n5, rfl⟩))
      all_goals
        obtain ⟨hbx9, hbl9⟩ := held2_below (by assumption)
        go_wp2
        go_ret3
        exact ⟨rfl, hbl9⟩

set_option maxHeartbeats 800000 in
theorem walkExactChanceOfAll (h o : Int) (s : ByteArray) (w : World) (ha : (Lit.int .i64 h).wf = true) (hb : (Lit.int .i64 o).wf = true) (hs : s.size ≤ maxLen) :
    Calls Tryd.prog 8 #[cn h o, .string s] w fun e w' => e = .returned (.bool true) ∧ Below w.heap.size w w' := by
  clear ha hb
  by_cases zs : s.size ≤ 1048576
  · skip
    obtain ⟨x, y, ok, hv⟩ := ansCA_form h o s
    have Hv := Lib.hid hv
    clear hv
    have bx0 := Lib.hid (Box2.new w (.int .i64 h) (.int .i64 o) 31)
    have bl0 : Below w.heap.size w (w.alloc (.cells #[.int .i64 h, .int .i64 o] 31)) := bel_alloc (Below.refl _ _) _
    go_enter Tryd.func8, Tryd.ntmps8
    go_wp2_with fail
    refine (toCoin_any _ _ _).mono ?_
    rintro e w1 ⟨rfl, hb1⟩
    have bx1 := Lib.hid (bx0.out.keep hb1)
    have bl1 := bel_trans bl0 hb1
    obtain ⟨c0_1, c1_1, hk1⟩ := bx1.out
    go_wp2_with fail
    refine (specCA_any h o s _ hs).mono ?_
    rintro e w2 ⟨rfl, hb2⟩
    rw [Hv.out]
    have bx2 := Lib.hid (bx1.out.keep hb2)
    have bl2 := bel_trans bl1 hb2
    obtain ⟨c0_2, c1_2, hk2⟩ := bx2.out
    go_wp2_with fail
    refine (toCoin_any _ _ _).mono ?_
    rintro e w3 ⟨rfl, hb3⟩
    have bx3 := Lib.hid (bx2.out.keep hb3)
    have bl3 := bel_trans bl2 hb3
    obtain ⟨c0_3, c1_3, hk3⟩ := bx3.out
    go_wp2_with fail
    refine (implCA_any h o s _ hs).mono ?_
    rintro e w4 ⟨rfl, hb4⟩
    rw [Hv.out]
    have bx4 := Lib.hid (bx3.out.keep hb4)
    have bl4 := bel_trans bl3 hb4
    obtain ⟨c0_4, c1_4, hk4⟩ := bx4.out
    go_wp2_with fail
    go_ret
    exact ⟨rfl, bl4⟩
  · go_enter Tryd.func8, Tryd.ntmps8
    go_wp2
    go_ret
    exact ⟨rfl, bel_alloc (Below.refl _ _) _⟩

end Go.Proofs.YtnpghbbmhehnlaaDoor
