/- ChanceOfPattern and MeanBetween: the contracts of the program and of its model, and the walks. -/
import Derived.Test.YtjckmnbpfmcadaaDoorBoth
namespace Go.Proofs.YtjckmnbpfmcadaaDoor
set_option linter.unusedSimpArgs false
open Go.ChangeShapes Go.WideShapes Go.ChangeAt Go.RowKit
set_option linter.unusedVariables false


theorem both_in {h o : Int} {s : ByteArray} (g : (coinG h o && patG s) = true) : coinG h o = true ∧ 1 ≤ s.size ∧ s.size ≤ 8 ∧ allT s = true := by
  rw [Bool.and_eq_true] at g
  exact ⟨g.1, pat_in g.2⟩
def ansPat (h o : Int) (s : ByteArray) : Value := if coinG h o && patG s then lowV (prA h o s) (o ^ s.size) else failV
theorem ansPat_form (h o : Int) (s : ByteArray) : ∃ (x y : Int) (ok : Bool), ansPat h o s = .tuple #[.int .i64 x, .int .i64 y, .bool ok] := if_form _ (lowV_form _ _) failV_form
def ansBet (h o : Int) (s : ByteArray) : Value := if coinG h o && patG s then lowV (o ^ s.size) (prA h o s) else failV
theorem ansBet_form (h o : Int) (s : ByteArray) : ∃ (x y : Int) (ok : Bool), ansBet h o s = .tuple #[.int .i64 x, .int .i64 y, .bool ok] := if_form _ (lowV_form _ _) failV_form

set_option maxHeartbeats 1600000 in
theorem specPat_any (h o : Int) (s : ByteArray) (w : World) (hs : s.size ≤ maxLen) :
    Calls Tryd.prog 14 #[cn h o, .string s] w fun e w' => e = .returned (ansPat h o s) ∧ Below w.heap.size w w' := by
  have bx0 := Lib.hid (Box2.new w (.int .i64 h) (.int .i64 o) 27)
  have bl0 : Below w.heap.size w (w.alloc (.cells #[.int .i64 h, .int .i64 o] 27)) := bel_alloc (Below.refl _ _) _
  cases h1 : (coinG h o && patG s)
  · rw [show ansPat h o s = failV from by unfold ansPat; rw [h1]; rfl]
    unfold failV
    go_enter Tryd.func14, Tryd.ntmps14
    go_wp2_with fail
    refine (ptBoth_any h o s _ hs).mono ?_
    rintro e w1 ⟨rfl, hb1⟩
    rw [h1]
    have bx1 := Lib.hid (bx0.out.keep hb1)
    have bl1 := bel_trans bl0 hb1
    obtain ⟨c0_1, c1_1, hk1⟩ := bx1.out
    go_wp2_with fail
    go_ret3
    exact ⟨rfl, bl1⟩
  · rw [show ansPat h o s = lowV (prA h o s) (o ^ s.size) from by unfold ansPat; rw [h1]; rfl]
    unfold lowV
    obtain ⟨g1, g2, g3, g4⟩ := both_in h1
    obtain ⟨r1, r2, r3, r4⟩ := coin_in g1
    obtain ⟨p0, p1⟩ := prK_le8 g1 s s.size g3
    obtain ⟨q0, q1⟩ := pow_le8 o (by omega) r4 s.size g3
    change 1 ≤ prA h o s at p0
    change prA h o s ≤ _ at p1
    go_enter Tryd.func14, Tryd.ntmps14
    go_wp2_with fail
    refine (ptBoth_any h o s _ hs).mono ?_
    rintro e w1 ⟨rfl, hb1⟩
    rw [h1]
    have bx1 := Lib.hid (bx0.out.keep hb1)
    have bl1 := bel_trans bl0 hb1
    obtain ⟨c0_1, c1_1, hk1⟩ := bx1.out
    go_wp2_with fail
    refine (ptChance_any h o s _ g1 g4 g3).mono ?_
    rintro e w2 ⟨rfl, hb2⟩
    have bx2 := Lib.hid (bx1.out.keep hb2)
    have bl2 := bel_trans bl1 hb2
    obtain ⟨c0_2, c1_2, hk2⟩ := bx2.out
    go_wp2_with fail
    refine (cnLow_any (prA h o s) (o ^ s.size) _ (by omega) (by omega) (by omega) (by omega)).mono ?_
    rintro e w3 ⟨rfl, n3, rfl⟩
    go_wp2_with fail
    go_ret3
    exact ⟨rfl, bel_drewN bl2 n3⟩

set_option maxHeartbeats 1600000 in
theorem implPat_any (h o : Int) (s : ByteArray) (w : World) (hs : s.size ≤ maxLen) :
    Calls Tryd.prog 16 #[cn h o, .string s] w fun e w' => e = .returned (ansPat h o s) ∧ Below w.heap.size w w' := by
  have bx0 := Lib.hid (Box2.new w (.int .i64 h) (.int .i64 o) 27)
  have bl0 : Below w.heap.size w (w.alloc (.cells #[.int .i64 h, .int .i64 o] 27)) := bel_alloc (Below.refl _ _) _
  cases h1 : (coinG h o && patG s)
  · rw [show ansPat h o s = failV from by unfold ansPat; rw [h1]; rfl]
    unfold failV
    go_enter Tryd.func16, Tryd.ntmps16
    go_wp2_with fail
    refine (isTossed_any h o s _ hs).mono ?_
    rintro e w1 ⟨rfl, hb1⟩
    rw [h1]
    have bx1 := Lib.hid (bx0.out.keep hb1)
    have bl1 := bel_trans bl0 hb1
    obtain ⟨c0_1, c1_1, hk1⟩ := bx1.out
    go_wp2_with fail
    go_ret3
    exact ⟨rfl, bl1⟩
  · rw [show ansPat h o s = lowV (prA h o s) (o ^ s.size) from by unfold ansPat; rw [h1]; rfl]
    unfold lowV
    obtain ⟨g1, g2, g3, g4⟩ := both_in h1
    obtain ⟨r1, r2, r3, r4⟩ := coin_in g1
    obtain ⟨p0, p1⟩ := prK_le8 g1 s s.size g3
    obtain ⟨q0, q1⟩ := pow_le8 o (by omega) r4 s.size g3
    change 1 ≤ prA h o s at p0
    change prA h o s ≤ _ at p1
    go_enter Tryd.func16, Tryd.ntmps16
    go_wp2_with fail
    refine (isTossed_any h o s _ hs).mono ?_
    rintro e w1 ⟨rfl, hb1⟩
    rw [h1]
    have bx1 := Lib.hid (bx0.out.keep hb1)
    have bl1 := bel_trans bl0 hb1
    obtain ⟨c0_1, c1_1, hk1⟩ := bx1.out
    go_wp2_with fail
    go_region_held3 (fun w' => w'.cell? ⟨w.heap.size, 0, none⟩ = some (.int .i64 h) ∧ w'.cell? ⟨w.heap.size, 1, none⟩ = some (.int .i64 o) ∧ w.heap.size < w'.heap.size ∧ Below w.heap.size w w')
      (first | exact held2_start bx1.out bl1 | exact held2_keep (by assumption) hb3 | exact held2_drewN (by assumption) _ | assumption | go_keep)
      (first | (go_at_call 41; refine (part_any h o s _ g1 g3).mono ?_; rintro e w3 ⟨rfl, hb3⟩) | (go_at_call 42; refine (power_any o s.size _ (by omega) r4 (by omega)).mono ?_; rintro e w4 ⟨rfl, rfl⟩) | (go_at_call 40; refine (told_any (prA h o s) (o ^ s.size) _ (by omega) (by omega) (by omega) (by omega)).mono ?_; rintro e w5 ⟨rfl, n5, rfl⟩))
    all_goals
      obtain ⟨hbx9, hbl9⟩ := held2_below (by assumption)
      go_wp2
      go_ret3
      exact ⟨rfl, hbl9⟩

set_option maxHeartbeats 800000 in
theorem walkExactChanceOfPattern (h o : Int) (s : ByteArray) (w : World) (ha : (Lit.int .i64 h).wf = true) (hb : (Lit.int .i64 o).wf = true) (hs : s.size ≤ maxLen) :
    Calls Tryd.prog 4 #[cn h o, .string s] w fun e w' => e = .returned (.bool true) ∧ Below w.heap.size w w' := by
  clear ha hb
  by_cases zs : s.size ≤ 1048576
  · skip
    obtain ⟨x, y, ok, hv⟩ := ansPat_form h o s
    have Hv := Lib.hid hv
    clear hv
    have bx0 := Lib.hid (Box2.new w (.int .i64 h) (.int .i64 o) 24)
    have bl0 : Below w.heap.size w (w.alloc (.cells #[.int .i64 h, .int .i64 o] 24)) := bel_alloc (Below.refl _ _) _
    go_enter Tryd.func4, Tryd.ntmps4
    go_wp2_with fail
    refine (toCoin_any _ _ _).mono ?_
    rintro e w1 ⟨rfl, hb1⟩
    have bx1 := Lib.hid (bx0.out.keep hb1)
    have bl1 := bel_trans bl0 hb1
    obtain ⟨c0_1, c1_1, hk1⟩ := bx1.out
    go_wp2_with fail
    refine (specPat_any h o s _ hs).mono ?_
    rintro e w2 ⟨rfl, hb2⟩
    rw [Hv.out]
    have bx2 := Lib.hid (bx1.out.keep hb2)
    have bl2 := bel_trans bl1 hb2
    obtain ⟨c0_2, c1_2, hk2⟩ := bx2.out
    go_wp2_with fail
    refine (toCoin_any _ _ _).mono ?_
    rintro e w3 ⟨rfl, hb3⟩
    have bx3 := Lib.hid (bx2.out.keep hb3)
    have bl3 := bel_trans bl2 hb3
    obtain ⟨c0_3, c1_3, hk3⟩ := bx3.out
    go_wp2_with fail
    refine (implPat_any h o s _ hs).mono ?_
    rintro e w4 ⟨rfl, hb4⟩
    rw [Hv.out]
    have bx4 := Lib.hid (bx3.out.keep hb4)
    have bl4 := bel_trans bl3 hb4
    obtain ⟨c0_4, c1_4, hk4⟩ := bx4.out
    go_wp2_with fail
    go_ret
    exact ⟨rfl, bl4⟩
  · go_enter Tryd.func4, Tryd.ntmps4
    go_wp2
    go_ret
    exact ⟨rfl, bel_alloc (Below.refl _ _) _⟩

set_option maxHeartbeats 1600000 in
theorem specBet_any (h o : Int) (s : ByteArray) (w : World) (hs : s.size ≤ maxLen) :
    Calls Tryd.prog 24 #[cn h o, .string s] w fun e w' => e = .returned (ansBet h o s) ∧ Below w.heap.size w w' := by
  have bx0 := Lib.hid (Box2.new w (.int .i64 h) (.int .i64 o) 27)
  have bl0 : Below w.heap.size w (w.alloc (.cells #[.int .i64 h, .int .i64 o] 27)) := bel_alloc (Below.refl _ _) _
  cases h1 : (coinG h o && patG s)
  · rw [show ansBet h o s = failV from by unfold ansBet; rw [h1]; rfl]
    unfold failV
    go_enter Tryd.func24, Tryd.ntmps24
    go_wp2_with fail
    refine (ptBoth_any h o s _ hs).mono ?_
    rintro e w1 ⟨rfl, hb1⟩
    rw [h1]
    have bx1 := Lib.hid (bx0.out.keep hb1)
    have bl1 := bel_trans bl0 hb1
    obtain ⟨c0_1, c1_1, hk1⟩ := bx1.out
    go_wp2_with fail
    go_ret3
    exact ⟨rfl, bl1⟩
  · rw [show ansBet h o s = lowV (o ^ s.size) (prA h o s) from by unfold ansBet; rw [h1]; rfl]
    unfold lowV
    obtain ⟨g1, g2, g3, g4⟩ := both_in h1
    obtain ⟨r1, r2, r3, r4⟩ := coin_in g1
    obtain ⟨p0, p1⟩ := prK_le8 g1 s s.size g3
    obtain ⟨q0, q1⟩ := pow_le8 o (by omega) r4 s.size g3
    change 1 ≤ prA h o s at p0
    change prA h o s ≤ _ at p1
    go_enter Tryd.func24, Tryd.ntmps24
    go_wp2_with fail
    refine (ptBoth_any h o s _ hs).mono ?_
    rintro e w1 ⟨rfl, hb1⟩
    rw [h1]
    have bx1 := Lib.hid (bx0.out.keep hb1)
    have bl1 := bel_trans bl0 hb1
    obtain ⟨c0_1, c1_1, hk1⟩ := bx1.out
    go_wp2_with fail
    refine (ptChance_any h o s _ g1 g4 g3).mono ?_
    rintro e w2 ⟨rfl, hb2⟩
    have bx2 := Lib.hid (bx1.out.keep hb2)
    have bl2 := bel_trans bl1 hb2
    obtain ⟨c0_2, c1_2, hk2⟩ := bx2.out
    go_wp2_with fail
    refine (cnLow_any (o ^ s.size) (prA h o s) _ (by omega) (by omega) (by omega) (by omega)).mono ?_
    rintro e w3 ⟨rfl, n3, rfl⟩
    go_wp2_with fail
    go_ret3
    exact ⟨rfl, bel_drewN bl2 n3⟩

set_option maxHeartbeats 1600000 in
theorem implBet_any (h o : Int) (s : ByteArray) (w : World) (hs : s.size ≤ maxLen) :
    Calls Tryd.prog 25 #[cn h o, .string s] w fun e w' => e = .returned (ansBet h o s) ∧ Below w.heap.size w w' := by
  have bx0 := Lib.hid (Box2.new w (.int .i64 h) (.int .i64 o) 27)
  have bl0 : Below w.heap.size w (w.alloc (.cells #[.int .i64 h, .int .i64 o] 27)) := bel_alloc (Below.refl _ _) _
  cases h1 : (coinG h o && patG s)
  · rw [show ansBet h o s = failV from by unfold ansBet; rw [h1]; rfl]
    unfold failV
    go_enter Tryd.func25, Tryd.ntmps25
    go_wp2_with fail
    refine (isTossed_any h o s _ hs).mono ?_
    rintro e w1 ⟨rfl, hb1⟩
    rw [h1]
    have bx1 := Lib.hid (bx0.out.keep hb1)
    have bl1 := bel_trans bl0 hb1
    obtain ⟨c0_1, c1_1, hk1⟩ := bx1.out
    go_wp2_with fail
    go_ret3
    exact ⟨rfl, bl1⟩
  · rw [show ansBet h o s = lowV (o ^ s.size) (prA h o s) from by unfold ansBet; rw [h1]; rfl]
    unfold lowV
    obtain ⟨g1, g2, g3, g4⟩ := both_in h1
    obtain ⟨r1, r2, r3, r4⟩ := coin_in g1
    obtain ⟨p0, p1⟩ := prK_le8 g1 s s.size g3
    obtain ⟨q0, q1⟩ := pow_le8 o (by omega) r4 s.size g3
    change 1 ≤ prA h o s at p0
    change prA h o s ≤ _ at p1
    go_enter Tryd.func25, Tryd.ntmps25
    go_wp2_with fail
    refine (isTossed_any h o s _ hs).mono ?_
    rintro e w1 ⟨rfl, hb1⟩
    rw [h1]
    have bx1 := Lib.hid (bx0.out.keep hb1)
    have bl1 := bel_trans bl0 hb1
    obtain ⟨c0_1, c1_1, hk1⟩ := bx1.out
    go_wp2_with fail
    go_region_held3 (fun w' => w'.cell? ⟨w.heap.size, 0, none⟩ = some (.int .i64 h) ∧ w'.cell? ⟨w.heap.size, 1, none⟩ = some (.int .i64 o) ∧ w.heap.size < w'.heap.size ∧ Below w.heap.size w w')
      (first | exact held2_start bx1.out bl1 | exact held2_keep (by assumption) hb3 | exact held2_drewN (by assumption) _ | assumption | go_keep)
      (first | (go_at_call 41; refine (part_any h o s _ g1 g3).mono ?_; rintro e w3 ⟨rfl, hb3⟩) | (go_at_call 42; refine (power_any o s.size _ (by omega) r4 (by omega)).mono ?_; rintro e w4 ⟨rfl, rfl⟩) | (go_at_call 40; refine (told_any (o ^ s.size) (prA h o s) _ (by omega) (by omega) (by omega) (by omega)).mono ?_; rintro e w5 ⟨rfl, n5, rfl⟩))
    all_goals
      obtain ⟨hbx9, hbl9⟩ := held2_below (by assumption)
      go_wp2
      go_ret3
      exact ⟨rfl, hbl9⟩

set_option maxHeartbeats 800000 in
theorem walkExactMeanBetween (h o : Int) (s : ByteArray) (w : World) (ha : (Lit.int .i64 h).wf = true) (hb : (Lit.int .i64 o).wf = true) (hs : s.size ≤ maxLen) :
    Calls Tryd.prog 7 #[cn h o, .string s] w fun e w' => e = .returned (.bool true) ∧ Below w.heap.size w w' := by
  clear ha hb
  by_cases zs : s.size ≤ 1048576
  · skip
    obtain ⟨x, y, ok, hv⟩ := ansBet_form h o s
    have Hv := Lib.hid hv
    clear hv
    have bx0 := Lib.hid (Box2.new w (.int .i64 h) (.int .i64 o) 24)
    have bl0 : Below w.heap.size w (w.alloc (.cells #[.int .i64 h, .int .i64 o] 24)) := bel_alloc (Below.refl _ _) _
    go_enter Tryd.func7, Tryd.ntmps7
    go_wp2_with fail
    refine (toCoin_any _ _ _).mono ?_
    rintro e w1 ⟨rfl, hb1⟩
    have bx1 := Lib.hid (bx0.out.keep hb1)
    have bl1 := bel_trans bl0 hb1
    obtain ⟨c0_1, c1_1, hk1⟩ := bx1.out
    go_wp2_with fail
    refine (specBet_any h o s _ hs).mono ?_
    rintro e w2 ⟨rfl, hb2⟩
    rw [Hv.out]
    have bx2 := Lib.hid (bx1.out.keep hb2)
    have bl2 := bel_trans bl1 hb2
    obtain ⟨c0_2, c1_2, hk2⟩ := bx2.out
    go_wp2_with fail
    refine (toCoin_any _ _ _).mono ?_
    rintro e w3 ⟨rfl, hb3⟩
    have bx3 := Lib.hid (bx2.out.keep hb3)
    have bl3 := bel_trans bl2 hb3
    obtain ⟨c0_3, c1_3, hk3⟩ := bx3.out
    go_wp2_with fail
    refine (implBet_any h o s _ hs).mono ?_
    rintro e w4 ⟨rfl, hb4⟩
    rw [Hv.out]
    have bx4 := Lib.hid (bx3.out.keep hb4)
    have bl4 := bel_trans bl3 hb4
    obtain ⟨c0_4, c1_4, hk4⟩ := bx4.out
    go_wp2_with fail
    go_ret
    exact ⟨rfl, bl4⟩
  · go_enter Tryd.func7, Tryd.ntmps7
    go_wp2
    go_ret
    exact ⟨rfl, bel_alloc (Below.refl _ _) _⟩

end Go.Proofs.YtjckmnbpfmcadaaDoor
