/- The walks of laws over puzzles. -/
import Derived.Test.YtcfafgdgmkiibaaDoorPtzI
namespace Go.Proofs.YtcfafgdgmkiibaaDoor
set_option linter.unusedSimpArgs false
open Go.ChangeShapes Go.WideShapes Go.ChangeAt Go.RowKit
set_option linter.unusedVariables false

set_option maxRecDepth 100000 in
set_option maxHeartbeats 6400000 in
theorem walkExactPuzzleText (oo : Int) (m : List Tri) (v : Value) (w : World) (wo : (Lit.int .i64 oo).wf = true) (h : RdT w w.heap.size v m) (hT : PT w) :
    Calls Tryd.prog 4 #[pz oo v] w fun e w' => e = .returned (.bool true) ∧ Below w.heap.size w w' := by
  obtain ⟨A0, cap0, rfl, l0, m0⟩ := h.form
  clear l0 m0 wo
  have rd_0 := Lib.hid (show RdTS w (.slice A0 m.length cap0) m from h)
  clear h
  by_cases z : m.length ≤ 1048576
  · skip
    obtain ⟨x, k, hv⟩ := ansPT_form oo m
    have Hv := Lib.hid hv
    clear hv
    have HT := Lib.hid hT
    clear hT
    have hb_1 := bel_alloc (Below.refl _ w) (.cells #[.int .i64 oo, .slice A0 m.length cap0] 48)
    have bl_1 := bel_trans (Below.refl _ w) hb_1
    have rd_1 := Lib.hid (rd_0.out.belowS hb_1)
    have bx_1 := Lib.hid (Box2.new w (.int .i64 oo) (.slice A0 m.length cap0) 48)
    go_enter Tryd.func4, Tryd.ntmps4
    go_wp2_with fail
    refine (szPz_yes oo m _ _ rd_1.out z).mono ?_
    rintro e v2 ⟨rfl, hb_2⟩
    have bl_2 := bel_trans bl_1 hb_2
    have bx_2 := Lib.hid (bx_1.out.keep hb_2)
    have rd_2 := Lib.hid (rd_1.out.belowS hb_2)
    obtain ⟨bx_2_0, bx_2_1, bx_2_2⟩ := bx_2.out
    have hz : 0 ≤ 1048576 - (m.length : Int) := by omega
    generalize 1048576 - (m.length : Int) = left at *
    go_wp2_with fail
    refine (toPz_any oo m _ _ rd_2.out z).mono ?_
    rintro e v3 ⟨u1, rfl, o1, hb_3⟩
    have bl_3 := bel_trans bl_2 hb_3
    have bx_3 := Lib.hid (bx_2.out.keep hb_3)
    have rd_3 := Lib.hid (rd_2.out.belowS hb_3)
    obtain ⟨A1, cap1, rfl, _⟩ := o1.formS
    have rx1_3 := Lib.hid ((show RdTS v3 _ m from o1.rd))
    clear o1
    obtain ⟨bx_3_0, bx_3_1, bx_3_2⟩ := bx_3.out
    go_wp2_with fail
    refine (specPT_any oo m _ _ _ rx1_3.out (Nat.le_refl _)).mono ?_
    rw [Hv.out]
    rintro e v4 ⟨rfl, hb_4⟩
    have bl_4 := bel_trans bl_3 hb_4
    have bx_4 := Lib.hid (bx_3.out.keep hb_4)
    have rd_4 := Lib.hid (rd_3.out.belowS hb_4)
    have rx1_4 := Lib.hid (rx1_3.out.belowS hb_4)
    obtain ⟨bx_4_0, bx_4_1, bx_4_2⟩ := bx_4.out
    go_wp2_with fail
    refine (toPz_any oo m _ _ rd_4.out z).mono ?_
    rintro e v5 ⟨u2, rfl, o2, hb_5⟩
    have bl_5 := bel_trans bl_4 hb_5
    have bx_5 := Lib.hid (bx_4.out.keep hb_5)
    have rd_5 := Lib.hid (rd_4.out.belowS hb_5)
    obtain ⟨A2, cap2, rfl, _⟩ := o2.formS
    have rx2_5 := Lib.hid ((show RdTS v5 _ m from o2.rd))
    clear o2
    have hb_6 := bel_alloc (Below.refl _ v5) (.cells #[.int .i64 oo, .slice A2 m.length cap2] 53)
    have bl_6 := bel_trans bl_5 hb_6
    have bx_6 := Lib.hid (bx_5.out.keep hb_6)
    have rd_6 := Lib.hid (rd_5.out.belowS hb_6)
    have rx2_6 := Lib.hid (rx2_5.out.belowS hb_6)
    have by_6 := Lib.hid (Box2.new v5 (.int .i64 oo) (.slice A2 m.length cap2) 53)
    obtain ⟨bx_6_0, bx_6_1, bx_6_2⟩ := bx_6.out
    go_wp2_with fail
    refine (implPT_any oo m _ _ _ rx2_6.out (Nat.le_refl _) (HT.out.keep bl_6)).mono ?_
    rw [Hv.out]
    rintro e v7 ⟨rfl, hb_7⟩
    have bl_7 := bel_trans bl_6 hb_7
    have bx_7 := Lib.hid (bx_6.out.keep hb_7)
    have by_7 := Lib.hid (by_6.out.keep hb_7)
    have rd_7 := Lib.hid (rd_6.out.belowS hb_7)
    have rx2_7 := Lib.hid (rx2_6.out.belowS hb_7)
    obtain ⟨bx_7_0, bx_7_1, bx_7_2⟩ := bx_7.out
    obtain ⟨by_7_0, by_7_1, by_7_2⟩ := by_7.out
    have hx0 := rx2_7
    have hr0 := rd_7
    go_wp2_with fail
    go_region_held3 (fun w' => w'.cell? ⟨w.heap.size, 0, none⟩ = some (.int .i64 oo) ∧ w'.cell? ⟨w.heap.size, 1, none⟩ = some (.slice A0 m.length cap0) ∧ w.heap.size < w'.heap.size ∧ w'.cell? ⟨v5.heap.size, 0, none⟩ = some (.int .i64 oo) ∧ w'.cell? ⟨v5.heap.size, 1, none⟩ = some (.slice A2 m.length cap2) ∧ v5.heap.size < w'.heap.size ∧ Below v7.heap.size v7 w')
      (first | exact held22_start bx_7.out by_7.out | exact held22_keep (by assumption) hbq | exact held22_keep (by assumption) hbr | assumption | go_keep)
      (first | (go_at_call 34; refine (toPz_any oo m _ _ (hr0.out.belowS (held22_below (by assumption))) z).mono ?_; rintro e w8 ⟨u8, rfl, o8, hbq⟩) | (go_at_call 36; refine (eqPuzzle_same oo m _ _ _ _ _ (hx0.out.belowS (held22_below (by assumption))) o8.rd (Nat.le_refl _) (Nat.le_refl _)).mono ?_; rintro e w9 ⟨rfl, hbr⟩))
    all_goals
      have hend := bel_trans bl_7 (held22_below (by assumption))
      go_wp2
      go_ret
      exact ⟨rfl, hend⟩
  · go_enter Tryd.func4, Tryd.ntmps4
    go_wp2_with fail
    refine (szPz_no oo m _ _ (rd_0.out.belowS (by repeat (first | assumption | with_reducible exact Below.refl _ _ | refine bel_alloc ?_ _ | refine bel_drewN ?_ _ | refine Below.drew ?_ | (refine Below.setCell ?_ (by simp) _) | (refine bel_trans ?_ (by assumption))))) z).mono ?_
    rintro e w2 ⟨rfl, b2⟩
    go_wp2
    go_ret
    exact ⟨rfl, bel_trans (by repeat (first | assumption | with_reducible exact Below.refl _ _ | refine bel_alloc ?_ _ | refine bel_drewN ?_ _ | refine Below.drew ?_ | (refine Below.setCell ?_ (by simp) _) | (refine bel_trans ?_ (by assumption)))) b2⟩

end Go.Proofs.YtcfafgdgmkiibaaDoor
