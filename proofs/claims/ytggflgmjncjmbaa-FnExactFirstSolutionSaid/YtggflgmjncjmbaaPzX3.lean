/- The walks of laws over puzzles. -/
import Derived.Test.YtggflgmjncjmbaaPzH
import Derived.Test.YtggflgmjncjmbaaPzR
namespace Go.Proofs.Ytggflgmjncjmbaa
set_option linter.unusedSimpArgs false
open Go.ChangeShapes Go.WideShapes Go.ChangeAt Go.RowKit
set_option linter.unusedVariables false

set_option maxRecDepth 100000 in
set_option maxHeartbeats 6400000 in
theorem walkExactFirstSolution (oo : Int) (m : List Tri) (v : Value) (w : World) (wo : (Lit.int .i64 oo).wf = true) (h : RdT w w.heap.size v m) :
    Calls Try.prog 7 #[pz oo v] w fun e w' => e = .returned (.bool true) ∧ Below w.heap.size w w' := by
  obtain ⟨A0, cap0, rfl, l0, m0⟩ := h.form
  clear l0 m0 wo
  have rd_0 := Lib.hid (show RdTS w (.slice A0 m.length cap0) m from h)
  clear h
  by_cases z : m.length ≤ 1048576
  · skip
    obtain ⟨x, y, t, k, hv⟩ := ansFst_form oo m
    have Hv := Lib.hid hv
    clear hv
    have hb_1 := bel_alloc (Below.refl _ w) (.cells #[.int .i64 oo, .slice A0 m.length cap0] 24)
    have bl_1 := bel_trans (Below.refl _ w) hb_1
    have rd_1 := Lib.hid (rd_0.out.belowS hb_1)
    have bx_1 := Lib.hid (Box2.new w (.int .i64 oo) (.slice A0 m.length cap0) 24)
    go_enter Try.func7, Try.ntmps7
    go_wp2_with fail
    refine (szPz_yes oo m _ _ rd_1.out z).mono ?_
    rintro e v2 ⟨rfl, hb_2⟩
    have bl_2 := bel_trans bl_1 hb_2
    have bx_2 := Lib.hid (bx_1.out.keep hb_2)
    have rd_2 := Lib.hid (rd_1.out.belowS hb_2)
    obtain ⟨bx_2_0, bx_2_1, bx_2_2⟩ := bx_2.out
    have hz : 0 ≤ 1048576 - (m.length : Int) := by omega
    generalize 1048576 - (m.length : Int) = left at *
    go_wp2_with fail
    refine (toPz_any oo m _ _ rd_2.out z).mono ?_
    rintro e v3 ⟨u1, rfl, o1, hb_3⟩
    have bl_3 := bel_trans bl_2 hb_3
    have bx_3 := Lib.hid (bx_2.out.keep hb_3)
    have rd_3 := Lib.hid (rd_2.out.belowS hb_3)
    obtain ⟨A1, cap1, rfl, _⟩ := o1.formS
    have rx1_3 := Lib.hid ((show RdTS v3 _ m from o1.rd))
    clear o1
    obtain ⟨bx_3_0, bx_3_1, bx_3_2⟩ := bx_3.out
    go_wp2_with fail
    refine (specFst_any oo m _ _ _ rx1_3.out (Nat.le_refl _)).mono ?_
    rw [Hv.out]
    rintro e v4 ⟨rfl, hb_4⟩
    have bl_4 := bel_trans bl_3 hb_4
    have bx_4 := Lib.hid (bx_3.out.keep hb_4)
    have rd_4 := Lib.hid (rd_3.out.belowS hb_4)
    have rx1_4 := Lib.hid (rx1_3.out.belowS hb_4)
    obtain ⟨bx_4_0, bx_4_1, bx_4_2⟩ := bx_4.out
    have hb_5 := bel_alloc (Below.refl _ v4) (.cells #[.int .i64 x, .int .i64 y, .int .i64 t] 41)
    have bl_5 := bel_trans bl_4 hb_5
    have bx_5 := Lib.hid (bx_4.out.keep hb_5)
    have rd_5 := Lib.hid (rd_4.out.belowS hb_5)
    have bc_5 := Lib.hid (Box3.new v4 (.int .i64 x) (.int .i64 y) (.int .i64 t) 41)
    obtain ⟨bx_5_0, bx_5_1, bx_5_2⟩ := bx_5.out
    go_wp2_with fail
    refine (toPz_any oo m _ _ rd_5.out z).mono ?_
    rintro e v6 ⟨u2, rfl, o2, hb_6⟩
    have bl_6 := bel_trans bl_5 hb_6
    have bx_6 := Lib.hid (bx_5.out.keep hb_6)
    have bc_6 := Lib.hid (bc_5.out.keep hb_6)
    have rd_6 := Lib.hid (rd_5.out.belowS hb_6)
    obtain ⟨A2, cap2, rfl, _⟩ := o2.formS
    have rx2_6 := Lib.hid ((show RdTS v6 _ m from o2.rd))
    clear o2
    have hb_7 := bel_alloc (Below.refl _ v6) (.cells #[.int .i64 oo, .slice A2 m.length cap2] 29)
    have bl_7 := bel_trans bl_6 hb_7
    have bx_7 := Lib.hid (bx_6.out.keep hb_7)
    have bc_7 := Lib.hid (bc_6.out.keep hb_7)
    have rd_7 := Lib.hid (rd_6.out.belowS hb_7)
    have rx2_7 := Lib.hid (rx2_6.out.belowS hb_7)
    have by_7 := Lib.hid (Box2.new v6 (.int .i64 oo) (.slice A2 m.length cap2) 29)
    obtain ⟨bx_7_0, bx_7_1, bx_7_2⟩ := bx_7.out
    go_wp2_with fail
    refine (implFst_any oo m _ _ _ rx2_7.out (Nat.le_refl _)).mono ?_
    rw [Hv.out]
    rintro e v8 ⟨rfl, hb_8⟩
    have bl_8 := bel_trans bl_7 hb_8
    have bx_8 := Lib.hid (bx_7.out.keep hb_8)
    have bc_8 := Lib.hid (bc_7.out.keep hb_8)
    have by_8 := Lib.hid (by_7.out.keep hb_8)
    have rd_8 := Lib.hid (rd_7.out.belowS hb_8)
    have rx2_8 := Lib.hid (rx2_7.out.belowS hb_8)
    obtain ⟨bx_8_0, bx_8_1, bx_8_2⟩ := bx_8.out
    obtain ⟨by_8_0, by_8_1, by_8_2⟩ := by_8.out
    have hb_9 := bel_alloc (Below.refl _ v8) (.cells #[.int .i64 x, .int .i64 y, .int .i64 t] 41)
    have bl_9 := bel_trans bl_8 hb_9
    have bx_9 := Lib.hid (bx_8.out.keep hb_9)
    have bc_9 := Lib.hid (bc_8.out.keep hb_9)
    have by_9 := Lib.hid (by_8.out.keep hb_9)
    have rd_9 := Lib.hid (rd_8.out.belowS hb_9)
    have rx2_9 := Lib.hid (rx2_8.out.belowS hb_9)
    have bd_9 := Lib.hid (Box3.new v8 (.int .i64 x) (.int .i64 y) (.int .i64 t) 41)
    obtain ⟨bx_9_0, bx_9_1, bx_9_2⟩ := bx_9.out
    obtain ⟨by_9_0, by_9_1, by_9_2⟩ := by_9.out
    obtain ⟨bc_9_0, bc_9_1, bc_9_2, bc_9_3⟩ := bc_9.out
    obtain ⟨bd_9_0, bd_9_1, bd_9_2, bd_9_3⟩ := bd_9.out
    go_wp2_with fail
    refine (eqChain_same x y t _).mono ?_
    rintro e v10 ⟨rfl, hb_10⟩
    have bl_10 := bel_trans bl_9 hb_10
    have bx_10 := Lib.hid (bx_9.out.keep hb_10)
    have bc_10 := Lib.hid (bc_9.out.keep hb_10)
    have by_10 := Lib.hid (by_9.out.keep hb_10)
    have bd_10 := Lib.hid (bd_9.out.keep hb_10)
    have rd_10 := Lib.hid (rd_9.out.belowS hb_10)
    have rx2_10 := Lib.hid (rx2_9.out.belowS hb_10)
    obtain ⟨bx_10_0, bx_10_1, bx_10_2⟩ := bx_10.out
    obtain ⟨by_10_0, by_10_1, by_10_2⟩ := by_10.out
    have hx0 := rx2_10
    have hr0 := rd_10
    go_wp2_with fail
    go_region_held3 (fun w' => w'.cell? ⟨w.heap.size, 0, none⟩ = some (.int .i64 oo) ∧ w'.cell? ⟨w.heap.size, 1, none⟩ = some (.slice A0 m.length cap0) ∧ w.heap.size < w'.heap.size ∧ w'.cell? ⟨v6.heap.size, 0, none⟩ = some (.int .i64 oo) ∧ w'.cell? ⟨v6.heap.size, 1, none⟩ = some (.slice A2 m.length cap2) ∧ v6.heap.size < w'.heap.size ∧ Below v10.heap.size v10 w')
      (first | exact held22_start bx_10.out by_10.out | exact held22_keep (by assumption) hbq | exact held22_keep (by assumption) hbr | assumption | go_keep)
      (first | (go_at_call 19; refine (toPz_any oo m _ _ (hr0.out.belowS (held22_below (by assumption))) z).mono ?_; rintro e w8 ⟨u8, rfl, o8, hbq⟩) | (go_at_call 21; refine (eqPuzzle_same oo m _ _ _ _ _ (hx0.out.belowS (held22_below (by assumption))) o8.rd (Nat.le_refl _) (Nat.le_refl _)).mono ?_; rintro e w9 ⟨rfl, hbr⟩))
    all_goals
      have hend := bel_trans bl_10 (held22_below (by assumption))
      go_wp2
      go_ret
      exact ⟨rfl, hend⟩
  · go_enter Try.func7, Try.ntmps7
    go_wp2_with fail
    refine (szPz_no oo m _ _ (rd_0.out.belowS (by repeat (first | assumption | with_reducible exact Below.refl _ _ | refine bel_alloc ?_ _ | refine bel_drewN ?_ _ | refine Below.drew ?_ | (refine Below.setCell ?_ (by simp) _) | (refine bel_trans ?_ (by assumption))))) z).mono ?_
    rintro e w2 ⟨rfl, b2⟩
    go_wp2
    go_ret
    exact ⟨rfl, bel_trans (by repeat (first | assumption | with_reducible exact Below.refl _ _ | refine bel_alloc ?_ _ | refine bel_drewN ?_ _ | refine Below.drew ?_ | (refine Below.setCell ?_ (by simp) _) | (refine bel_trans ?_ (by assumption)))) b2⟩

end Go.Proofs.Ytggflgmjncjmbaa
