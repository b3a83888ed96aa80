/- The walks of laws over puzzles. -/
import Derived.Test.YtggflgmjncjmbaaPzC
namespace Go.Proofs.Ytggflgmjncjmbaa
set_option linter.unusedSimpArgs false
open Go.ChangeShapes Go.WideShapes Go.ChangeAt Go.RowKit
set_option linter.unusedVariables false

set_option maxRecDepth 100000 in
set_option maxHeartbeats 12800000 in
theorem walkExactHarderPuzzle (oo : Int) (m : List Tri) (v : Value) (w : World) (wo : (Lit.int .i64 oo).wf = true) (h : RdT w w.heap.size v m) :
    Calls Try.prog 15 #[pz oo v] w fun e w' => e = .returned (.bool true) ∧ Below w.heap.size w w' := by
  obtain ⟨A0, cap0, rfl, l0, m0⟩ := h.form
  clear l0 m0 wo
  have rd_0 := Lib.hid (show RdTS w (.slice A0 m.length cap0) m from h)
  clear h
  by_cases z : m.length ≤ 1048576
  · skip
    have hlen : (hrL oo m).length ≤ 1000 := hrL_len oo m
    generalize hxs : hrL oo m = xs at *
    have Hxs := Lib.hid hxs
    clear hxs
    generalize hro : hrO oo m = ro at *
    have Hro := Lib.hid hro
    clear hro
    generalize hok : hrG oo m = ok at *
    have Hok := Lib.hid hok
    clear hok
    have hb_1 := bel_alloc (Below.refl _ w) (.cells #[.int .i64 oo, .slice A0 m.length cap0] 24)
    have bl_1 := bel_trans (Below.refl _ w) hb_1
    have rd_1 := Lib.hid (rd_0.out.belowS hb_1)
    have sz_1 := Lib.hid (hb_1).size
    have bx_1 := Lib.hid (Box2.new w (.int .i64 oo) (.slice A0 m.length cap0) 24)
    have se_1 := Lib.hid (size1 w (.cells #[.int .i64 oo, .slice A0 m.length cap0] 24))
    go_enter Try.func15, Try.ntmps15
    go_wp2_with fail
    refine (szPz_yes oo m _ _ rd_1.out z).mono ?_
    rintro e v2 ⟨rfl, hb_2⟩
    have bl_2 := bel_trans bl_1 hb_2
    have bx_2 := Lib.hid (bx_1.out.keep hb_2)
    have rd_2 := Lib.hid (rd_1.out.belowS hb_2)
    have sz_2 := Lib.hid (hb_2).size
    obtain ⟨bx_2_0, bx_2_1, bx_2_2⟩ := bx_2.out
    have hz : 0 ≤ 1048576 - (m.length : Int) := by omega
    generalize 1048576 - (m.length : Int) = left at *
    go_wp2_with fail
    refine (toPz_any oo m _ _ rd_2.out z).mono ?_
    rintro e v3 ⟨u1, rfl, o1, hb_3⟩
    have bl_3 := bel_trans bl_2 hb_3
    have bx_3 := Lib.hid (bx_2.out.keep hb_3)
    have rd_3 := Lib.hid (rd_2.out.belowS hb_3)
    have sz_3 := Lib.hid (hb_3).size
    obtain ⟨A1, cap1, rfl, _⟩ := o1.formS
    have rx1_3 := Lib.hid ((show RdTS v3 _ m from o1.rd))
    clear o1
    obtain ⟨bx_3_0, bx_3_1, bx_3_2⟩ := bx_3.out
    go_wp2_with fail
    refine (specHard_any oo m _ _ _ rx1_3.out (Nat.le_refl _)).mono ?_
    rw [Hxs.out, Hro.out, Hok.out]
    rintro e v4 ⟨u0, rfl, r00, hb_4⟩
    have bl_4 := bel_trans bl_3 hb_4
    have bx_4 := Lib.hid (bx_3.out.keep hb_4)
    have rd_4 := Lib.hid (rd_3.out.belowS hb_4)
    have rx1_4 := Lib.hid (rx1_3.out.belowS hb_4)
    have sz_4 := Lib.hid (hb_4).size
    have r0_4 := Lib.hid (r00)
    obtain ⟨Au0, capu0, rfl, _⟩ := r00.formS
    have R0lt := Lib.hid (fun k hk => World.ownsRow.lt r00 k hk)
    clear r00
    obtain ⟨bx_4_0, bx_4_1, bx_4_2⟩ := bx_4.out
    have hb_5 := bel_alloc (Below.refl _ v4) (.cells #[.int .i64 ro, .slice Au0 xs.length capu0] 29)
    have bl_5 := bel_trans bl_4 hb_5
    have bx_5 := Lib.hid (bx_4.out.keep hb_5)
    have rd_5 := Lib.hid (rd_4.out.belowS hb_5)
    have r0_5 := Lib.hid (r0_4.out.belowS hb_5)
    have sz_5 := Lib.hid (hb_5).size
    have bw_5 := Lib.hid (Box2.new v4 (.int .i64 ro) (.slice Au0 xs.length capu0) 29)
    have se_5 := Lib.hid (size1 v4 (.cells #[.int .i64 ro, .slice Au0 xs.length capu0] 29))
    obtain ⟨bx_5_0, bx_5_1, bx_5_2⟩ := bx_5.out
    go_wp2_with fail
    refine (toPz_any oo m _ _ rd_5.out z).mono ?_
    rintro e v6 ⟨u2, rfl, o2, hb_6⟩
    have bl_6 := bel_trans bl_5 hb_6
    have bx_6 := Lib.hid (bx_5.out.keep hb_6)
    have bw_6 := Lib.hid (bw_5.out.keep hb_6)
    have rd_6 := Lib.hid (rd_5.out.belowS hb_6)
    have r0_6 := Lib.hid (r0_5.out.belowS hb_6)
    have sz_6 := Lib.hid (hb_6).size
    obtain ⟨A2, cap2, rfl, _⟩ := o2.formS
    have rx2_6 := Lib.hid ((show RdTS v6 _ m from o2.rd))
    have ow_6 := Lib.hid (o2)
    have OWlt := Lib.hid (fun k hk => World.ownsRow.lt o2 k hk)
    clear o2
    have hb_7 := bel_alloc (Below.refl _ v6) (.cells #[.int .i64 oo, .slice A2 m.length cap2] 29)
    have bl_7 := bel_trans bl_6 hb_7
    have bx_7 := Lib.hid (bx_6.out.keep hb_7)
    have bw_7 := Lib.hid (bw_6.out.keep hb_7)
    have rd_7 := Lib.hid (rd_6.out.belowS hb_7)
    have r0_7 := Lib.hid (r0_6.out.belowS hb_7)
    have rx2_7 := Lib.hid (rx2_6.out.belowS hb_7)
    have ow_7 := Lib.hid (ow_6.out.belowS hb_7)
    have sz_7 := Lib.hid (hb_7).size
    have by_7 := Lib.hid (Box2.new v6 (.int .i64 oo) (.slice A2 m.length cap2) 29)
    have se_7 := Lib.hid (size1 v6 (.cells #[.int .i64 oo, .slice A2 m.length cap2] 29))
    obtain ⟨bx_7_0, bx_7_1, bx_7_2⟩ := bx_7.out
    go_wp2_with fail
    refine (implHard_any oo m _ _ _ rx2_7.out (Nat.le_refl _)).mono ?_
    rw [Hxs.out, Hro.out, Hok.out]
    rintro e v8 ⟨g0, rfl, r10, hb_8⟩
    have bl_8 := bel_trans bl_7 hb_8
    have bx_8 := Lib.hid (bx_7.out.keep hb_8)
    have bw_8 := Lib.hid (bw_7.out.keep hb_8)
    have by_8 := Lib.hid (by_7.out.keep hb_8)
    have rd_8 := Lib.hid (rd_7.out.belowS hb_8)
    have r0_8 := Lib.hid (r0_7.out.belowS hb_8)
    have rx2_8 := Lib.hid (rx2_7.out.belowS hb_8)
    have ow_8 := Lib.hid (ow_7.out.belowS hb_8)
    have sz_8 := Lib.hid (hb_8).size
    have r1_8 := Lib.hid (r10)
    obtain ⟨Ag0, capg0, rfl, _⟩ := r10.formS
    have R1lt := Lib.hid (fun k hk => World.ownsRow.lt r10 k hk)
    clear r10
    obtain ⟨bx_8_0, bx_8_1, bx_8_2⟩ := bx_8.out
    obtain ⟨by_8_0, by_8_1, by_8_2⟩ := by_8.out
    have hb_9 := bel_alloc (Below.refl _ v8) (.cells #[.int .i64 ro, .slice Ag0 xs.length capg0] 29)
    have bl_9 := bel_trans bl_8 hb_9
    have bx_9 := Lib.hid (bx_8.out.keep hb_9)
    have bw_9 := Lib.hid (bw_8.out.keep hb_9)
    have by_9 := Lib.hid (by_8.out.keep hb_9)
    have rd_9 := Lib.hid (rd_8.out.belowS hb_9)
    have r0_9 := Lib.hid (r0_8.out.belowS hb_9)
    have rx2_9 := Lib.hid (rx2_8.out.belowS hb_9)
    have ow_9 := Lib.hid (ow_8.out.belowS hb_9)
    have r1_9 := Lib.hid (r1_8.out.belowS hb_9)
    have sz_9 := Lib.hid (hb_9).size
    have bg_9 := Lib.hid (Box2.new v8 (.int .i64 ro) (.slice Ag0 xs.length capg0) 29)
    have se_9 := Lib.hid (size1 v8 (.cells #[.int .i64 ro, .slice Ag0 xs.length capg0] 29))
    obtain ⟨bw_9_0, bw_9_1, bw_9_2⟩ := bw_9.out
    obtain ⟨bg_9_0, bg_9_1, bg_9_2⟩ := bg_9.out
    go_wp2_with fail
    refine (eqPuzzle_same ro xs (.slice Ag0 xs.length capg0) (.slice Au0 xs.length capu0) _ _ _ (r1_9.out.rd) (r0_9.out.rd) (Nat.le_refl _) (Nat.le_refl _)).mono ?_
    rintro e q1 ⟨rfl, hq_1⟩
    have bl_10 := bel_trans bl_9 hq_1
    have bx_10 := Lib.hid (bx_9.out.keep hq_1)
    have bw_10 := Lib.hid (bw_9.out.keep hq_1)
    have by_10 := Lib.hid (by_9.out.keep hq_1)
    have bg_10 := Lib.hid (bg_9.out.keep hq_1)
    have rd_10 := Lib.hid (rd_9.out.belowS hq_1)
    have r0_10 := Lib.hid (r0_9.out.belowS hq_1)
    have rx2_10 := Lib.hid (rx2_9.out.belowS hq_1)
    have ow_10 := Lib.hid (ow_9.out.belowS hq_1)
    have r1_10 := Lib.hid (r1_9.out.belowS hq_1)
    have sz_10 := Lib.hid (hq_1).size
    obtain ⟨bx_10_0, bx_10_1, bx_10_2⟩ := bx_10.out
    obtain ⟨by_10_0, by_10_1, by_10_2⟩ := by_10.out
    have hx0 := rx2_10
    have hr0 := rd_10
    go_wp2_with fail
    go_region_held3 (fun w' => w'.cell? ⟨w.heap.size, 0, none⟩ = some (.int .i64 oo) ∧ w'.cell? ⟨w.heap.size, 1, none⟩ = some (.slice A0 m.length cap0) ∧ w.heap.size < w'.heap.size ∧ w'.cell? ⟨v6.heap.size, 0, none⟩ = some (.int .i64 oo) ∧ w'.cell? ⟨v6.heap.size, 1, none⟩ = some (.slice A2 m.length cap2) ∧ v6.heap.size < w'.heap.size ∧ Below q1.heap.size q1 w')
      (first | exact held22_start bx_10.out by_10.out | exact held22_keep (by assumption) hbq | exact held22_keep (by assumption) hbr | assumption | go_keep)
      (first | (go_at_call 19; refine (toPz_any oo m _ _ (hr0.out.belowS (held22_below (by assumption))) z).mono ?_; rintro e wr8 ⟨ur8, rfl, or8, hbq⟩) | (go_at_call 21; refine (eqPuzzle_same oo m _ _ _ _ _ (hx0.out.belowS (held22_below (by assumption))) or8.rd (Nat.le_refl _) (Nat.le_refl _)).mono ?_; rintro e wr9 ⟨rfl, hbr⟩))
    have hB8 := held22_below (by assumption)
    clear hbq hbr or8
    have bl_11 := bel_trans bl_10 hB8
    have bx_11 := Lib.hid (bx_10.out.keep hB8)
    have bw_11 := Lib.hid (bw_10.out.keep hB8)
    have by_11 := Lib.hid (by_10.out.keep hB8)
    have bg_11 := Lib.hid (bg_10.out.keep hB8)
    have rd_11 := Lib.hid (rd_10.out.belowS hB8)
    have r0_11 := Lib.hid (r0_10.out.belowS hB8)
    have rx2_11 := Lib.hid (rx2_10.out.belowS hB8)
    have ow_11 := Lib.hid (ow_10.out.belowS hB8)
    have r1_11 := Lib.hid (r1_10.out.belowS hB8)
    have sz_11 := Lib.hid (hB8).size
    obtain ⟨by_11_0, by_11_1, by_11_2⟩ := by_11.out
    go_wp2_with fail
    refine (markPuzzle_any oo m _ _ 1 _ ow_11.out (by have := sz_1.out; have := se_1.out; have := sz_2.out; have := sz_3.out; have := sz_4.out; have := sz_5.out; have := se_5.out; have := sz_6.out; have := sz_7.out; have := se_7.out; have := sz_8.out; have := sz_9.out; have := se_9.out; have := sz_10.out; have := sz_11.out; omega) (by omega) (by omega)).mono ?_
    rintro e wm ⟨rfl, _, hgm⟩
    have sz_12 := Lib.hid (hgm).size
    have bl_12 := bel_grownR bl_11 hgm (fun k hk => (by have := sz_1.out; have := se_1.out; have := sz_2.out; have := sz_3.out; have := sz_4.out; have := sz_5.out; have := se_5.out; have := sz_6.out; have := sz_7.out; have := se_7.out; have := sz_8.out; have := sz_9.out; have := se_9.out; have := sz_10.out; have := sz_11.out; have := sz_12.out; have := (OWlt.out k hk); omega))
    have bx_12 := Lib.hid (bx_11.out.grownN hgm (fun j hj => (by have := sz_1.out; have := se_1.out; have := sz_2.out; have := sz_3.out; have := sz_4.out; have := sz_5.out; have := se_5.out; have := sz_6.out; have := sz_7.out; have := se_7.out; have := sz_8.out; have := sz_9.out; have := se_9.out; have := sz_10.out; have := sz_11.out; have := sz_12.out; have := (OWlt.out j hj); omega)))
    have bw_12 := Lib.hid (bw_11.out.grownN hgm (fun j hj => (by have := sz_1.out; have := se_1.out; have := sz_2.out; have := sz_3.out; have := sz_4.out; have := sz_5.out; have := se_5.out; have := sz_6.out; have := sz_7.out; have := se_7.out; have := sz_8.out; have := sz_9.out; have := se_9.out; have := sz_10.out; have := sz_11.out; have := sz_12.out; have := (OWlt.out j hj); omega)))
    have bg_12 := Lib.hid (bg_11.out.grownN hgm (fun j hj => (by have := sz_1.out; have := se_1.out; have := sz_2.out; have := sz_3.out; have := sz_4.out; have := sz_5.out; have := se_5.out; have := sz_6.out; have := sz_7.out; have := se_7.out; have := sz_8.out; have := sz_9.out; have := se_9.out; have := sz_10.out; have := sz_11.out; have := sz_12.out; have := (OWlt.out j hj); omega)))
    have rd_12 := Lib.hid (rd_0.out.belowS bl_12)
    have r0_12 := Lib.hid (r0_11.out.keptN hgm (fun k hk e => (by have := sz_1.out; have := se_1.out; have := sz_2.out; have := sz_3.out; have := sz_4.out; have := sz_5.out; have := se_5.out; have := sz_6.out; have := sz_7.out; have := se_7.out; have := sz_8.out; have := sz_9.out; have := se_9.out; have := sz_10.out; have := sz_11.out; have := sz_12.out; have := (R0lt.out k hk); have := (OWlt.out k e); omega)))
    have r1_12 := Lib.hid (r1_11.out.keptN hgm (fun k hk e => (by have := sz_1.out; have := se_1.out; have := sz_2.out; have := sz_3.out; have := sz_4.out; have := sz_5.out; have := se_5.out; have := sz_6.out; have := sz_7.out; have := se_7.out; have := sz_8.out; have := sz_9.out; have := se_9.out; have := sz_10.out; have := sz_11.out; have := sz_12.out; have := (R1lt.out k hk); have := (OWlt.out k e); omega)))
    have t0 : decide ((1 : Int) + 3 * (m.length : Int) < 0) = false := by simp; omega
    have t0b : ¬ (1 : Int) + 3 * (m.length : Int) < 0 := by omega
    obtain ⟨bw_12_0, bw_12_1, bw_12_2⟩ := bw_12.out
    obtain ⟨bg_12_0, bg_12_1, bg_12_2⟩ := bg_12.out
    go_wp2_with fail
    refine (eqPuzzle_same ro xs (.slice Ag0 xs.length capg0) (.slice Au0 xs.length capu0) _ _ _ (r1_12.out.rd) (r0_12.out.rd) (Nat.le_refl _) (Nat.le_refl _)).mono ?_
    rintro e q2 ⟨rfl, hq_2⟩
    have bl_13 := bel_trans bl_12 hq_2
    have bx_13 := Lib.hid (bx_12.out.keep hq_2)
    have bw_13 := Lib.hid (bw_12.out.keep hq_2)
    have bg_13 := Lib.hid (bg_12.out.keep hq_2)
    have rd_13 := Lib.hid (rd_12.out.belowS hq_2)
    have r0_13 := Lib.hid (r0_12.out.belowS hq_2)
    have r1_13 := Lib.hid (r1_12.out.belowS hq_2)
    have sz_13 := Lib.hid (hq_2).size
    obtain ⟨bg_13_0, bg_13_1, bg_13_2⟩ := bg_13.out
    go_wp2_with fail
    refine (markPuzzle_any ro xs _ _ 1 _ r1_13.out (by have := sz_1.out; have := se_1.out; have := sz_2.out; have := sz_3.out; have := sz_4.out; have := sz_5.out; have := se_5.out; have := sz_6.out; have := sz_7.out; have := se_7.out; have := sz_8.out; have := sz_9.out; have := se_9.out; have := sz_10.out; have := sz_11.out; have := sz_12.out; have := sz_13.out; omega) (by omega) (by omega)).mono ?_
    rintro e wg ⟨rfl, r4, hg4⟩
    have sz_14 := Lib.hid (hg4).size
    have bl_14 := bel_grownR bl_13 hg4 (fun k hk => (by have := sz_1.out; have := se_1.out; have := sz_2.out; have := sz_3.out; have := sz_4.out; have := sz_5.out; have := se_5.out; have := sz_6.out; have := sz_7.out; have := se_7.out; have := sz_8.out; have := sz_9.out; have := se_9.out; have := sz_10.out; have := sz_11.out; have := sz_12.out; have := sz_13.out; have := sz_14.out; have := (R1lt.out k hk); omega))
    have bx_14 := Lib.hid (bx_13.out.grownN hg4 (fun j hj => (by have := sz_1.out; have := se_1.out; have := sz_2.out; have := sz_3.out; have := sz_4.out; have := sz_5.out; have := se_5.out; have := sz_6.out; have := sz_7.out; have := se_7.out; have := sz_8.out; have := sz_9.out; have := se_9.out; have := sz_10.out; have := sz_11.out; have := sz_12.out; have := sz_13.out; have := sz_14.out; have := (R1lt.out j hj); omega)))
    have bw_14 := Lib.hid (bw_13.out.grownN hg4 (fun j hj => (by have := sz_1.out; have := se_1.out; have := sz_2.out; have := sz_3.out; have := sz_4.out; have := sz_5.out; have := se_5.out; have := sz_6.out; have := sz_7.out; have := se_7.out; have := sz_8.out; have := sz_9.out; have := se_9.out; have := sz_10.out; have := sz_11.out; have := sz_12.out; have := sz_13.out; have := sz_14.out; have := (R1lt.out j hj); omega)))
    have bg_14 := Lib.hid (bg_13.out.grownN hg4 (fun j hj => (by have := sz_1.out; have := se_1.out; have := sz_2.out; have := sz_3.out; have := sz_4.out; have := sz_5.out; have := se_5.out; have := sz_6.out; have := sz_7.out; have := se_7.out; have := sz_8.out; have := sz_9.out; have := se_9.out; have := sz_10.out; have := sz_11.out; have := sz_12.out; have := sz_13.out; have := sz_14.out; have := (R1lt.out j hj); omega)))
    have rd_14 := Lib.hid (rd_0.out.belowS bl_14)
    have r0_14 := Lib.hid (r0_13.out.keptN hg4 (fun k hk e => (by have := sz_1.out; have := se_1.out; have := sz_2.out; have := sz_3.out; have := sz_4.out; have := sz_5.out; have := se_5.out; have := sz_6.out; have := sz_7.out; have := se_7.out; have := sz_8.out; have := sz_9.out; have := se_9.out; have := sz_10.out; have := sz_11.out; have := sz_12.out; have := sz_13.out; have := sz_14.out; have := (R0lt.out k hk); have := (R1lt.out k e); omega)))
    have r4_14 := Lib.hid (r4)
    clear r4
    obtain ⟨bg_14_0, bg_14_1, bg_14_2⟩ := bg_14.out
    go_wp2_with fail
    refine (heldPuzzle_any ro xs _ _ 1 _ (r4_14.out.rd) (Nat.le_refl _) (by omega) (by omega)).mono ?_
    rintro e q3 ⟨rfl, hq_3⟩
    have bl_15 := bel_trans bl_14 hq_3
    have bx_15 := Lib.hid (bx_14.out.keep hq_3)
    have bw_15 := Lib.hid (bw_14.out.keep hq_3)
    have bg_15 := Lib.hid (bg_14.out.keep hq_3)
    have rd_15 := Lib.hid (rd_14.out.belowS hq_3)
    have r0_15 := Lib.hid (r0_14.out.belowS hq_3)
    have r4_15 := Lib.hid (r4_14.out.belowS hq_3)
    have sz_15 := Lib.hid (hq_3).size
    have t1 : decide ((1 : Int) + 3 * (xs.length : Int) < 0) = false := by simp; omega
    have t1b : ¬ (1 : Int) + 3 * (xs.length : Int) < 0 := by omega
    obtain ⟨bx_15_0, bx_15_1, bx_15_2⟩ := bx_15.out
    go_wp2_with fail
    refine (toPz_any oo m _ _ rd_15.out z).mono ?_
    rintro e v16 ⟨u3, rfl, o3, hb_16⟩
    have bl_16 := bel_trans bl_15 hb_16
    have bx_16 := Lib.hid (bx_15.out.keep hb_16)
    have bw_16 := Lib.hid (bw_15.out.keep hb_16)
    have bg_16 := Lib.hid (bg_15.out.keep hb_16)
    have rd_16 := Lib.hid (rd_15.out.belowS hb_16)
    have r0_16 := Lib.hid (r0_15.out.belowS hb_16)
    have r4_16 := Lib.hid (r4_15.out.belowS hb_16)
    have sz_16 := Lib.hid (hb_16).size
    obtain ⟨A3, cap3, rfl, _⟩ := o3.formS
    have rx3_16 := Lib.hid ((show RdTS v16 _ m from o3.rd))
    clear o3
    obtain ⟨bx_16_0, bx_16_1, bx_16_2⟩ := bx_16.out
    go_wp2_with fail
    refine (implHard_any oo m _ _ _ rx3_16.out (Nat.le_refl _)).mono ?_
    rw [Hxs.out, Hro.out, Hok.out]
    rintro e v17 ⟨h0, rfl, r60, hb_17⟩
    have bl_17 := bel_trans bl_16 hb_17
    have bx_17 := Lib.hid (bx_16.out.keep hb_17)
    have bw_17 := Lib.hid (bw_16.out.keep hb_17)
    have bg_17 := Lib.hid (bg_16.out.keep hb_17)
    have rd_17 := Lib.hid (rd_16.out.belowS hb_17)
    have r0_17 := Lib.hid (r0_16.out.belowS hb_17)
    have r4_17 := Lib.hid (r4_16.out.belowS hb_17)
    have rx3_17 := Lib.hid (rx3_16.out.belowS hb_17)
    have sz_17 := Lib.hid (hb_17).size
    have r6_17 := Lib.hid (r60)
    obtain ⟨Ah0, caph0, rfl, _⟩ := r60.formS
    have R6lt := Lib.hid (fun k hk => World.ownsRow.lt r60 k hk)
    clear r60
    have hb_18 := bel_alloc (Below.refl _ v17) (.cells #[.int .i64 ro, .slice Ah0 xs.length caph0] 29)
    have bl_18 := bel_trans bl_17 hb_18
    have bx_18 := Lib.hid (bx_17.out.keep hb_18)
    have bw_18 := Lib.hid (bw_17.out.keep hb_18)
    have bg_18 := Lib.hid (bg_17.out.keep hb_18)
    have rd_18 := Lib.hid (rd_17.out.belowS hb_18)
    have r0_18 := Lib.hid (r0_17.out.belowS hb_18)
    have r4_18 := Lib.hid (r4_17.out.belowS hb_18)
    have r6_18 := Lib.hid (r6_17.out.belowS hb_18)
    have sz_18 := Lib.hid (hb_18).size
    have bh_18 := Lib.hid (Box2.new v17 (.int .i64 ro) (.slice Ah0 xs.length caph0) 29)
    have se_18 := Lib.hid (size1 v17 (.cells #[.int .i64 ro, .slice Ah0 xs.length caph0] 29))
    obtain ⟨bh_18_0, bh_18_1, bh_18_2⟩ := bh_18.out
    obtain ⟨bw_18_0, bw_18_1, bw_18_2⟩ := bw_18.out
    go_wp2_with fail
    refine (eqPuzzle_same ro xs (.slice Ah0 xs.length caph0) (.slice Au0 xs.length capu0) _ _ _ (r6_18.out.rd) (r0_18.out.rd) (Nat.le_refl _) (Nat.le_refl _)).mono ?_
    rintro e q4 ⟨rfl, hq_4⟩
    have bl_19 := bel_trans bl_18 hq_4
    have bx_19 := Lib.hid (bx_18.out.keep hq_4)
    have bw_19 := Lib.hid (bw_18.out.keep hq_4)
    have bg_19 := Lib.hid (bg_18.out.keep hq_4)
    have bh_19 := Lib.hid (bh_18.out.keep hq_4)
    have rd_19 := Lib.hid (rd_18.out.belowS hq_4)
    have r0_19 := Lib.hid (r0_18.out.belowS hq_4)
    have r4_19 := Lib.hid (r4_18.out.belowS hq_4)
    have r6_19 := Lib.hid (r6_18.out.belowS hq_4)
    have sz_19 := Lib.hid (hq_4).size
    obtain ⟨bg_19_0, bg_19_1, bg_19_2⟩ := bg_19.out
    go_wp2_with fail
    refine (heldPuzzle_any ro xs _ _ 1 _ (r4_19.out.rd) (Nat.le_refl _) (by omega) (by omega)).mono ?_
    rintro e q5 ⟨rfl, hq_5⟩
    have bl_20 := bel_trans bl_19 hq_5
    have bx_20 := Lib.hid (bx_19.out.keep hq_5)
    have bw_20 := Lib.hid (bw_19.out.keep hq_5)
    have bg_20 := Lib.hid (bg_19.out.keep hq_5)
    have bh_20 := Lib.hid (bh_19.out.keep hq_5)
    have rd_20 := Lib.hid (rd_19.out.belowS hq_5)
    have r0_20 := Lib.hid (r0_19.out.belowS hq_5)
    have r4_20 := Lib.hid (r4_19.out.belowS hq_5)
    have r6_20 := Lib.hid (r6_19.out.belowS hq_5)
    have sz_20 := Lib.hid (hq_5).size
    have hend := bl_20
    go_wp2_with fail
    go_ret
    exact ⟨rfl, hend⟩
  · go_enter Try.func15, Try.ntmps15
    go_wp2_with fail
    refine (szPz_no oo m _ _ (rd_0.out.belowS (by repeat (first | assumption | with_reducible exact Below.refl _ _ | refine bel_alloc ?_ _ | refine bel_drewN ?_ _ | refine Below.drew ?_ | (refine Below.setCell ?_ (by simp) _) | (refine bel_trans ?_ (by assumption))))) z).mono ?_
    rintro e w2 ⟨rfl, b2⟩
    go_wp2
    go_ret
    exact ⟨rfl, bel_trans (by repeat (first | assumption | with_reducible exact Below.refl _ _ | refine bel_alloc ?_ _ | refine bel_drewN ?_ _ | refine Below.drew ?_ | (refine Below.setCell ?_ (by simp) _) | (refine bel_trans ?_ (by assumption)))) b2⟩

end Go.Proofs.Ytggflgmjncjmbaa
