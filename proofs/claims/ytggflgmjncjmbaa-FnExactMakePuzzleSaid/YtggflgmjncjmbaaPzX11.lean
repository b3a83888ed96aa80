/- The law of MakePuzzle: its walk. -/
import Derived.Test.YtggflgmjncjmbaaPzMn
namespace Go.Proofs.Ytggflgmjncjmbaa
open Go.ChangeShapes Go.WideShapes Go.ChangeAt Go.RowKit
set_option linter.unusedVariables false
set_option linter.unusedSimpArgs false

theorem h3c_mk {W0 V : World} {C : Nat} {p q r : Value} (hc : Box3 W0 C p q r) (hb : Below W0.heap.size W0 V) :
    V.cell? ⟨C, 0, none⟩ = some p ∧ V.cell? ⟨C, 1, none⟩ = some q ∧ V.cell? ⟨C, 2, none⟩ = some r ∧ C < V.heap.size ∧ Below W0.heap.size W0 V :=
  ⟨(hc.keep hb).1, (hc.keep hb).2.1, (hc.keep hb).2.2.1, (hc.keep hb).2.2.2, hb⟩
theorem h3c_below {W0 V : World} {C : Nat} {p q r : Value} (h : V.cell? ⟨C, 0, none⟩ = some p ∧ V.cell? ⟨C, 1, none⟩ = some q ∧ V.cell? ⟨C, 2, none⟩ = some r ∧ C < V.heap.size ∧ Below W0.heap.size W0 V) : Below W0.heap.size W0 V := h.2.2.2.2
theorem h3c_res {W0 V : World} {C : Nat} {p q r : Value} (hc : Box3 W0 C p q r) (hb : Below W0.heap.size W0 V) (n : Nat) (hn : W0.heap.size ≤ n) (a b : Value) :
    let U := (V.setCell ⟨n, 0, none⟩ a).setCell ⟨n, 1, none⟩ b
    U.cell? ⟨C, 0, none⟩ = some p ∧ U.cell? ⟨C, 1, none⟩ = some q ∧ U.cell? ⟨C, 2, none⟩ = some r ∧ C < U.heap.size ∧ Below W0.heap.size W0 U :=
  h3c_mk hc ((hb.setCell (p := ⟨n, 0, none⟩) hn a).setCell (p := ⟨n, 1, none⟩) hn b)
set_option maxRecDepth 100000 in
set_option maxHeartbeats 12800000 in
theorem walkExactMakePuzzle (u d o n s : Int) (w : World) (h1 : (Lit.int .i64 u).wf = true) (h2 : (Lit.int .i64 d).wf = true) (h3 : (Lit.int .i64 o).wf = true) (h4 : (Lit.int .i64 n).wf = true) (h5 : (Lit.int .i64 s).wf = true) :
    Calls Try.prog 16 #[chn u d o, .int .i64 n, .int .i64 s] w fun e w' => e = .returned (.bool true) ∧ Below w.heap.size w w' := by
  clear h1 h2 h3 h4 h5
  have hlen : (mpL u d o n s).length ≤ 1000 := mpL_len u d o n s
  have hS := fun W => specMk_any u d o n s W
  have hI := fun W => implMk_any u d o n s W
  generalize hxs : mpL u d o n s = xs at *
  clear hxs
  generalize hro : mpO u d o n s = ro at *
  clear hro
  generalize hok : mpG u d o n s = ok at *
  clear hok
  have hb_1 := bel_alloc (Below.refl _ w) (.cells #[.int .i64 u, .int .i64 d, .int .i64 o] 36)
  have bl_1 := bel_trans (Below.refl _ w) hb_1
  have sz_1 := Lib.hid (hb_1).size
  have bc_1 := Lib.hid (Box3.new w (.int .i64 u) (.int .i64 d) (.int .i64 o) 36)
  have se_1 := Lib.hid (size1 w (.cells #[.int .i64 u, .int .i64 d, .int .i64 o] 36))
  go_enter Try.func16, Try.ntmps16
  obtain ⟨bc_1_0, bc_1_1, bc_1_2, bc_1_3⟩ := bc_1.out
  go_wp2_with fail
  refine (toChain_any u d o _).mono ?_
  rintro e c1 ⟨rfl, hq_c1⟩
  have bl_2 := bel_trans bl_1 hq_c1
  have bc_2 := Lib.hid (bc_1.out.keep hq_c1)
  have sz_2 := Lib.hid (hq_c1).size
  go_wp2_with fail
  refine (hS _).mono ?_
  rintro e d2 ⟨vu0, rfl, r00, hq_d2⟩
  have bl_3 := bel_trans bl_2 hq_d2
  have bc_3 := Lib.hid (bc_2.out.keep hq_d2)
  have sz_3 := Lib.hid (hq_d2).size
  have r0_3 := Lib.hid (r00)
  obtain ⟨Au0, capu0, rfl, _⟩ := r00.formS
  have r0lt := Lib.hid (fun k hk => World.ownsRow.lt r00 k hk)
  clear r00
  have hb_4 := bel_alloc (Below.refl _ d2) (.cells #[.int .i64 ro, .slice Au0 xs.length capu0] 29)
  have bl_4 := bel_trans bl_3 hb_4
  have bc_4 := Lib.hid (bc_3.out.keep hb_4)
  have r0_4 := Lib.hid (r0_3.out.belowS hb_4)
  have sz_4 := Lib.hid (hb_4).size
  have bw_4 := Lib.hid (Box2.new d2 (.int .i64 ro) (.slice Au0 xs.length capu0) 29)
  have se_4 := Lib.hid (size1 d2 (.cells #[.int .i64 ro, .slice Au0 xs.length capu0] 29))
  obtain ⟨bc_4_0, bc_4_1, bc_4_2, bc_4_3⟩ := bc_4.out
  go_wp2_with fail
  refine (toChain_any u d o _).mono ?_
  rintro e c3 ⟨rfl, hq_c3⟩
  have bl_5 := bel_trans bl_4 hq_c3
  have bc_5 := Lib.hid (bc_4.out.keep hq_c3)
  have bw_5 := Lib.hid (bw_4.out.keep hq_c3)
  have r0_5 := Lib.hid (r0_4.out.belowS hq_c3)
  have sz_5 := Lib.hid (hq_c3).size
  go_wp2_with fail
  refine (hI _).mono ?_
  rintro e d4 ⟨vg0, rfl, r10, hq_d4⟩
  have bl_6 := bel_trans bl_5 hq_d4
  have bc_6 := Lib.hid (bc_5.out.keep hq_d4)
  have bw_6 := Lib.hid (bw_5.out.keep hq_d4)
  have r0_6 := Lib.hid (r0_5.out.belowS hq_d4)
  have sz_6 := Lib.hid (hq_d4).size
  have r1_6 := Lib.hid (r10)
  obtain ⟨Ag0, capg0, rfl, _⟩ := r10.formS
  have r1lt := Lib.hid (fun k hk => World.ownsRow.lt r10 k hk)
  clear r10
  have hb_7 := bel_alloc (Below.refl _ d4) (.cells #[.int .i64 ro, .slice Ag0 xs.length capg0] 29)
  have bl_7 := bel_trans bl_6 hb_7
  have bc_7 := Lib.hid (bc_6.out.keep hb_7)
  have bw_7 := Lib.hid (bw_6.out.keep hb_7)
  have r0_7 := Lib.hid (r0_6.out.belowS hb_7)
  have r1_7 := Lib.hid (r1_6.out.belowS hb_7)
  have sz_7 := Lib.hid (hb_7).size
  have bg_7 := Lib.hid (Box2.new d4 (.int .i64 ro) (.slice Ag0 xs.length capg0) 29)
  have se_7 := Lib.hid (size1 d4 (.cells #[.int .i64 ro, .slice Ag0 xs.length capg0] 29))
  obtain ⟨bw_7_0, bw_7_1, bw_7_2⟩ := bw_7.out
  obtain ⟨bg_7_0, bg_7_1, bg_7_2⟩ := bg_7.out
  go_wp2_with fail
  refine (eqPuzzle_same ro xs (.slice Ag0 xs.length capg0) (.slice Au0 xs.length capu0) _ _ _ (r1_7.out.rd) (r0_7.out.rd) (Nat.le_refl _) (Nat.le_refl _)).mono ?_
  rintro e q5g0 ⟨rfl, hq_5g0⟩
  have bl_8 := bel_trans bl_7 hq_5g0
  have bc_8 := Lib.hid (bc_7.out.keep hq_5g0)
  have bw_8 := Lib.hid (bw_7.out.keep hq_5g0)
  have bg_8 := Lib.hid (bg_7.out.keep hq_5g0)
  have r0_8 := Lib.hid (r0_7.out.belowS hq_5g0)
  have r1_8 := Lib.hid (r1_7.out.belowS hq_5g0)
  have sz_8 := Lib.hid (hq_5g0).size
  obtain ⟨bg_8_0, bg_8_1, bg_8_2⟩ := bg_8.out
  go_wp2_with fail
  refine (markPuzzle_any ro xs _ _ 1 _ r1_8.out (by have := sz_1.out; have := se_1.out; have := sz_2.out; have := sz_3.out; have := sz_4.out; have := se_4.out; have := sz_5.out; have := sz_6.out; have := sz_7.out; have := se_7.out; have := sz_8.out; omega) (by omega) (by omega)).mono ?_
  rintro e wg ⟨rfl, r4, hg4⟩
  have sz_9 := Lib.hid (hg4).size
  have bl_9 := bel_grownR bl_8 hg4 (fun k hk => (by have := sz_1.out; have := se_1.out; have := sz_2.out; have := sz_3.out; have := sz_4.out; have := se_4.out; have := sz_5.out; have := sz_6.out; have := sz_7.out; have := se_7.out; have := sz_8.out; have := sz_9.out; have := (r1lt.out k hk); omega))
  have bc_9 := Lib.hid (bc_8.out.grownN hg4 (fun j hj => (by have := sz_1.out; have := se_1.out; have := sz_2.out; have := sz_3.out; have := sz_4.out; have := se_4.out; have := sz_5.out; have := sz_6.out; have := sz_7.out; have := se_7.out; have := sz_8.out; have := sz_9.out; have := (r1lt.out j hj); omega)))
  have bw_9 := Lib.hid (bw_8.out.grownN hg4 (fun j hj => (by have := sz_1.out; have := se_1.out; have := sz_2.out; have := sz_3.out; have := sz_4.out; have := se_4.out; have := sz_5.out; have := sz_6.out; have := sz_7.out; have := se_7.out; have := sz_8.out; have := sz_9.out; have := (r1lt.out j hj); omega)))
  have bg_9 := Lib.hid (bg_8.out.grownN hg4 (fun j hj => (by have := sz_1.out; have := se_1.out; have := sz_2.out; have := sz_3.out; have := sz_4.out; have := se_4.out; have := sz_5.out; have := sz_6.out; have := sz_7.out; have := se_7.out; have := sz_8.out; have := sz_9.out; have := (r1lt.out j hj); omega)))
  have r0_9 := Lib.hid (r0_8.out.keptN hg4 (fun k hk e => (by have := sz_1.out; have := se_1.out; have := sz_2.out; have := sz_3.out; have := sz_4.out; have := se_4.out; have := sz_5.out; have := sz_6.out; have := sz_7.out; have := se_7.out; have := sz_8.out; have := sz_9.out; have := (r0lt.out k hk); have := (r1lt.out k e); omega)))
  have r4_9 := Lib.hid (r4)
  clear r4
  obtain ⟨bg_9_0, bg_9_1, bg_9_2⟩ := bg_9.out
  go_wp2_with fail
  refine (heldPuzzle_any ro xs _ _ 1 _ (r4_9.out.rd) (Nat.le_refl _) (by omega) (by omega)).mono ?_
  rintro e q6h ⟨rfl, hq_6h⟩
  have bl_10 := bel_trans bl_9 hq_6h
  have bc_10 := Lib.hid (bc_9.out.keep hq_6h)
  have bw_10 := Lib.hid (bw_9.out.keep hq_6h)
  have bg_10 := Lib.hid (bg_9.out.keep hq_6h)
  have r0_10 := Lib.hid (r0_9.out.belowS hq_6h)
  have r4_10 := Lib.hid (r4_9.out.belowS hq_6h)
  have sz_10 := Lib.hid (hq_6h).size
  have t1 : decide ((1 : Int) + 3 * (xs.length : Int) < 0) = false := by simp; omega
  have t1b : ¬ (1 : Int) + 3 * (xs.length : Int) < 0 := by omega
  obtain ⟨bc_10_0, bc_10_1, bc_10_2, bc_10_3⟩ := bc_10.out
  go_wp2_with fail
  refine (toChain_any u d o _).mono ?_
  rintro e c7 ⟨rfl, hq_c7⟩
  have bl_11 := bel_trans bl_10 hq_c7
  have bc_11 := Lib.hid (bc_10.out.keep hq_c7)
  have bw_11 := Lib.hid (bw_10.out.keep hq_c7)
  have bg_11 := Lib.hid (bg_10.out.keep hq_c7)
  have r0_11 := Lib.hid (r0_10.out.belowS hq_c7)
  have r4_11 := Lib.hid (r4_10.out.belowS hq_c7)
  have sz_11 := Lib.hid (hq_c7).size
  go_wp2_with fail
  refine (hI _).mono ?_
  rintro e d8 ⟨vh0, rfl, r60, hq_d8⟩
  have bl_12 := bel_trans bl_11 hq_d8
  have bc_12 := Lib.hid (bc_11.out.keep hq_d8)
  have bw_12 := Lib.hid (bw_11.out.keep hq_d8)
  have bg_12 := Lib.hid (bg_11.out.keep hq_d8)
  have r0_12 := Lib.hid (r0_11.out.belowS hq_d8)
  have r4_12 := Lib.hid (r4_11.out.belowS hq_d8)
  have sz_12 := Lib.hid (hq_d8).size
  have r6_12 := Lib.hid (r60)
  obtain ⟨Ah0, caph0, rfl, _⟩ := r60.formS
  have r6lt := Lib.hid (fun k hk => World.ownsRow.lt r60 k hk)
  clear r60
  have hb_13 := bel_alloc (Below.refl _ d8) (.cells #[.int .i64 ro, .slice Ah0 xs.length caph0] 29)
  have bl_13 := bel_trans bl_12 hb_13
  have bc_13 := Lib.hid (bc_12.out.keep hb_13)
  have bw_13 := Lib.hid (bw_12.out.keep hb_13)
  have bg_13 := Lib.hid (bg_12.out.keep hb_13)
  have r0_13 := Lib.hid (r0_12.out.belowS hb_13)
  have r4_13 := Lib.hid (r4_12.out.belowS hb_13)
  have r6_13 := Lib.hid (r6_12.out.belowS hb_13)
  have sz_13 := Lib.hid (hb_13).size
  have bh_13 := Lib.hid (Box2.new d8 (.int .i64 ro) (.slice Ah0 xs.length caph0) 29)
  have se_13 := Lib.hid (size1 d8 (.cells #[.int .i64 ro, .slice Ah0 xs.length caph0] 29))
  obtain ⟨bh_13_0, bh_13_1, bh_13_2⟩ := bh_13.out
  obtain ⟨bw_13_0, bw_13_1, bw_13_2⟩ := bw_13.out
  go_wp2_with fail
  refine (eqPuzzle_same ro xs (.slice Ah0 xs.length caph0) (.slice Au0 xs.length capu0) _ _ _ (r6_13.out.rd) (r0_13.out.rd) (Nat.le_refl _) (Nat.le_refl _)).mono ?_
  rintro e q9h0 ⟨rfl, hq_9h0⟩
  have bl_14 := bel_trans bl_13 hq_9h0
  have bc_14 := Lib.hid (bc_13.out.keep hq_9h0)
  have bw_14 := Lib.hid (bw_13.out.keep hq_9h0)
  have bg_14 := Lib.hid (bg_13.out.keep hq_9h0)
  have bh_14 := Lib.hid (bh_13.out.keep hq_9h0)
  have r0_14 := Lib.hid (r0_13.out.belowS hq_9h0)
  have r4_14 := Lib.hid (r4_13.out.belowS hq_9h0)
  have r6_14 := Lib.hid (r6_13.out.belowS hq_9h0)
  have sz_14 := Lib.hid (hq_9h0).size
  obtain ⟨bg_14_0, bg_14_1, bg_14_2⟩ := bg_14.out
  go_wp2_with fail
  refine (heldPuzzle_any ro xs _ _ 1 _ (r4_14.out.rd) (Nat.le_refl _) (by omega) (by omega)).mono ?_
  rintro e q10h ⟨rfl, hq_10h⟩
  have bl_15 := bel_trans bl_14 hq_10h
  have bc_15 := Lib.hid (bc_14.out.keep hq_10h)
  have bw_15 := Lib.hid (bw_14.out.keep hq_10h)
  have bg_15 := Lib.hid (bg_14.out.keep hq_10h)
  have bh_15 := Lib.hid (bh_14.out.keep hq_10h)
  have r0_15 := Lib.hid (r0_14.out.belowS hq_10h)
  have r4_15 := Lib.hid (r4_14.out.belowS hq_10h)
  have r6_15 := Lib.hid (r6_14.out.belowS hq_10h)
  have sz_15 := Lib.hid (hq_10h).size
  have hend := bl_15
  go_wp2_with fail
  go_ret
  exact ⟨rfl, hend⟩
end Go.Proofs.Ytggflgmjncjmbaa
