/- The walks of laws over states. -/
import Derived.Test.YthmdkbeccohjkaaStR
import Derived.Test.YthmdkbeccohjkaaFwL
namespace Go.Proofs.Ythmdkbeccohjkaa
set_option linter.unusedSimpArgs false
open Go.ChangeShapes Go.WideShapes Go.ChangeAt Go.RowKit
set_option linter.unusedVariables false

set_option maxRecDepth 100000 in
set_option maxHeartbeats 6400000 in
theorem walkExactFirstWay (lim : Int) (m : List (List Int)) (v : Value) (f : Int) (t : Int) (w : World) (h : RdM w w.heap.size v m) (hf : (Lit.int .i64 f).wf = true) (ht : (Lit.int .i64 t).wf = true) :
    Calls Try.prog 3 #[sts lim v, .int .i64 f, .int .i64 t] w fun e w' => e = .returned (.bool true) ∧ Below w.heap.size w w' := by
  obtain ⟨A0, cap0, rfl, l0, m0⟩ := h.form
  clear l0 m0
  clear hf
  clear ht
  have rd_0 := Lib.hid (show RdMS w (.slice A0 m.length cap0) m from h)
  clear h
  by_cases z : szM m m.length ≤ 1048576
  · skip
    have hlen : (ansFW lim m f t).length ≤ 1000 := ansFW_len lim m f t
    generalize hxs : ansFW lim m f t = xs at *
    have Hxs := Lib.hid hxs
    clear hxs
    generalize hok : okFW lim m f t = ok at *
    have Hok := Lib.hid hok
    clear hok
    have hof : offM m m.length ≤ 1048576 := by unfold szM at z; omega
    have hml : m.length ≤ 1048576 := by unfold szM at z; omega
    have hb_1 := bel_alloc (Below.refl _ w) (.cells #[.int .i64 lim, .slice A0 m.length cap0] 24)
    have bl_1 := bel_trans (Below.refl _ w) hb_1
    have rd_1 := Lib.hid (rd_0.out.belowS hb_1)
    have bx_1 := Lib.hid (Box2.new w (.int .i64 lim) (.slice A0 m.length cap0) 24)
    go_enter Try.func3, Try.ntmps3
    go_wp2_with fail
    refine (szStates_yes lim m _ _ rd_1.out z).mono ?_
    rintro e v2 ⟨rfl, hb_2⟩
    have bl_2 := bel_trans bl_1 hb_2
    have bx_2 := Lib.hid (bx_1.out.keep hb_2)
    have rd_2 := Lib.hid (rd_1.out.belowS hb_2)
    obtain ⟨bx_2_0, bx_2_1, bx_2_2⟩ := bx_2.out
    have hz : 0 ≤ 1048576 - (szM m m.length : Int) := by omega
    generalize 1048576 - (szM m m.length : Int) = left at *
    go_wp2_with fail
    refine (toStates_any lim m _ _ rd_2.out z).mono ?_
    rintro e v3 ⟨u1, rfl, o1, hb_3⟩
    have bl_3 := bel_trans bl_2 hb_3
    have bx_3 := Lib.hid (bx_2.out.keep hb_3)
    have rd_3 := Lib.hid (rd_2.out.belowS hb_3)
    obtain ⟨A1, cap1, rfl, _⟩ := o1.formS
    have rx1_3 := Lib.hid ((show RdMS v3 _ m from o1.rd))
    clear o1
    obtain ⟨bx_3_0, bx_3_1, bx_3_2⟩ := bx_3.out
    go_wp2_with fail
    refine (specFW_any lim m _ _ f t _ rx1_3.out (Nat.le_refl _)).mono ?_
    rw [Hxs.out, Hok.out]
    rintro e v4 ⟨u0, rfl, r00, hb_4⟩
    have bl_4 := bel_trans bl_3 hb_4
    have bx_4 := Lib.hid (bx_3.out.keep hb_4)
    have rd_4 := Lib.hid (rd_3.out.belowS hb_4)
    have rx1_4 := Lib.hid (rx1_3.out.belowS hb_4)
    have r0_4 := Lib.hid (r00)
    clear r00
    have R0lt := Lib.hid (fun k hk => (r0_4.out).lt k hk)
    have R0base := r0_4
    obtain ⟨bx_4_0, bx_4_1, bx_4_2⟩ := bx_4.out
    go_wp2_with fail
    refine (toStates_any lim m _ _ rd_4.out z).mono ?_
    rintro e v5 ⟨u2, rfl, o2, hb_5⟩
    have bl_5 := bel_trans bl_4 hb_5
    have bx_5 := Lib.hid (bx_4.out.keep hb_5)
    have rd_5 := Lib.hid (rd_4.out.belowS hb_5)
    have r0_5 := Lib.hid (r0_4.out.belowS hb_5)
    obtain ⟨A2, cap2, rfl, _⟩ := o2.formS
    have rx2_5 := Lib.hid ((show RdMS v5 _ m from o2.rd))
    have o_5 := Lib.hid (o2)
    clear o2
    have hb_6 := bel_alloc (Below.refl _ v5) (.cells #[.int .i64 lim, .slice A2 m.length cap2] 29)
    have bl_6 := bel_trans bl_5 hb_6
    have bx_6 := Lib.hid (bx_5.out.keep hb_6)
    have rd_6 := Lib.hid (rd_5.out.belowS hb_6)
    have r0_6 := Lib.hid (r0_5.out.belowS hb_6)
    have rx2_6 := Lib.hid (rx2_5.out.belowS hb_6)
    have o_6 := Lib.hid (o_5.out.belowS hb_6)
    have by_6 := Lib.hid (Box2.new v5 (.int .i64 lim) (.slice A2 m.length cap2) 29)
    obtain ⟨bx_6_0, bx_6_1, bx_6_2⟩ := bx_6.out
    go_wp2_with fail
    refine (implFW_any lim m _ _ f t _ rx2_6.out (Nat.le_refl _)).mono ?_
    rw [Hxs.out, Hok.out]
    rintro e v7 ⟨g0, rfl, r10, hb_7⟩
    have bl_7 := bel_trans bl_6 hb_7
    have bx_7 := Lib.hid (bx_6.out.keep hb_7)
    have by_7 := Lib.hid (by_6.out.keep hb_7)
    have rd_7 := Lib.hid (rd_6.out.belowS hb_7)
    have r0_7 := Lib.hid (r0_6.out.belowS hb_7)
    have rx2_7 := Lib.hid (rx2_6.out.belowS hb_7)
    have o_7 := Lib.hid (o_6.out.belowS hb_7)
    have r1_7 := Lib.hid (r10)
    clear r10
    have R1lt := Lib.hid (fun k hk => (r1_7.out).lt k hk)
    have hs1 : v5.heap.size ≤ (v5.alloc (.cells #[.int .i64 lim, .slice A2 m.length cap2] 29)).heap.size := by rw [← size1]; omega
    have hs2 : v4.heap.size ≤ v5.heap.size := hb_5.size
    have hs3 : w.heap.size < v4.heap.size := (bx_4.out).2.2
    go_wp2_with fail
    refine (eqInt_same xs g0 u0 _ _ _ r1_7.out r0_7.out).mono ?_
    rintro e wq1 ⟨rfl, nd1, rfl⟩
    have bl_8 := bel_drewN bl_7 nd1
    have bx_8 := Lib.hid (bx_7.out.drewN nd1)
    have by_8 := Lib.hid (by_7.out.drewN nd1)
    have rd_8 := Lib.hid (rd_7.out.drewN nd1)
    have r0_8 := Lib.hid (r0_7.out.drewN nd1)
    have rx2_8 := Lib.hid (rx2_7.out.drewN nd1)
    have o_8 := Lib.hid (o_7.out.drewN nd1)
    have r1_8 := Lib.hid (r1_7.out.drewN nd1)
    obtain ⟨bx_8_0, bx_8_1, bx_8_2⟩ := bx_8.out
    obtain ⟨by_8_0, by_8_1, by_8_2⟩ := by_8.out
    have hx0 := rx2_8
    have hr0 := rd_8
    go_wp2_with fail
    go_region_held3 (fun w' => w'.cell? ⟨w.heap.size, 0, none⟩ = some (.int .i64 lim) ∧ w'.cell? ⟨w.heap.size, 1, none⟩ = some (.slice A0 m.length cap0) ∧ w.heap.size < w'.heap.size ∧ w'.cell? ⟨v5.heap.size, 0, none⟩ = some (.int .i64 lim) ∧ w'.cell? ⟨v5.heap.size, 1, none⟩ = some (.slice A2 m.length cap2) ∧ v5.heap.size < w'.heap.size ∧ Below (v7.drewN nd1).heap.size (v7.drewN nd1) w')
      (first | exact held22_start bx_8.out by_8.out | exact held22_keep (by assumption) hbq | exact held22_keep (by assumption) hbr | assumption | go_keep)
      (first | (go_at_call 6; refine (toStates_any lim m _ _ (hr0.out.belowS (held22_below (by assumption))) z).mono ?_; rintro e wr8 ⟨ur8, rfl, or8, hbq⟩) | (go_at_call 9; refine (eqStates_same lim m _ _ _ _ _ (hx0.out.belowS (held22_below (by assumption))) or8.rd (Nat.le_refl _) (Nat.le_refl _)).mono ?_; rintro e wr9 ⟨rfl, hbr⟩))
    have hB8 := held22_below (by assumption)
    have bl_9 := bel_trans bl_8 hB8
    have bx_9 := Lib.hid (bx_8.out.keep hB8)
    have by_9 := Lib.hid (by_8.out.keep hB8)
    have rd_9 := Lib.hid (rd_8.out.belowS hB8)
    have r0_9 := Lib.hid (r0_8.out.belowS hB8)
    have rx2_9 := Lib.hid (rx2_8.out.belowS hB8)
    have o_9 := Lib.hid (o_8.out.belowS hB8)
    have r1_9 := Lib.hid (r1_8.out.belowS hB8)
    obtain ⟨by_9_0, by_9_1, by_9_2⟩ := by_9.out
    go_wp2_with fail
    refine (markStates_any lim m _ _ _ 1 _ o_9.out (by omega) (by omega) hml).mono ?_
    rintro e wm ⟨rfl, _, hoff⟩
    have bl_10 := hoff.bel bl_9 (by omega)
    have bx_10 := Lib.hid (bx_9.out.off hoff (by omega))
    have rd_10 := Lib.hid (rd_0.out.belowS bl_10)
    have r0_10 := Lib.hid (r0_9.out.off hoff (fun k hk => .inl (R0lt.out k hk).2))
    have r1_10 := Lib.hid (r1_9.out.off hoff (fun k hk => .inr (Nat.le_trans hs1 (R1lt.out k hk).1)))
    have t0 : decide ((1 : Int) + (offM m m.length : Int) < 0) = false := by simp; omega
    go_wp2_with fail
    refine (eqInt_same xs g0 u0 _ _ _ r1_10.out r0_10.out).mono ?_
    rintro e wq2 ⟨rfl, nd2, rfl⟩
    have bl_11 := bel_drewN bl_10 nd2
    have bx_11 := Lib.hid (bx_10.out.drewN nd2)
    have rd_11 := Lib.hid (rd_10.out.drewN nd2)
    have r0_11 := Lib.hid (r0_10.out.drewN nd2)
    have r1_11 := Lib.hid (r1_10.out.drewN nd2)
    go_wp2_with fail
    refine (mark_any xs g0 _ 1 _ r1_11.out (by omega) (by omega)).mono ?_
    rintro e wg ⟨rfl, r4, hg4⟩
    have bl_12 := bel_grown bl_11 hg4 r1_11.out (by omega)
    have r0_12 := Lib.hid (r0_11.out.kept_by hg4 r1_11.out (Nat.le_refl _) R0base.out (by omega))
    have bx_12 := Lib.hid (bx_11.out.grown hg4 (fun j hj => by have := (R1lt.out j hj).1; omega))
    have rd_12 := Lib.hid (rd_0.out.belowS bl_12)
    have r4_12 := Lib.hid r4
    clear r4
    go_wp2_with fail
    refine (held_any xs g0 _ 1 _ r4_12.out (by omega) (by omega)).mono ?_
    rintro e wq3 ⟨rfl, nd3, rfl⟩
    have bl_13 := bel_drewN bl_12 nd3
    have bx_13 := Lib.hid (bx_12.out.drewN nd3)
    have rd_13 := Lib.hid (rd_12.out.drewN nd3)
    have r0_13 := Lib.hid (r0_12.out.drewN nd3)
    have r4_13 := Lib.hid (r4_12.out.drewN nd3)
    have t1 : decide ((1 : Int) + (xs.length : Int) < 0) = false := by simp; omega
    obtain ⟨bx_13_0, bx_13_1, bx_13_2⟩ := bx_13.out
    go_wp2_with fail
    refine (toStates_any lim m _ _ rd_13.out z).mono ?_
    rintro e v14 ⟨u3, rfl, o3, hb_14⟩
    have bl_14 := bel_trans bl_13 hb_14
    have bx_14 := Lib.hid (bx_13.out.keep hb_14)
    have rd_14 := Lib.hid (rd_13.out.belowS hb_14)
    have r0_14 := Lib.hid (r0_13.out.belowS hb_14)
    have r4_14 := Lib.hid (r4_13.out.belowS hb_14)
    obtain ⟨A3, cap3, rfl, _⟩ := o3.formS
    have rx3_14 := Lib.hid ((show RdMS v14 _ m from o3.rd))
    clear o3
    go_wp2_with fail
    refine (implFW_any lim m _ _ f t _ rx3_14.out (Nat.le_refl _)).mono ?_
    rw [Hxs.out, Hok.out]
    rintro e v15 ⟨h0, rfl, r60, hb_15⟩
    have bl_15 := bel_trans bl_14 hb_15
    have bx_15 := Lib.hid (bx_14.out.keep hb_15)
    have rd_15 := Lib.hid (rd_14.out.belowS hb_15)
    have r0_15 := Lib.hid (r0_14.out.belowS hb_15)
    have r4_15 := Lib.hid (r4_14.out.belowS hb_15)
    have rx3_15 := Lib.hid (rx3_14.out.belowS hb_15)
    have r6_15 := Lib.hid (r60)
    clear r60
    go_wp2_with fail
    refine (eqInt_same xs h0 u0 _ _ _ r6_15.out r0_15.out).mono ?_
    rintro e wq4 ⟨rfl, nd4, rfl⟩
    have bl_16 := bel_drewN bl_15 nd4
    have bx_16 := Lib.hid (bx_15.out.drewN nd4)
    have rd_16 := Lib.hid (rd_15.out.drewN nd4)
    have r0_16 := Lib.hid (r0_15.out.drewN nd4)
    have r4_16 := Lib.hid (r4_15.out.drewN nd4)
    have rx3_16 := Lib.hid (rx3_15.out.drewN nd4)
    have r6_16 := Lib.hid (r6_15.out.drewN nd4)
    go_wp2_with fail
    refine (held_any xs g0 _ 1 _ r4_16.out (by omega) (by omega)).mono ?_
    rintro e wq5 ⟨rfl, nd5, rfl⟩
    have bl_17 := bel_drewN bl_16 nd5
    have bx_17 := Lib.hid (bx_16.out.drewN nd5)
    have rd_17 := Lib.hid (rd_16.out.drewN nd5)
    have r0_17 := Lib.hid (r0_16.out.drewN nd5)
    have r4_17 := Lib.hid (r4_16.out.drewN nd5)
    have rx3_17 := Lib.hid (rx3_16.out.drewN nd5)
    have r6_17 := Lib.hid (r6_16.out.drewN nd5)
    have hend := bl_15
    go_wp2_with fail
    go_ret
    exact ⟨rfl, bel_drewN hend _⟩
  · go_enter Try.func3, Try.ntmps3
    go_wp2_with fail
    refine (szStates_no lim m _ _ (rd_0.out.belowS (bel_alloc (Below.refl _ w) _)) z).mono ?_
    rintro e w2 ⟨rfl, b2⟩
    go_wp2
    go_ret
    exact ⟨rfl, bel_trans (bel_alloc (Below.refl _ w) _) b2⟩

end Go.Proofs.Ythmdkbeccohjkaa
