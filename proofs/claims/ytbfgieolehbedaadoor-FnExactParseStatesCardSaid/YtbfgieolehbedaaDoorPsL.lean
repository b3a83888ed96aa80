/- ParseStates: the model's contract, and the walk through the law. -/
import Derived.Test.YtbfgieolehbedaaDoorPsS3
namespace Go.Proofs.YtbfgieolehbedaaDoor
open Go.ChangeShapes Go.WideShapes Go.ChangeAt Go.RowKit
set_option linter.unusedVariables false
set_option linter.unusedSimpArgs false

theorem lim_ok {s : ByteArray} (h : okM s = true) : limQ s = limS s ∧ mQ s = mS s ∧ okP s = true := by
  obtain ⟨h1, h2, h3⟩ := ok_M h
  have h90 : s.size ≤ 90 := by
    unfold okM at h
    rw [Bool.and_eq_true, decide_eq_true_eq] at h
    exact h.1
  unfold limQ mQ limS mS
  rw [if_pos h90, if_pos h90, if_pos h1, if_pos h1]
  exact ⟨h2, h3, h1⟩
theorem lim_no {s : ByteArray} (h : okM s = false) : limS s = 0 ∧ mS s = [] ∧ okP s = false := by
  rw [ok_same] at h
  unfold limS mS
  rw [h]
  exact ⟨rfl, rfl, rfl⟩
set_option maxRecDepth 100000 in
set_option maxHeartbeats 3200000 in
theorem specPS_any (s : ByteArray) (w : World) (hs : s.size ≤ 1048576) :
    Calls Tryd.prog 5 #[.string s] w (PsAns (limS s) (mS s) (okP s) w) := by
  have br0 := Lib.hid (Bx2.new w (.int .i64 0) nilS 24)
  have bl0 := Lib.hid (bel_alloc (Below.refl _ w) (.cells #[.int .i64 0, nilS] 24))
  have hsz0 := Lib.hid (size1 w (.cells #[.int .i64 0, nilS] 24))
  have HQ := Lib.hid (saParse_any s (w.alloc (.cells #[.int .i64 0, nilS] 24)) hs)
  cases hok : okM s
  · obtain ⟨e1, e2, e3⟩ := lim_no hok
    rw [e1, e2, e3]
    rw [hok] at HQ
    generalize limQ s = l at *
    generalize mQ s = m at *
    clear e1 e2 e3 hok
    go_enter Tryd.func5, Tryd.ntmps5
    go_wp2_with fail
    refine (HQ.out).mono ?_
    rintro e w1 ⟨v, rfl, ho, hb1⟩
    obtain ⟨A, cap, rfl, _⟩ := ho.formS
    have bl1 := Lib.hid (bel_trans bl0.out hb1)
    have br1 := Lib.hid ((br0.out.keep hb1).keep (bel_alloc (Below.refl _ w1) (.cells #[.int .i64 l, .slice A m.length cap] 24)))
    have bl2 := Lib.hid (bel_trans bl1.out (bel_alloc (Below.refl _ w1) (.cells #[.int .i64 l, .slice A m.length cap] 24)))
    clear ho hb1
    obtain ⟨r0, r1, r2, r3, r4⟩ := br1.out
    go_wp2_with fail
    obtain ⟨n0, n1, _⟩ := br1.out.set (.int .i64 0) nilS
    refine bodyPost_ret (v := .tuple #[sts 0 nilS, .bool false]) (by simp [results, Tryd.results5, go_sem, n0, n1]) rfl ?_
    exact ps_no 0 w _ bl2.out
  · obtain ⟨e1, e2, e3⟩ := lim_ok hok
    rw [← e1, ← e2, e3]
    rw [hok] at HQ
    generalize limQ s = l at *
    generalize mQ s = m at *
    clear e1 e2 e3 hok
    go_enter Tryd.func5, Tryd.ntmps5
    go_wp2_with fail
    refine (HQ.out).mono ?_
    rintro e w1 ⟨v, rfl, ho, hb1⟩
    obtain ⟨A, cap, rfl, _⟩ := ho.formS
    have hbx := bel_alloc (Below.refl _ w1) (.cells #[.int .i64 l, .slice A m.length cap] 24)
    have bl1 := Lib.hid (bel_trans bl0.out hb1)
    have br1 := Lib.hid ((br0.out.keep hb1).keep hbx)
    have bl2 := Lib.hid (bel_trans bl1.out hbx)
    have bx2 := Lib.hid (Bx2.new w1 (.int .i64 l) (.slice A m.length cap) 24)
    have HO := Lib.hid (((ho.below hbx (Nat.le_refl _)).more hbx.size (Nat.le_refl _)))
    clear ho hb1 hbx
    obtain ⟨r0, r1, r2, r3, r4⟩ := br1.out
    obtain ⟨c0, c1, c2, c3, c4⟩ := bx2.out
    go_wp2_with fail
    obtain ⟨n0, n1, _⟩ := br1.out.set (.int .i64 l) (.slice A m.length cap)
    refine bodyPost_ret (v := .tuple #[sts l (.slice A m.length cap), .bool true]) (by simp [results, Tryd.results5, go_sem, n0, n1]) rfl ?_
    refine ⟨_, rfl, ?_, bel_setB bl2.out (Nat.le_refl _) _ _⟩
    rw [setB_size]
    refine (HO.out.setB ?_ _ _).low ?_
    · have := hsz0.out; omega
    · have := hsz0.out; omega

theorem offM_le {m : List (List Int)} (h : ∀ i, (m.getD i []).length ≤ 5) : ∀ k, offM m k ≤ 5 * k
  | 0 => by simp [offM]
  | k + 1 => by
    have ih := offM_le h k
    have := h k
    unfold offM
    omega
theorem mS_small (s : ByteArray) : (mS s).length ≤ 1000 ∧ offM (mS s) (mS s).length ≤ 1000 := by
  unfold mS
  split
  · rename_i h
    unfold okP at h
    rw [Bool.and_eq_true] at h
    have hg := good_of h.1
    have h5 := hg.five
    have := offM_le (row_five hg) (rowsP s.data.toList).length
    omega
  · simp [offM]

theorem OwnM.belowS {w w' : World} {lo hi : Nat} {v : Value} {m : List (List Int)} (h : OwnM w lo hi v m) (hb : Below w.heap.size w w') : OwnM w' lo hi v m := h.below hb h.1

theorem OwnM.offS {w w' : World} {lo hi lo' hi' : Nat} {v : Value} {m : List (List Int)} (h : OwnM w lo hi v m) (ho : Off lo' hi' w w') (hc : hi ≤ lo' ∨ hi' ≤ lo) : OwnM w' lo hi v m :=
  h.move (fun k h1 h2 => ho.block k (Nat.lt_of_lt_of_le h2 h.1) (by omega)) ho.size
theorem OwnM.grownS {w w' : World} {lo hi : Nat} {v : Value} {m : List (List Int)} {row : Option Nat} (h : OwnM w lo hi v m) (hg : w.grownBy w' row) (hc : ∀ j, row = some j → j < lo ∨ hi ≤ j) : OwnM w' lo hi v m :=
  h.move (fun k h1 h2 => hg.block k (Nat.lt_of_lt_of_le h2 h.1) (fun e => by have := hc k e.symm; omega)) hg.size
theorem Box2.offS {w w' : World} {k lo hi : Nat} {x y : Value} (h : Box2 w k x y) (ho : Off lo hi w w') (hk : k < lo ∨ hi ≤ k) : Box2 w' k x y := by
  have e := ho.block k h.2.2 hk
  exact ⟨(World.cell?_of_block (w := w) (a := ⟨k, 0, none⟩) e).trans h.1, (World.cell?_of_block (w := w) (a := ⟨k, 1, none⟩) e).trans h.2.1, Nat.lt_of_lt_of_le h.2.2 ho.size⟩
theorem Box2.grownS {w w' : World} {k : Nat} {x y : Value} {row : Option Nat} (h : Box2 w k x y) (hg : w.grownBy w' row) (hr : ∀ j, row = some j → j ≠ k) : Box2 w' k x y := by
  have e := hg.block k h.2.2 (fun e => hr k e.symm rfl)
  exact ⟨(World.cell?_of_block (w := w) (a := ⟨k, 0, none⟩) e).trans h.1, (World.cell?_of_block (w := w) (a := ⟨k, 1, none⟩) e).trans h.2.1, Nat.lt_of_lt_of_le h.2.2 hg.size⟩

set_option maxRecDepth 100000 in
set_option maxHeartbeats 12800000 in
theorem walkExactParseStates (s : ByteArray) (w : World) (hSn : Sent w) (hMl : MLen w) (hs0 : s.size ≤ maxLen) :
    Calls Tryd.prog 3 #[.string s] w fun e w' => e = .returned (.bool true) ∧ Below w.heap.size w w' := by
  by_cases hs : s.size ≤ 1048576
  · skip
    have hml := mS_small s
    have HS := Lib.hid (specPS_any s w hs)
    have HI := Lib.hid (fun (W : World) (hb : Below w.heap.size w W) => implPS_any s W (hSn.keep hb) (hMl.keep hb) hs)
    clear hSn hMl
    generalize limS s = l at *
    generalize mS s = mm at *
    generalize okP s = ok at *
    obtain ⟨hl1, hl2⟩ := hml
    go_enter Tryd.func3, Tryd.ntmps3
    go_wp2_with fail
    refine (HS.out).mono ?_
    rintro e v1 ⟨w0, rfl, qr0, hb_1⟩
    have bl_1 := bel_trans (Below.refl _ w) hb_1
    have sz_1 := Lib.hid (hb_1).size
    obtain ⟨Aw0, capw0, rfl, _⟩ := qr0.formS
    have r0_1 := Lib.hid (qr0)
    clear qr0
    have hb_2 := bel_alloc (Below.refl _ v1) (.cells #[.int .i64 l, .slice Aw0 mm.length capw0] 24)
    have bl_2 := bel_trans bl_1 hb_2
    have r0_2 := Lib.hid (r0_1.out.belowS hb_2)
    have sz_2 := Lib.hid (hb_2).size
    have bw_2 := Lib.hid (Box2.new v1 (.int .i64 l) (.slice Aw0 mm.length capw0) 24)
    have se_2 := Lib.hid (size1 v1 (.cells #[.int .i64 l, .slice Aw0 mm.length capw0] 24))
    go_wp2_with fail
    refine (HI.out _ bl_2).mono ?_
    rintro e v3 ⟨g0, rfl, qr1, hb_3⟩
    have bl_3 := bel_trans bl_2 hb_3
    have bw_3 := Lib.hid (bw_2.out.keep hb_3)
    have r0_3 := Lib.hid (r0_2.out.belowS hb_3)
    have sz_3 := Lib.hid (hb_3).size
    obtain ⟨Ag0, capg0, rfl, _⟩ := qr1.formS
    have r1_3 := Lib.hid (qr1)
    clear qr1
    have hb_4 := bel_alloc (Below.refl _ v3) (.cells #[.int .i64 l, .slice Ag0 mm.length capg0] 24)
    have bl_4 := bel_trans bl_3 hb_4
    have bw_4 := Lib.hid (bw_3.out.keep hb_4)
    have r0_4 := Lib.hid (r0_3.out.belowS hb_4)
    have r1_4 := Lib.hid (r1_3.out.belowS hb_4)
    have sz_4 := Lib.hid (hb_4).size
    have bg_4 := Lib.hid (Box2.new v3 (.int .i64 l) (.slice Ag0 mm.length capg0) 24)
    have se_4 := Lib.hid (size1 v3 (.cells #[.int .i64 l, .slice Ag0 mm.length capg0] 24))
    obtain ⟨bg_4_0, bg_4_1, bg_4_2⟩ := bg_4.out
    obtain ⟨bw_4_0, bw_4_1, bw_4_2⟩ := bw_4.out
    go_wp2_with fail
    refine (eqStates_same l mm _ _ _ _ _ r1_4.out.rd r0_4.out.rd r1_4.out.1 r0_4.out.1).mono ?_
    rintro e v5 ⟨rfl, hb_5⟩
    have bl_5 := bel_trans bl_4 hb_5
    have bw_5 := Lib.hid (bw_4.out.keep hb_5)
    have bg_5 := Lib.hid (bg_4.out.keep hb_5)
    have r0_5 := Lib.hid (r0_4.out.belowS hb_5)
    have r1_5 := Lib.hid (r1_4.out.belowS hb_5)
    have sz_5 := Lib.hid (hb_5).size
    obtain ⟨bg_5_0, bg_5_1, bg_5_2⟩ := bg_5.out
    go_wp2_with fail
    refine (markStates_any l mm _ _ _ 1 _ r1_5.out (by omega) (by omega) (by omega)).mono ?_
    rintro e wg ⟨rfl, om, hog⟩
    have sz_6 := Lib.hid (hog).size
    have bl_6 := hog.bel bl_5 (by have := sz_1.out; have := sz_2.out; have := se_2.out; have := sz_3.out; have := sz_4.out; have := se_4.out; have := sz_5.out; have := sz_6.out; omega)
    have bw_6 := Lib.hid (bw_5.out.offS hog (by have := sz_1.out; have := sz_2.out; have := se_2.out; have := sz_3.out; have := sz_4.out; have := se_4.out; have := sz_5.out; have := sz_6.out; omega))
    have bg_6 := Lib.hid (bg_5.out.offS hog (by have := sz_1.out; have := sz_2.out; have := se_2.out; have := sz_3.out; have := sz_4.out; have := se_4.out; have := sz_5.out; have := sz_6.out; omega))
    have r0_6 := Lib.hid (r0_5.out.offS hog (by have := sz_1.out; have := sz_2.out; have := se_2.out; have := sz_3.out; have := sz_4.out; have := se_4.out; have := sz_5.out; have := sz_6.out; omega))
    have t2 : decide ((1 : Int) + (offM mm mm.length : Int) < 0) = false := by simp; omega
    have om_6 := Lib.hid (om)
    clear om
    obtain ⟨bg_6_0, bg_6_1, bg_6_2⟩ := bg_6.out
    go_wp2_with fail
    refine (heldStates_any l mm _ _ _ 1 _ om_6.out (by omega) (by omega) (by omega)).mono ?_
    rintro e v7 ⟨rfl, hb_7⟩
    have bl_7 := bel_trans bl_6 hb_7
    have bw_7 := Lib.hid (bw_6.out.keep hb_7)
    have bg_7 := Lib.hid (bg_6.out.keep hb_7)
    have r0_7 := Lib.hid (r0_6.out.belowS hb_7)
    have om_7 := Lib.hid (om_6.out.belowS hb_7)
    have sz_7 := Lib.hid (hb_7).size
    go_wp2_with fail
    refine (HI.out _ bl_7).mono ?_
    rintro e v8 ⟨h0, rfl, qr2, hb_8⟩
    have bl_8 := bel_trans bl_7 hb_8
    have bw_8 := Lib.hid (bw_7.out.keep hb_8)
    have bg_8 := Lib.hid (bg_7.out.keep hb_8)
    have r0_8 := Lib.hid (r0_7.out.belowS hb_8)
    have om_8 := Lib.hid (om_7.out.belowS hb_8)
    have sz_8 := Lib.hid (hb_8).size
    obtain ⟨Ah0, caph0, rfl, _⟩ := qr2.formS
    have r2_8 := Lib.hid (qr2)
    clear qr2
    have hb_9 := bel_alloc (Below.refl _ v8) (.cells #[.int .i64 l, .slice Ah0 mm.length caph0] 24)
    have bl_9 := bel_trans bl_8 hb_9
    have bw_9 := Lib.hid (bw_8.out.keep hb_9)
    have bg_9 := Lib.hid (bg_8.out.keep hb_9)
    have r0_9 := Lib.hid (r0_8.out.belowS hb_9)
    have om_9 := Lib.hid (om_8.out.belowS hb_9)
    have r2_9 := Lib.hid (r2_8.out.belowS hb_9)
    have sz_9 := Lib.hid (hb_9).size
    have bh_9 := Lib.hid (Box2.new v8 (.int .i64 l) (.slice Ah0 mm.length caph0) 24)
    have se_9 := Lib.hid (size1 v8 (.cells #[.int .i64 l, .slice Ah0 mm.length caph0] 24))
    obtain ⟨bh_9_0, bh_9_1, bh_9_2⟩ := bh_9.out
    obtain ⟨bw_9_0, bw_9_1, bw_9_2⟩ := bw_9.out
    go_wp2_with fail
    refine (eqStates_same l mm _ _ _ _ _ r2_9.out.rd r0_9.out.rd r2_9.out.1 r0_9.out.1).mono ?_
    rintro e v10 ⟨rfl, hb_10⟩
    have bl_10 := bel_trans bl_9 hb_10
    have bw_10 := Lib.hid (bw_9.out.keep hb_10)
    have bg_10 := Lib.hid (bg_9.out.keep hb_10)
    have bh_10 := Lib.hid (bh_9.out.keep hb_10)
    have r0_10 := Lib.hid (r0_9.out.belowS hb_10)
    have om_10 := Lib.hid (om_9.out.belowS hb_10)
    have r2_10 := Lib.hid (r2_9.out.belowS hb_10)
    have sz_10 := Lib.hid (hb_10).size
    obtain ⟨bg_10_0, bg_10_1, bg_10_2⟩ := bg_10.out
    go_wp2_with fail
    refine (heldStates_any l mm _ _ _ 1 _ om_10.out (by omega) (by omega) (by omega)).mono ?_
    rintro e v11 ⟨rfl, hb_11⟩
    have bl_11 := bel_trans bl_10 hb_11
    have bw_11 := Lib.hid (bw_10.out.keep hb_11)
    have bg_11 := Lib.hid (bg_10.out.keep hb_11)
    have bh_11 := Lib.hid (bh_10.out.keep hb_11)
    have r0_11 := Lib.hid (r0_10.out.belowS hb_11)
    have om_11 := Lib.hid (om_10.out.belowS hb_11)
    have r2_11 := Lib.hid (r2_10.out.belowS hb_11)
    have sz_11 := Lib.hid (hb_11).size
    have hend := bl_11
    go_wp2_with fail
    go_ret
    exact ⟨rfl, hend⟩
  · go_enter Tryd.func3, Tryd.ntmps3
    go_wp2
    go_ret
    exact ⟨rfl, Below.refl _ w⟩
end Go.Proofs.YtbfgieolehbedaaDoor
