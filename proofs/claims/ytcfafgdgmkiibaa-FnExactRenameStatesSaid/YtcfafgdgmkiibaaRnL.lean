/- RenameStates: the walk through the law. -/
import Derived.Test.YtcfafgdgmkiibaaRnT
import Derived.Test.YtcfafgdgmkiibaaStR
namespace Go.Proofs.Ytcfafgdgmkiibaa
set_option linter.unusedSimpArgs false
open Go.ChangeShapes Go.WideShapes Go.ChangeAt Go.RowKit
set_option linter.unusedVariables false

theorem offM_rowsR (n : Nat) (F : Nat → Nat → Int) : ∀ k, k ≤ n → offM (rowsR n F) k = k * n
  | 0, _ => by simp [offM]
  | k + 1, h => by
    unfold offM
    rw [offM_rowsR n F k (by omega), rowsR_at n F k (by omega), rowL_len, Nat.add_mul, Nat.one_mul]
theorem rn_small (lim : Int) (m : List (List Int)) (xs : List Int) : (ansRn lim m xs).length ≤ 1000 ∧ offM (ansRn lim m xs) (ansRn lim m xs).length ≤ 1000 := by
  unfold ansRn
  split
  · rename_i h
    unfold okRn at h
    rw [Bool.and_eq_true] at h
    have h5 := (good_of h.1).five
    rw [rowsR_len, offM_rowsR _ _ _ (Nat.le_refl _)]
    have := Nat.mul_le_mul h5 h5
    omega
  · simp [offM]
theorem OwnM.offS {w w' : World} {lo hi lo' hi' : Nat} {v : Value} {m : List (List Int)} (h : OwnM w lo hi v m) (ho : Off lo' hi' w w') (hc : hi ≤ lo' ∨ hi' ≤ lo) : OwnM w' lo hi v m :=
  h.move (fun k h1 h2 => ho.block k (Nat.lt_of_lt_of_le h2 h.1) (by omega)) ho.size
theorem OwnM.grownS {w w' : World} {lo hi : Nat} {v : Value} {m : List (List Int)} {row : Option Nat} (h : OwnM w lo hi v m) (hg : w.grownBy w' row) (hc : ∀ j, row = some j → j < lo ∨ hi ≤ j) : OwnM w' lo hi v m :=
  h.move (fun k h1 h2 => hg.block k (Nat.lt_of_lt_of_le h2 h.1) (fun e => by have := hc k e.symm; omega)) hg.size
theorem Box2.offS {w w' : World} {k lo hi : Nat} {x y : Value} (h : Box2 w k x y) (ho : Off lo hi w w') (hk : k < lo ∨ hi ≤ k) : Box2 w' k x y := by
  have e := ho.block k h.2.2 hk
  exact ⟨(World.cell?_of_block (w := w) (a := ⟨k, 0, none⟩) e).trans h.1, (World.cell?_of_block (w := w) (a := ⟨k, 1, none⟩) e).trans h.2.1, Nat.lt_of_lt_of_le h.2.2 ho.size⟩
theorem Box2.grownS {w w' : World} {k : Nat} {x y : Value} {row : Option Nat} (h : Box2 w k x y) (hg : w.grownBy w' row) (hr : ∀ j, row = some j → j ≠ k) : Box2 w' k x y := by
  have e := hg.block k h.2.2 (fun e => hr k e.symm rfl)
  exact ⟨(World.cell?_of_block (w := w) (a := ⟨k, 0, none⟩) e).trans h.1, (World.cell?_of_block (w := w) (a := ⟨k, 1, none⟩) e).trans h.2.1, Nat.lt_of_lt_of_le h.2.2 hg.size⟩

set_option maxRecDepth 100000 in
set_option maxHeartbeats 12800000 in
theorem walkExactRenameStates (lim : Int) (m : List (List Int)) (v : Value) (xs : List Int) (lv : Value) (w : World) (h : RdM w w.heap.size v m) (hi : RdI w w.heap.size lv xs) :
    Calls Try.prog 5 #[sts lim v, lv] w fun e w' => e = .returned (.bool true) ∧ Below w.heap.size w w' := by
  obtain ⟨A0, cap0, rfl, l0, m0⟩ := h.form
  obtain ⟨LA, lcap, rfl, l2, m2⟩ := hi.form
  clear l0 m0 l2 m2
  have rd_0 := Lib.hid (show RdMS w (.slice A0 m.length cap0) m from h)
  have hx_0 := Lib.hid (show RdIS w (.slice LA xs.length lcap) xs from hi)
  clear h hi
  by_cases zn : xs.length ≤ 1048576
  · by_cases z : szM m m.length ≤ 1048576
    · skip
      have hml := rn_small lim m xs
      generalize hl : limRn lim m xs = l at *
      have Hl := Lib.hid hl
      clear hl
      generalize hmm : ansRn lim m xs = mm at *
      have Hmm := Lib.hid hmm
      clear hmm
      generalize hok : okRn lim m xs = ok at *
      have Hok := Lib.hid hok
      clear hok
      obtain ⟨hl1, hl2⟩ := hml
      have hof : offM m m.length ≤ 1048576 := by unfold szM at z; omega
      have hml : m.length ≤ 1048576 := by unfold szM at z; omega
      have hb_1 := bel_alloc (Below.refl _ w) (.cells #[.int .i64 lim, .slice A0 m.length cap0] 44)
      have bl_1 := bel_trans (Below.refl _ w) hb_1
      have rd_1 := Lib.hid (rd_0.out.belowS hb_1)
      have hx_1 := Lib.hid (hx_0.out.belowS hb_1)
      have sz_1 := Lib.hid (hb_1).size
      have bx_1 := Lib.hid (Box2.new w (.int .i64 lim) (.slice A0 m.length cap0) 44)
      have se_1 := Lib.hid (size1 w (.cells #[.int .i64 lim, .slice A0 m.length cap0] 44))
      go_enter Try.func5, Try.ntmps5
      go_wp2_with fail
      refine (szStates_yes lim m _ _ rd_1.out z).mono ?_
      rintro e v2 ⟨rfl, hb_2⟩
      have bl_2 := bel_trans bl_1 hb_2
      have bx_2 := Lib.hid (bx_1.out.keep hb_2)
      have rd_2 := Lib.hid (rd_1.out.belowS hb_2)
      have hx_2 := Lib.hid (hx_1.out.belowS hb_2)
      have sz_2 := Lib.hid (hb_2).size
      obtain ⟨bx_2_0, bx_2_1, bx_2_2⟩ := bx_2.out
      have hz : 0 ≤ 1048576 - (szM m m.length : Int) := by omega
      generalize 1048576 - (szM m m.length : Int) = left at *
      go_wp2_with fail
      refine (toStates_any lim m _ _ rd_2.out z).mono ?_
      rintro e v3 ⟨u1, rfl, o1, hb_3⟩
      have bl_3 := bel_trans bl_2 hb_3
      have bx_3 := Lib.hid (bx_2.out.keep hb_3)
      have rd_3 := Lib.hid (rd_2.out.belowS hb_3)
      have hx_3 := Lib.hid (hx_2.out.belowS hb_3)
      have sz_3 := Lib.hid (hb_3).size
      obtain ⟨A1, cap1, rfl, _⟩ := o1.formS
      have x1_3 := Lib.hid (o1)
      clear o1
      go_wp2_with fail
      refine (toIntS_any xs _ _ _ hx_3.out (Nat.le_refl _) zn).mono ?_
      rintro e v4 ⟨l1, rfl, r1, hb_4⟩
      have bl_4 := bel_trans bl_3 hb_4
      have bx_4 := Lib.hid (bx_3.out.keep hb_4)
      have rd_4 := Lib.hid (rd_3.out.belowS hb_4)
      have hx_4 := Lib.hid (hx_3.out.belowS hb_4)
      have x1_4 := Lib.hid (x1_3.out.belowS hb_4)
      have sz_4 := Lib.hid (hb_4).size
      have i1_4 := Lib.hid (r1)
      clear r1
      go_wp2_with fail
      refine (specRn_any lim m _ _ xs _ _ _ x1_4.out.rd x1_4.out.1 i1_4.out.rd (Nat.le_refl _)).mono ?_
      rw [Hl.out, Hmm.out, Hok.out]
      rintro e v5 ⟨w0, rfl, qr0, hb_5⟩
      have bl_5 := bel_trans bl_4 hb_5
      have bx_5 := Lib.hid (bx_4.out.keep hb_5)
      have rd_5 := Lib.hid (rd_4.out.belowS hb_5)
      have hx_5 := Lib.hid (hx_4.out.belowS hb_5)
      have x1_5 := Lib.hid (x1_4.out.belowS hb_5)
      have i1_5 := Lib.hid (i1_4.out.belowS hb_5)
      have sz_5 := Lib.hid (hb_5).size
      obtain ⟨Aw0, capw0, rfl, _⟩ := qr0.formS
      have r0_5 := Lib.hid (qr0)
      clear qr0
      have hb_6 := bel_alloc (Below.refl _ v5) (.cells #[.int .i64 l, .slice Aw0 mm.length capw0] 47)
      have bl_6 := bel_trans bl_5 hb_6
      have bx_6 := Lib.hid (bx_5.out.keep hb_6)
      have rd_6 := Lib.hid (rd_5.out.belowS hb_6)
      have hx_6 := Lib.hid (hx_5.out.belowS hb_6)
      have r0_6 := Lib.hid (r0_5.out.belowS hb_6)
      have sz_6 := Lib.hid (hb_6).size
      have bw_6 := Lib.hid (Box2.new v5 (.int .i64 l) (.slice Aw0 mm.length capw0) 47)
      have se_6 := Lib.hid (size1 v5 (.cells #[.int .i64 l, .slice Aw0 mm.length capw0] 47))
      obtain ⟨bx_6_0, bx_6_1, bx_6_2⟩ := bx_6.out
      go_wp2_with fail
      refine (toStates_any lim m _ _ rd_6.out z).mono ?_
      rintro e v7 ⟨u2, rfl, o2, hb_7⟩
      have bl_7 := bel_trans bl_6 hb_7
      have bx_7 := Lib.hid (bx_6.out.keep hb_7)
      have bw_7 := Lib.hid (bw_6.out.keep hb_7)
      have rd_7 := Lib.hid (rd_6.out.belowS hb_7)
      have hx_7 := Lib.hid (hx_6.out.belowS hb_7)
      have r0_7 := Lib.hid (r0_6.out.belowS hb_7)
      have sz_7 := Lib.hid (hb_7).size
      obtain ⟨A2, cap2, rfl, _⟩ := o2.formS
      have x2_7 := Lib.hid (o2)
      clear o2
      have hb_8 := bel_alloc (Below.refl _ v7) (.cells #[.int .i64 lim, .slice A2 m.length cap2] 47)
      have bl_8 := bel_trans bl_7 hb_8
      have bx_8 := Lib.hid (bx_7.out.keep hb_8)
      have bw_8 := Lib.hid (bw_7.out.keep hb_8)
      have rd_8 := Lib.hid (rd_7.out.belowS hb_8)
      have hx_8 := Lib.hid (hx_7.out.belowS hb_8)
      have r0_8 := Lib.hid (r0_7.out.belowS hb_8)
      have x2_8 := Lib.hid (x2_7.out.belowS hb_8)
      have sz_8 := Lib.hid (hb_8).size
      have by_8 := Lib.hid (Box2.new v7 (.int .i64 lim) (.slice A2 m.length cap2) 47)
      have se_8 := Lib.hid (size1 v7 (.cells #[.int .i64 lim, .slice A2 m.length cap2] 47))
      go_wp2_with fail
      refine (toIntS_any xs _ _ _ hx_8.out (Nat.le_refl _) zn).mono ?_
      rintro e v9 ⟨l2, rfl, r2, hb_9⟩
      have bl_9 := bel_trans bl_8 hb_9
      have bx_9 := Lib.hid (bx_8.out.keep hb_9)
      have bw_9 := Lib.hid (bw_8.out.keep hb_9)
      have by_9 := Lib.hid (by_8.out.keep hb_9)
      have rd_9 := Lib.hid (rd_8.out.belowS hb_9)
      have hx_9 := Lib.hid (hx_8.out.belowS hb_9)
      have r0_9 := Lib.hid (r0_8.out.belowS hb_9)
      have x2_9 := Lib.hid (x2_8.out.belowS hb_9)
      have sz_9 := Lib.hid (hb_9).size
      have i2_9 := Lib.hid (r2)
      clear r2
      have I2lt := Lib.hid (fun k hk => (i2_9.out).lt k hk)
      obtain ⟨by_9_0, by_9_1, by_9_2⟩ := by_9.out
      go_wp2_with fail
      refine (implRn_any lim m _ _ xs _ _ _ x2_9.out.rd x2_9.out.1 i2_9.out.rd (Nat.le_refl _) zn).mono ?_
      rw [Hl.out, Hmm.out, Hok.out]
      rintro e v10 ⟨g0, rfl, qr1, hb_10⟩
      have bl_10 := bel_trans bl_9 hb_10
      have bx_10 := Lib.hid (bx_9.out.keep hb_10)
      have bw_10 := Lib.hid (bw_9.out.keep hb_10)
      have by_10 := Lib.hid (by_9.out.keep hb_10)
      have rd_10 := Lib.hid (rd_9.out.belowS hb_10)
      have hx_10 := Lib.hid (hx_9.out.belowS hb_10)
      have r0_10 := Lib.hid (r0_9.out.belowS hb_10)
      have x2_10 := Lib.hid (x2_9.out.belowS hb_10)
      have i2_10 := Lib.hid (i2_9.out.belowS hb_10)
      have sz_10 := Lib.hid (hb_10).size
      obtain ⟨Ag0, capg0, rfl, _⟩ := qr1.formS
      have r1_10 := Lib.hid (qr1)
      clear qr1
      have hb_11 := bel_alloc (Below.refl _ v10) (.cells #[.int .i64 l, .slice Ag0 mm.length capg0] 47)
      have bl_11 := bel_trans bl_10 hb_11
      have bx_11 := Lib.hid (bx_10.out.keep hb_11)
      have bw_11 := Lib.hid (bw_10.out.keep hb_11)
      have by_11 := Lib.hid (by_10.out.keep hb_11)
      have rd_11 := Lib.hid (rd_10.out.belowS hb_11)
      have hx_11 := Lib.hid (hx_10.out.belowS hb_11)
      have r0_11 := Lib.hid (r0_10.out.belowS hb_11)
      have x2_11 := Lib.hid (x2_10.out.belowS hb_11)
      have i2_11 := Lib.hid (i2_10.out.belowS hb_11)
      have r1_11 := Lib.hid (r1_10.out.belowS hb_11)
      have sz_11 := Lib.hid (hb_11).size
      have bg_11 := Lib.hid (Box2.new v10 (.int .i64 l) (.slice Ag0 mm.length capg0) 47)
      have se_11 := Lib.hid (size1 v10 (.cells #[.int .i64 l, .slice Ag0 mm.length capg0] 47))
      obtain ⟨bg_11_0, bg_11_1, bg_11_2⟩ := bg_11.out
      obtain ⟨bw_11_0, bw_11_1, bw_11_2⟩ := bw_11.out
      go_wp2_with fail
      refine (eqStates_same l mm _ _ _ _ _ r1_11.out.rd r0_11.out.rd r1_11.out.1 r0_11.out.1).mono ?_
      rintro e v12 ⟨rfl, hb_12⟩
      have bl_12 := bel_trans bl_11 hb_12
      have bx_12 := Lib.hid (bx_11.out.keep hb_12)
      have bw_12 := Lib.hid (bw_11.out.keep hb_12)
      have by_12 := Lib.hid (by_11.out.keep hb_12)
      have bg_12 := Lib.hid (bg_11.out.keep hb_12)
      have rd_12 := Lib.hid (rd_11.out.belowS hb_12)
      have hx_12 := Lib.hid (hx_11.out.belowS hb_12)
      have r0_12 := Lib.hid (r0_11.out.belowS hb_12)
      have x2_12 := Lib.hid (x2_11.out.belowS hb_12)
      have i2_12 := Lib.hid (i2_11.out.belowS hb_12)
      have r1_12 := Lib.hid (r1_11.out.belowS hb_12)
      have sz_12 := Lib.hid (hb_12).size
      obtain ⟨bx_12_0, bx_12_1, bx_12_2⟩ := bx_12.out
      obtain ⟨by_12_0, by_12_1, by_12_2⟩ := by_12.out
      have hx0 := x2_12
      have hr0 := rd_12
      go_wp2_with fail
      go_region_held3 (fun w' => w'.cell? ⟨w.heap.size, 0, none⟩ = some (.int .i64 lim) ∧ w'.cell? ⟨w.heap.size, 1, none⟩ = some (.slice A0 m.length cap0) ∧ w.heap.size < w'.heap.size ∧ w'.cell? ⟨v7.heap.size, 0, none⟩ = some (.int .i64 lim) ∧ w'.cell? ⟨v7.heap.size, 1, none⟩ = some (.slice A2 m.length cap2) ∧ v7.heap.size < w'.heap.size ∧ Below v12.heap.size v12 w')
        (first | exact held22_start bx_12.out by_12.out | exact held22_keep (by assumption) hbq | exact held22_keep (by assumption) hbr | assumption | go_keep)
        (first | (go_at_call 14; refine (toStates_any lim m _ _ (hr0.out.belowS (held22_below (by assumption))) z).mono ?_; rintro e wr8 ⟨ur8, rfl, or8, hbq⟩) | (go_at_call 17; refine (eqStates_same lim m _ _ _ _ _ (hx0.out.belowS (held22_below (by assumption))).rd or8.rd (hx0.out.belowS (held22_below (by assumption))).1 (Nat.le_refl _)).mono ?_; rintro e wr9 ⟨rfl, hbr⟩))
      have hB8 := held22_below (by assumption)
      clear hbq hbr or8
      have bl_13 := bel_trans bl_12 hB8
      have bx_13 := Lib.hid (bx_12.out.keep hB8)
      have bw_13 := Lib.hid (bw_12.out.keep hB8)
      have by_13 := Lib.hid (by_12.out.keep hB8)
      have bg_13 := Lib.hid (bg_12.out.keep hB8)
      have rd_13 := Lib.hid (rd_12.out.belowS hB8)
      have hx_13 := Lib.hid (hx_12.out.belowS hB8)
      have r0_13 := Lib.hid (r0_12.out.belowS hB8)
      have x2_13 := Lib.hid (x2_12.out.belowS hB8)
      have i2_13 := Lib.hid (i2_12.out.belowS hB8)
      have r1_13 := Lib.hid (r1_12.out.belowS hB8)
      have sz_13 := Lib.hid (hB8).size
      clear hx0 hr0
      go_wp2_with fail
      refine (toIntS_any xs _ _ _ hx_13.out (Nat.le_refl _) zn).mono ?_
      rintro e v14 ⟨l4, rfl, r4, hb_14⟩
      have bl_14 := bel_trans bl_13 hb_14
      have bx_14 := Lib.hid (bx_13.out.keep hb_14)
      have bw_14 := Lib.hid (bw_13.out.keep hb_14)
      have by_14 := Lib.hid (by_13.out.keep hb_14)
      have bg_14 := Lib.hid (bg_13.out.keep hb_14)
      have rd_14 := Lib.hid (rd_13.out.belowS hb_14)
      have hx_14 := Lib.hid (hx_13.out.belowS hb_14)
      have r0_14 := Lib.hid (r0_13.out.belowS hb_14)
      have x2_14 := Lib.hid (x2_13.out.belowS hb_14)
      have i2_14 := Lib.hid (i2_13.out.belowS hb_14)
      have r1_14 := Lib.hid (r1_13.out.belowS hb_14)
      have sz_14 := Lib.hid (hb_14).size
      have i4_14 := Lib.hid (r4)
      clear r4
      go_wp2_with fail
      refine (eqInt_same xs l2 l4 _ _ _ i2_14.out i4_14.out).mono ?_
      rintro e q1 ⟨rfl, nd1, rfl⟩
      have bl_15 := bel_drewN bl_14 nd1
      have bx_15 := Lib.hid (bx_14.out.drewN nd1)
      have bw_15 := Lib.hid (bw_14.out.drewN nd1)
      have by_15 := Lib.hid (by_14.out.drewN nd1)
      have bg_15 := Lib.hid (bg_14.out.drewN nd1)
      have rd_15 := Lib.hid (rd_14.out.drewN nd1)
      have hx_15 := Lib.hid (hx_14.out.drewN nd1)
      have r0_15 := Lib.hid (r0_14.out.drewN nd1)
      have x2_15 := Lib.hid (x2_14.out.drewN nd1)
      have i2_15 := Lib.hid (i2_14.out.drewN nd1)
      have r1_15 := Lib.hid (r1_14.out.drewN nd1)
      obtain ⟨by_15_0, by_15_1, by_15_2⟩ := by_15.out
      go_wp2_with fail
      refine (markStates_any lim m _ _ _ 1 _ x2_15.out (by omega) (by omega) hml).mono ?_
      rintro e wm ⟨rfl, _, hoff⟩
      have sz_16 := Lib.hid (hoff).size
      have bl_16 := hoff.bel bl_15 (by have := sz_1.out; have := se_1.out; have := sz_2.out; have := sz_3.out; have := sz_4.out; have := sz_5.out; have := sz_6.out; have := se_6.out; have := sz_7.out; have := sz_8.out; have := se_8.out; have := sz_9.out; have := sz_10.out; have := sz_11.out; have := se_11.out; have := sz_12.out; have := sz_13.out; have := sz_14.out; have := sz_16.out; omega)
      have bx_16 := Lib.hid (bx_15.out.offS hoff (by have := sz_1.out; have := se_1.out; have := sz_2.out; have := sz_3.out; have := sz_4.out; have := sz_5.out; have := sz_6.out; have := se_6.out; have := sz_7.out; have := sz_8.out; have := se_8.out; have := sz_9.out; have := sz_10.out; have := sz_11.out; have := se_11.out; have := sz_12.out; have := sz_13.out; have := sz_14.out; have := sz_16.out; omega))
      have bw_16 := Lib.hid (bw_15.out.offS hoff (by have := sz_1.out; have := se_1.out; have := sz_2.out; have := sz_3.out; have := sz_4.out; have := sz_5.out; have := sz_6.out; have := se_6.out; have := sz_7.out; have := sz_8.out; have := se_8.out; have := sz_9.out; have := sz_10.out; have := sz_11.out; have := se_11.out; have := sz_12.out; have := sz_13.out; have := sz_14.out; have := sz_16.out; omega))
      have bg_16 := Lib.hid (bg_15.out.offS hoff (by have := sz_1.out; have := se_1.out; have := sz_2.out; have := sz_3.out; have := sz_4.out; have := sz_5.out; have := sz_6.out; have := se_6.out; have := sz_7.out; have := sz_8.out; have := se_8.out; have := sz_9.out; have := sz_10.out; have := sz_11.out; have := se_11.out; have := sz_12.out; have := sz_13.out; have := sz_14.out; have := sz_16.out; omega))
      have rd_16 := Lib.hid (rd_0.out.belowS bl_16)
      have hx_16 := Lib.hid (hx_0.out.belowS bl_16)
      have r0_16 := Lib.hid (r0_15.out.offS hoff (by have := sz_1.out; have := se_1.out; have := sz_2.out; have := sz_3.out; have := sz_4.out; have := sz_5.out; have := sz_6.out; have := se_6.out; have := sz_7.out; have := sz_8.out; have := se_8.out; have := sz_9.out; have := sz_10.out; have := sz_11.out; have := se_11.out; have := sz_12.out; have := sz_13.out; have := sz_14.out; have := sz_16.out; omega))
      have i2_16 := Lib.hid (i2_15.out.off hoff (fun k hk => (by have := sz_1.out; have := se_1.out; have := sz_2.out; have := sz_3.out; have := sz_4.out; have := sz_5.out; have := sz_6.out; have := se_6.out; have := sz_7.out; have := sz_8.out; have := se_8.out; have := sz_9.out; have := sz_10.out; have := sz_11.out; have := se_11.out; have := sz_12.out; have := sz_13.out; have := sz_14.out; have := sz_16.out; have := I2lt.out k hk; omega)))
      have r1_16 := Lib.hid (r1_15.out.offS hoff (by have := sz_1.out; have := se_1.out; have := sz_2.out; have := sz_3.out; have := sz_4.out; have := sz_5.out; have := sz_6.out; have := se_6.out; have := sz_7.out; have := sz_8.out; have := se_8.out; have := sz_9.out; have := sz_10.out; have := sz_11.out; have := se_11.out; have := sz_12.out; have := sz_13.out; have := sz_14.out; have := sz_16.out; omega))
      have t0 : decide ((1 : Int) + (offM m m.length : Int) < 0) = false := by simp; omega
      go_wp2_with fail
      refine (mark_any xs l2 _ (1 + (offM m m.length : Int)) _ i2_16.out (by omega) (by omega)).mono ?_
      rintro e wi ⟨rfl, _, hgi⟩
      have sz_17 := Lib.hid (hgi).size
      have bl_17 : Below w.heap.size w wi := (Off.grown hgi (fun k hk => I2lt.out k hk)).bel bl_16 (by have := sz_1.out; have := se_1.out; have := sz_2.out; have := sz_3.out; have := sz_4.out; have := sz_5.out; have := sz_6.out; have := se_6.out; have := sz_7.out; have := sz_8.out; have := se_8.out; have := sz_9.out; have := sz_10.out; have := sz_11.out; have := se_11.out; have := sz_12.out; have := sz_13.out; have := sz_14.out; have := sz_16.out; have := sz_17.out; omega)
      have bx_17 := Lib.hid (bx_16.out.grownS hgi (fun k hk => (by have := sz_1.out; have := se_1.out; have := sz_2.out; have := sz_3.out; have := sz_4.out; have := sz_5.out; have := sz_6.out; have := se_6.out; have := sz_7.out; have := sz_8.out; have := se_8.out; have := sz_9.out; have := sz_10.out; have := sz_11.out; have := se_11.out; have := sz_12.out; have := sz_13.out; have := sz_14.out; have := sz_16.out; have := sz_17.out; have := I2lt.out k hk; omega)))
      have bw_17 := Lib.hid (bw_16.out.grownS hgi (fun k hk => (by have := sz_1.out; have := se_1.out; have := sz_2.out; have := sz_3.out; have := sz_4.out; have := sz_5.out; have := sz_6.out; have := se_6.out; have := sz_7.out; have := sz_8.out; have := se_8.out; have := sz_9.out; have := sz_10.out; have := sz_11.out; have := se_11.out; have := sz_12.out; have := sz_13.out; have := sz_14.out; have := sz_16.out; have := sz_17.out; have := I2lt.out k hk; omega)))
      have bg_17 := Lib.hid (bg_16.out.grownS hgi (fun k hk => (by have := sz_1.out; have := se_1.out; have := sz_2.out; have := sz_3.out; have := sz_4.out; have := sz_5.out; have := sz_6.out; have := se_6.out; have := sz_7.out; have := sz_8.out; have := se_8.out; have := sz_9.out; have := sz_10.out; have := sz_11.out; have := se_11.out; have := sz_12.out; have := sz_13.out; have := sz_14.out; have := sz_16.out; have := sz_17.out; have := I2lt.out k hk; omega)))
      have rd_17 := Lib.hid (rd_0.out.belowS bl_17)
      have hx_17 := Lib.hid (hx_0.out.belowS bl_17)
      have r0_17 := Lib.hid (r0_16.out.grownS hgi (fun k hk => (by have := sz_1.out; have := se_1.out; have := sz_2.out; have := sz_3.out; have := sz_4.out; have := sz_5.out; have := sz_6.out; have := se_6.out; have := sz_7.out; have := sz_8.out; have := se_8.out; have := sz_9.out; have := sz_10.out; have := sz_11.out; have := se_11.out; have := sz_12.out; have := sz_13.out; have := sz_14.out; have := sz_16.out; have := sz_17.out; have := I2lt.out k hk; omega)))
      have r1_17 := Lib.hid (r1_16.out.grownS hgi (fun k hk => (by have := sz_1.out; have := se_1.out; have := sz_2.out; have := sz_3.out; have := sz_4.out; have := sz_5.out; have := sz_6.out; have := se_6.out; have := sz_7.out; have := sz_8.out; have := se_8.out; have := sz_9.out; have := sz_10.out; have := sz_11.out; have := se_11.out; have := sz_12.out; have := sz_13.out; have := sz_14.out; have := sz_16.out; have := sz_17.out; have := I2lt.out k hk; omega)))
      have t1 : decide ((1 : Int) + (offM m m.length : Int) + (xs.length : Int) < 0) = false := by simp; omega
      obtain ⟨bg_17_0, bg_17_1, bg_17_2⟩ := bg_17.out
      obtain ⟨bw_17_0, bw_17_1, bw_17_2⟩ := bw_17.out
      go_wp2_with fail
      refine (eqStates_same l mm _ _ _ _ _ r1_17.out.rd r0_17.out.rd r1_17.out.1 r0_17.out.1).mono ?_
      rintro e v18 ⟨rfl, hb_18⟩
      have bl_18 := bel_trans bl_17 hb_18
      have bx_18 := Lib.hid (bx_17.out.keep hb_18)
      have bw_18 := Lib.hid (bw_17.out.keep hb_18)
      have bg_18 := Lib.hid (bg_17.out.keep hb_18)
      have rd_18 := Lib.hid (rd_17.out.belowS hb_18)
      have hx_18 := Lib.hid (hx_17.out.belowS hb_18)
      have r0_18 := Lib.hid (r0_17.out.belowS hb_18)
      have r1_18 := Lib.hid (r1_17.out.belowS hb_18)
      have sz_18 := Lib.hid (hb_18).size
      obtain ⟨bg_18_0, bg_18_1, bg_18_2⟩ := bg_18.out
      go_wp2_with fail
      refine (markStates_any l mm _ _ _ 1 _ r1_18.out (by omega) (by omega) (by omega)).mono ?_
      rintro e wg ⟨rfl, om, hog⟩
      have sz_19 := Lib.hid (hog).size
      have bl_19 := hog.bel bl_18 (by have := sz_1.out; have := se_1.out; have := sz_2.out; have := sz_3.out; have := sz_4.out; have := sz_5.out; have := sz_6.out; have := se_6.out; have := sz_7.out; have := sz_8.out; have := se_8.out; have := sz_9.out; have := sz_10.out; have := sz_11.out; have := se_11.out; have := sz_12.out; have := sz_13.out; have := sz_14.out; have := sz_16.out; have := sz_17.out; have := sz_18.out; have := sz_19.out; omega)
      have bx_19 := Lib.hid (bx_18.out.offS hog (by have := sz_1.out; have := se_1.out; have := sz_2.out; have := sz_3.out; have := sz_4.out; have := sz_5.out; have := sz_6.out; have := se_6.out; have := sz_7.out; have := sz_8.out; have := se_8.out; have := sz_9.out; have := sz_10.out; have := sz_11.out; have := se_11.out; have := sz_12.out; have := sz_13.out; have := sz_14.out; have := sz_16.out; have := sz_17.out; have := sz_18.out; have := sz_19.out; omega))
      have bw_19 := Lib.hid (bw_18.out.offS hog (by have := sz_1.out; have := se_1.out; have := sz_2.out; have := sz_3.out; have := sz_4.out; have := sz_5.out; have := sz_6.out; have := se_6.out; have := sz_7.out; have := sz_8.out; have := se_8.out; have := sz_9.out; have := sz_10.out; have := sz_11.out; have := se_11.out; have := sz_12.out; have := sz_13.out; have := sz_14.out; have := sz_16.out; have := sz_17.out; have := sz_18.out; have := sz_19.out; omega))
      have bg_19 := Lib.hid (bg_18.out.offS hog (by have := sz_1.out; have := se_1.out; have := sz_2.out; have := sz_3.out; have := sz_4.out; have := sz_5.out; have := sz_6.out; have := se_6.out; have := sz_7.out; have := sz_8.out; have := se_8.out; have := sz_9.out; have := sz_10.out; have := sz_11.out; have := se_11.out; have := sz_12.out; have := sz_13.out; have := sz_14.out; have := sz_16.out; have := sz_17.out; have := sz_18.out; have := sz_19.out; omega))
      have rd_19 := Lib.hid (rd_0.out.belowS bl_19)
      have hx_19 := Lib.hid (hx_0.out.belowS bl_19)
      have r0_19 := Lib.hid (r0_18.out.offS hog (by have := sz_1.out; have := se_1.out; have := sz_2.out; have := sz_3.out; have := sz_4.out; have := sz_5.out; have := sz_6.out; have := se_6.out; have := sz_7.out; have := sz_8.out; have := se_8.out; have := sz_9.out; have := sz_10.out; have := sz_11.out; have := se_11.out; have := sz_12.out; have := sz_13.out; have := sz_14.out; have := sz_16.out; have := sz_17.out; have := sz_18.out; have := sz_19.out; omega))
      have t2 : decide ((1 : Int) + (offM mm mm.length : Int) < 0) = false := by simp; omega
      have om_19 := Lib.hid (om)
      clear om
      obtain ⟨bg_19_0, bg_19_1, bg_19_2⟩ := bg_19.out
      go_wp2_with fail
      refine (heldStates_any l mm _ _ _ 1 _ om_19.out (by omega) (by omega) (by omega)).mono ?_
      rintro e v20 ⟨rfl, hb_20⟩
      have bl_20 := bel_trans bl_19 hb_20
      have bx_20 := Lib.hid (bx_19.out.keep hb_20)
      have bw_20 := Lib.hid (bw_19.out.keep hb_20)
      have bg_20 := Lib.hid (bg_19.out.keep hb_20)
      have rd_20 := Lib.hid (rd_19.out.belowS hb_20)
      have hx_20 := Lib.hid (hx_19.out.belowS hb_20)
      have r0_20 := Lib.hid (r0_19.out.belowS hb_20)
      have om_20 := Lib.hid (om_19.out.belowS hb_20)
      have sz_20 := Lib.hid (hb_20).size
      obtain ⟨bx_20_0, bx_20_1, bx_20_2⟩ := bx_20.out
      go_wp2_with fail
      refine (toStates_any lim m _ _ rd_20.out z).mono ?_
      rintro e v21 ⟨u3, rfl, o3, hb_21⟩
      have bl_21 := bel_trans bl_20 hb_21
      have bx_21 := Lib.hid (bx_20.out.keep hb_21)
      have bw_21 := Lib.hid (bw_20.out.keep hb_21)
      have bg_21 := Lib.hid (bg_20.out.keep hb_21)
      have rd_21 := Lib.hid (rd_20.out.belowS hb_21)
      have hx_21 := Lib.hid (hx_20.out.belowS hb_21)
      have r0_21 := Lib.hid (r0_20.out.belowS hb_21)
      have om_21 := Lib.hid (om_20.out.belowS hb_21)
      have sz_21 := Lib.hid (hb_21).size
      obtain ⟨A3, cap3, rfl, _⟩ := o3.formS
      have x3_21 := Lib.hid (o3)
      clear o3
      go_wp2_with fail
      refine (toIntS_any xs _ _ _ hx_21.out (Nat.le_refl _) zn).mono ?_
      rintro e v22 ⟨l3, rfl, r3, hb_22⟩
      have bl_22 := bel_trans bl_21 hb_22
      have bx_22 := Lib.hid (bx_21.out.keep hb_22)
      have bw_22 := Lib.hid (bw_21.out.keep hb_22)
      have bg_22 := Lib.hid (bg_21.out.keep hb_22)
      have rd_22 := Lib.hid (rd_21.out.belowS hb_22)
      have hx_22 := Lib.hid (hx_21.out.belowS hb_22)
      have r0_22 := Lib.hid (r0_21.out.belowS hb_22)
      have om_22 := Lib.hid (om_21.out.belowS hb_22)
      have x3_22 := Lib.hid (x3_21.out.belowS hb_22)
      have sz_22 := Lib.hid (hb_22).size
      have i3_22 := Lib.hid (r3)
      clear r3
      go_wp2_with fail
      refine (implRn_any lim m _ _ xs _ _ _ x3_22.out.rd x3_22.out.1 i3_22.out.rd (Nat.le_refl _) zn).mono ?_
      rw [Hl.out, Hmm.out, Hok.out]
      rintro e v23 ⟨h0, rfl, qr2, hb_23⟩
      have bl_23 := bel_trans bl_22 hb_23
      have bx_23 := Lib.hid (bx_22.out.keep hb_23)
      have bw_23 := Lib.hid (bw_22.out.keep hb_23)
      have bg_23 := Lib.hid (bg_22.out.keep hb_23)
      have rd_23 := Lib.hid (rd_22.out.belowS hb_23)
      have hx_23 := Lib.hid (hx_22.out.belowS hb_23)
      have r0_23 := Lib.hid (r0_22.out.belowS hb_23)
      have om_23 := Lib.hid (om_22.out.belowS hb_23)
      have x3_23 := Lib.hid (x3_22.out.belowS hb_23)
      have i3_23 := Lib.hid (i3_22.out.belowS hb_23)
      have sz_23 := Lib.hid (hb_23).size
      obtain ⟨Ah0, caph0, rfl, _⟩ := qr2.formS
      have r2_23 := Lib.hid (qr2)
      clear qr2
      have hb_24 := bel_alloc (Below.refl _ v23) (.cells #[.int .i64 l, .slice Ah0 mm.length caph0] 47)
      have bl_24 := bel_trans bl_23 hb_24
      have bx_24 := Lib.hid (bx_23.out.keep hb_24)
      have bw_24 := Lib.hid (bw_23.out.keep hb_24)
      have bg_24 := Lib.hid (bg_23.out.keep hb_24)
      have rd_24 := Lib.hid (rd_23.out.belowS hb_24)
      have hx_24 := Lib.hid (hx_23.out.belowS hb_24)
      have r0_24 := Lib.hid (r0_23.out.belowS hb_24)
      have om_24 := Lib.hid (om_23.out.belowS hb_24)
      have x3_24 := Lib.hid (x3_23.out.belowS hb_24)
      have i3_24 := Lib.hid (i3_23.out.belowS hb_24)
      have r2_24 := Lib.hid (r2_23.out.belowS hb_24)
      have sz_24 := Lib.hid (hb_24).size
      have bh_24 := Lib.hid (Box2.new v23 (.int .i64 l) (.slice Ah0 mm.length caph0) 47)
      have se_24 := Lib.hid (size1 v23 (.cells #[.int .i64 l, .slice Ah0 mm.length caph0] 47))
      obtain ⟨bh_24_0, bh_24_1, bh_24_2⟩ := bh_24.out
      obtain ⟨bw_24_0, bw_24_1, bw_24_2⟩ := bw_24.out
      go_wp2_with fail
      refine (eqStates_same l mm _ _ _ _ _ r2_24.out.rd r0_24.out.rd r2_24.out.1 r0_24.out.1).mono ?_
      rintro e v25 ⟨rfl, hb_25⟩
      have bl_25 := bel_trans bl_24 hb_25
      have bx_25 := Lib.hid (bx_24.out.keep hb_25)
      have bw_25 := Lib.hid (bw_24.out.keep hb_25)
      have bg_25 := Lib.hid (bg_24.out.keep hb_25)
      have bh_25 := Lib.hid (bh_24.out.keep hb_25)
      have rd_25 := Lib.hid (rd_24.out.belowS hb_25)
      have hx_25 := Lib.hid (hx_24.out.belowS hb_25)
      have r0_25 := Lib.hid (r0_24.out.belowS hb_25)
      have om_25 := Lib.hid (om_24.out.belowS hb_25)
      have x3_25 := Lib.hid (x3_24.out.belowS hb_25)
      have i3_25 := Lib.hid (i3_24.out.belowS hb_25)
      have r2_25 := Lib.hid (r2_24.out.belowS hb_25)
      have sz_25 := Lib.hid (hb_25).size
      obtain ⟨bg_25_0, bg_25_1, bg_25_2⟩ := bg_25.out
      go_wp2_with fail
      refine (heldStates_any l mm _ _ _ 1 _ om_25.out (by omega) (by omega) (by omega)).mono ?_
      rintro e v26 ⟨rfl, hb_26⟩
      have bl_26 := bel_trans bl_25 hb_26
      have bx_26 := Lib.hid (bx_25.out.keep hb_26)
      have bw_26 := Lib.hid (bw_25.out.keep hb_26)
      have bg_26 := Lib.hid (bg_25.out.keep hb_26)
      have bh_26 := Lib.hid (bh_25.out.keep hb_26)
      have rd_26 := Lib.hid (rd_25.out.belowS hb_26)
      have hx_26 := Lib.hid (hx_25.out.belowS hb_26)
      have r0_26 := Lib.hid (r0_25.out.belowS hb_26)
      have om_26 := Lib.hid (om_25.out.belowS hb_26)
      have x3_26 := Lib.hid (x3_25.out.belowS hb_26)
      have i3_26 := Lib.hid (i3_25.out.belowS hb_26)
      have r2_26 := Lib.hid (r2_25.out.belowS hb_26)
      have sz_26 := Lib.hid (hb_26).size
      have hend := bl_26
      go_wp2_with fail
      go_ret
      exact ⟨rfl, hend⟩
    · go_enter Try.func5, Try.ntmps5
      go_wp2_with fail
      refine (szStates_no lim m _ _ (rd_0.out.belowS (bel_alloc (Below.refl _ w) _)) z).mono ?_
      rintro e w2 ⟨rfl, b2⟩
      go_wp2
      go_ret
      exact ⟨rfl, bel_trans (bel_alloc (Below.refl _ w) _) b2⟩
  · go_enter Try.func5, Try.ntmps5
    go_wp2
    go_ret
    exact ⟨rfl, bel_alloc (Below.refl _ w) _⟩
end Go.Proofs.Ytcfafgdgmkiibaa
