/- The law of AddClue: its walk. -/
import Derived.Test.YtggflgmjncjmbaaPzAd
namespace Go.Proofs.Ytggflgmjncjmbaa
open Go.ChangeShapes Go.WideShapes Go.ChangeAt Go.RowKit
set_option linter.unusedVariables false
set_option linter.unusedSimpArgs false

theorem h2c_mk {W0 V : World} {P C : Nat} {x y p q r : Value} (hp : Box2 W0 P x y) (hc : Box3 W0 C p q r) (hb : Below W0.heap.size W0 V) :
    V.cell? ⟨P, 0, none⟩ = some x ∧ V.cell? ⟨P, 1, none⟩ = some y ∧ P < V.heap.size ∧ V.cell? ⟨C, 0, none⟩ = some p ∧ V.cell? ⟨C, 1, none⟩ = some q ∧ V.cell? ⟨C, 2, none⟩ = some r ∧ C < V.heap.size ∧ Below W0.heap.size W0 V :=
  ⟨(hp.keep hb).1, (hp.keep hb).2.1, (hp.keep hb).2.2, (hc.keep hb).1, (hc.keep hb).2.1, (hc.keep hb).2.2.1, (hc.keep hb).2.2.2, hb⟩
theorem h2c_below {W0 V : World} {P C : Nat} {x y p q r : Value} (h : V.cell? ⟨P, 0, none⟩ = some x ∧ V.cell? ⟨P, 1, none⟩ = some y ∧ P < V.heap.size ∧ V.cell? ⟨C, 0, none⟩ = some p ∧ V.cell? ⟨C, 1, none⟩ = some q ∧ V.cell? ⟨C, 2, none⟩ = some r ∧ C < V.heap.size ∧ Below W0.heap.size W0 V) : Below W0.heap.size W0 V := h.2.2.2.2.2.2.2
theorem h2c_res {W0 V : World} {P C : Nat} {x y p q r : Value} (hp : Box2 W0 P x y) (hc : Box3 W0 C p q r) (hb : Below W0.heap.size W0 V) (n : Nat) (hn : W0.heap.size ≤ n) (a b : Value) :
    let U := (V.setCell ⟨n, 0, none⟩ a).setCell ⟨n, 1, none⟩ b
    U.cell? ⟨P, 0, none⟩ = some x ∧ U.cell? ⟨P, 1, none⟩ = some y ∧ P < U.heap.size ∧ U.cell? ⟨C, 0, none⟩ = some p ∧ U.cell? ⟨C, 1, none⟩ = some q ∧ U.cell? ⟨C, 2, none⟩ = some r ∧ C < U.heap.size ∧ Below W0.heap.size W0 U :=
  h2c_mk hp hc ((hb.setCell (p := ⟨n, 0, none⟩) hn a).setCell (p := ⟨n, 1, none⟩) hn b)
set_option maxRecDepth 100000 in
set_option maxHeartbeats 12800000 in
theorem walkExactAddClue (oo : Int) (m : List Tri) (v : Value) (ck ca cb : Int) (w : World) (wo : (Lit.int .i64 oo).wf = true) (h : RdT w w.heap.size v m) (wk : (Lit.int .i64 ck).wf = true) (wa : (Lit.int .i64 ca).wf = true) (wb : (Lit.int .i64 cb).wf = true) :
    Calls Try.prog 12 #[pz oo v, chn ck ca cb] w fun e w' => e = .returned (.bool true) ∧ Below w.heap.size w w' := by
  obtain ⟨A0, cap0, rfl, l0, m0⟩ := h.form
  clear l0 m0 wo wk wa wb
  have rd_0 := Lib.hid (show RdTS w (.slice A0 m.length cap0) m from h)
  clear h
  by_cases z : m.length ≤ 1048576
  · skip
    have hlen : (adL oo m ck ca cb).length ≤ 1000 := adL_len oo m ck ca cb
    have hS := fun (v : Value) (W : World) (hz : m.length ≤ 1048576) (hr : RdT W W.heap.size v m) => specAdd_any oo m v _ ck ca cb W hr (Nat.le_refl _) hz
    have hI := fun (v : Value) (W : World) (hz : m.length ≤ 1048576) (hr : RdT W W.heap.size v m) => implAdd_any oo m v _ ck ca cb W hr (Nat.le_refl _) hz
    generalize hxs : adL oo m ck ca cb = xs at *
    clear hxs
    generalize hro : adO oo m ck ca cb = ro at *
    clear hro
    generalize hok : adG oo m ck ca cb = ok at *
    clear hok
    have hb_1 := bel_alloc (Below.refl _ w) (.cells #[.int .i64 oo, .slice A0 m.length cap0] 24)
    have bl_1 := bel_trans (Below.refl _ w) hb_1
    have rd_1 := Lib.hid (rd_0.out.belowS hb_1)
    have sz_1 := Lib.hid (hb_1).size
    have bx_1 := Lib.hid (Box2.new w (.int .i64 oo) (.slice A0 m.length cap0) 24)
    have se_1 := Lib.hid (size1 w (.cells #[.int .i64 oo, .slice A0 m.length cap0] 24))
    have hb_2 := bel_alloc (Below.refl _ (w.alloc (.cells #[.int .i64 oo, .slice A0 m.length cap0] 24))) (.cells #[.int .i64 ck, .int .i64 ca, .int .i64 cb] 34)
    have bl_2 := bel_trans bl_1 hb_2
    have bx_2 := Lib.hid (bx_1.out.keep hb_2)
    have rd_2 := Lib.hid (rd_1.out.belowS hb_2)
    have sz_2 := Lib.hid (hb_2).size
    have bc_2 := Lib.hid (Box3.new (w.alloc (.cells #[.int .i64 oo, .slice A0 m.length cap0] 24)) (.int .i64 ck) (.int .i64 ca) (.int .i64 cb) 34)
    have se_2 := Lib.hid (size1 (w.alloc (.cells #[.int .i64 oo, .slice A0 m.length cap0] 24)) (.cells #[.int .i64 ck, .int .i64 ca, .int .i64 cb] 34))
    obtain ⟨bx_2_0, bx_2_1, bx_2_2⟩ := bx_2.out
    go_enter Try.func12, Try.ntmps12
    go_wp2_with fail
    refine (szPz_yes oo m _ _ rd_2.out z).mono ?_
    rintro e v3 ⟨rfl, hb_3⟩
    have bl_3 := bel_trans bl_2 hb_3
    have bx_3 := Lib.hid (bx_2.out.keep hb_3)
    have bc_3 := Lib.hid (bc_2.out.keep hb_3)
    have rd_3 := Lib.hid (rd_2.out.belowS hb_3)
    have sz_3 := Lib.hid (hb_3).size
    have hz : 0 ≤ 1048576 - (m.length : Int) := by omega
    generalize 1048576 - (m.length : Int) = left at *
    go_wp2_with fail
    rename_i K5 hK5
    have main5 : ∀ (y0 y1 y8 y9 y10 y11 y12 y13 y14 y15 y16 y17 y18 y19 y20 y21 y22 y23 y24 y25 y26 y27 y28 y29 y30 y31 y32 y33 y34 y35 y36 y37 y38 y39 y40 y41 y42 y43 y44 y45 y46 y47 y48 y49 y50 y51 y52 y53 y54 y55 y56 y57 y58 y59 y60 y61 y62 y63 y64 y65 y66 y67 y68 y69 y70 y71 y72 y73 y74 y75 y76 y77 y78 y79 y80 y81 y82 y83 y84 y85 y86 y87 y88 y89 y90 y91 y92 y93 y94 y95 y96 y97 y98 y99 y100 y101 y102 y103 : Value) (X5 : World) (n5 : Nat) (Au0 : Option Addr) (capu0 : Nat), Below v3.heap.size v3 X5 → Hid (Box2 X5 n5 (.int .i64 ro) (.slice Au0 xs.length capu0)) → Hid (TRow 39 X5 v3.heap.size (.slice Au0 xs.length capu0) xs) → Hid (∀ k, Value.ownBlock (.slice Au0 xs.length capu0) = some k → k ≠ n5) → v3.heap.size ≤ n5 → K5 { tmps := #[y0, y1, .pointer (some ⟨w.heap.size, 0, none⟩), .pointer (some ⟨w.heap.size + 1, 0, none⟩), .bool false, .int .i64 left, .pointer (some ⟨n5, 0, none⟩), .bool ok, y8, y9, y10, y11, y12, y13, y14, y15, y16, y17, y18, y19, y20, y21, y22, y23, y24, y25, y26, y27, y28, y29, y30, y31, y32, y33, y34, y35, y36, y37, y38, y39, y40, y41, y42, y43, y44, y45, y46, y47, y48, y49, y50, y51, y52, y53, y54, y55, y56, y57, y58, y59, y60, y61, y62, y63, y64, y65, y66, y67, y68, y69, y70, y71, y72, y73, y74, y75, y76, y77, y78, y79, y80, y81, y82, y83, y84, y85, y86, y87, y88, y89, y90, y91, y92, y93, y94, y95, y96, y97, y98, y99, y100, y101, y102, y103], defers := [] } X5 := by
      intro y0 y1 y8 y9 y10 y11 y12 y13 y14 y15 y16 y17 y18 y19 y20 y21 y22 y23 y24 y25 y26 y27 y28 y29 y30 y31 y32 y33 y34 y35 y36 y37 y38 y39 y40 y41 y42 y43 y44 y45 y46 y47 y48 y49 y50 y51 y52 y53 y54 y55 y56 y57 y58 y59 y60 y61 y62 y63 y64 y65 y66 y67 y68 y69 y70 y71 y72 y73 y74 y75 y76 y77 y78 y79 y80 y81 y82 y83 y84 y85 y86 y87 y88 y89 y90 y91 y92 y93 y94 y95 y96 y97 y98 y99 y100 y101 y102 y103 X5 n5 Au0 capu0 hbX hbx5 hrX hneX hnX
      refine hK5 _ _ ?_
      have bl_4 := bel_trans bl_3 hbX
      have bx_4 := Lib.hid (bx_3.out.keep hbX)
      have bc_4 := Lib.hid (bc_3.out.keep hbX)
      have rd_4 := Lib.hid (rd_3.out.belowS hbX)
      have sz_4 := Lib.hid (hbX).size
      have bw_4 := hbx5
      have r0_4 := hrX
      have sb_5 := Lib.hid hbx5.out.2.2
      have sc_5 := Lib.hid hnX
      have r0lt := Lib.hid (fun k hk => And.intro (World.ownsRow.lt hrX.out k hk) (hneX.out k hk))
      obtain ⟨bx_4_0, bx_4_1, bx_4_2⟩ := bx_4.out
      obtain ⟨bc_4_0, bc_4_1, bc_4_2, bc_4_3⟩ := bc_4.out
      go_wp2_with fail
      refine (toPz_any oo m _ _ rd_4.out z).mono ?_
      rintro e x5 ⟨u2, rfl, o2, hb_5⟩
      have bl_5 := bel_trans bl_4 hb_5
      have bx_5 := Lib.hid (bx_4.out.keep hb_5)
      have bc_5 := Lib.hid (bc_4.out.keep hb_5)
      have bw_5 := Lib.hid (bw_4.out.keep hb_5)
      have rd_5 := Lib.hid (rd_4.out.belowS hb_5)
      have r0_5 := Lib.hid (r0_4.out.belowS hb_5)
      have sz_5 := Lib.hid (hb_5).size
      obtain ⟨A2, cap2, rfl, _⟩ := o2.formS
      have rx2_5 := Lib.hid ((show RdTS x5 _ m from o2.rd))
      have ow_5 := Lib.hid (o2)
      have OWlt := Lib.hid (fun k hk => World.ownsRow.lt o2 k hk)
      clear o2
      have hb_6 := bel_alloc (Below.refl _ x5) (.cells #[.int .i64 oo, .slice A2 m.length cap2] 29)
      have bl_6 := bel_trans bl_5 hb_6
      have bx_6 := Lib.hid (bx_5.out.keep hb_6)
      have bc_6 := Lib.hid (bc_5.out.keep hb_6)
      have bw_6 := Lib.hid (bw_5.out.keep hb_6)
      have rd_6 := Lib.hid (rd_5.out.belowS hb_6)
      have r0_6 := Lib.hid (r0_5.out.belowS hb_6)
      have rx2_6 := Lib.hid (rx2_5.out.belowS hb_6)
      have ow_6 := Lib.hid (ow_5.out.belowS hb_6)
      have sz_6 := Lib.hid (hb_6).size
      have by_6 := Lib.hid (Box2.new x5 (.int .i64 oo) (.slice A2 m.length cap2) 29)
      have se_6 := Lib.hid (size1 x5 (.cells #[.int .i64 oo, .slice A2 m.length cap2] 29))
      obtain ⟨bx_6_0, bx_6_1, bx_6_2⟩ := bx_6.out
      obtain ⟨bc_6_0, bc_6_1, bc_6_2, bc_6_3⟩ := bc_6.out
      obtain ⟨by_6_0, by_6_1, by_6_2⟩ := by_6.out
      go_wp2_with fail
      rename_i K7 hK7
      have main7 : ∀ (y0 y1 y11 y12 y13 y14 y15 y16 y17 y18 y19 y20 y21 y22 y23 y24 y25 y26 y27 y28 y29 y30 y31 y32 y33 y34 y35 y36 y37 y38 y39 y40 y41 y42 y43 y44 y45 y46 y47 y48 y49 y50 y51 y52 y53 y54 y55 y56 y57 y58 y59 y60 y61 y62 y63 y64 y65 y66 y67 y68 y69 y70 y71 y72 y73 y74 y75 y76 y77 y78 y79 y80 y81 y82 y83 y84 y85 y86 y87 y88 y89 y90 y91 y92 y93 y94 y95 y96 y97 y98 y99 y100 y101 y102 y103 : Value) (X7 : World) (n7 : Nat) (Ag0 : Option Addr) (capg0 : Nat), Below (x5.alloc (.cells #[.int .i64 oo, .slice A2 m.length cap2] 29)).heap.size (x5.alloc (.cells #[.int .i64 oo, .slice A2 m.length cap2] 29)) X7 → Hid (Box2 X7 n7 (.int .i64 ro) (.slice Ag0 xs.length capg0)) → Hid (TRow 39 X7 (x5.alloc (.cells #[.int .i64 oo, .slice A2 m.length cap2] 29)).heap.size (.slice Ag0 xs.length capg0) xs) → Hid (∀ k, Value.ownBlock (.slice Ag0 xs.length capg0) = some k → k ≠ n7) → (x5.alloc (.cells #[.int .i64 oo, .slice A2 m.length cap2] 29)).heap.size ≤ n7 → K7 { tmps := #[y0, y1, .pointer (some ⟨w.heap.size, 0, none⟩), .pointer (some ⟨w.heap.size + 1, 0, none⟩), .bool false, .int .i64 left, .pointer (some ⟨n5, 0, none⟩), .bool ok, .pointer (some ⟨x5.heap.size, 0, none⟩), .pointer (some ⟨n7, 0, none⟩), .bool ok, y11, y12, y13, y14, y15, y16, y17, y18, y19, y20, y21, y22, y23, y24, y25, y26, y27, y28, y29, y30, y31, y32, y33, y34, y35, y36, y37, y38, y39, y40, y41, y42, y43, y44, y45, y46, y47, y48, y49, y50, y51, y52, y53, y54, y55, y56, y57, y58, y59, y60, y61, y62, y63, y64, y65, y66, y67, y68, y69, y70, y71, y72, y73, y74, y75, y76, y77, y78, y79, y80, y81, y82, y83, y84, y85, y86, y87, y88, y89, y90, y91, y92, y93, y94, y95, y96, y97, y98, y99, y100, y101, y102, y103], defers := [] } X7 := by
        intro y0 y1 y11 y12 y13 y14 y15 y16 y17 y18 y19 y20 y21 y22 y23 y24 y25 y26 y27 y28 y29 y30 y31 y32 y33 y34 y35 y36 y37 y38 y39 y40 y41 y42 y43 y44 y45 y46 y47 y48 y49 y50 y51 y52 y53 y54 y55 y56 y57 y58 y59 y60 y61 y62 y63 y64 y65 y66 y67 y68 y69 y70 y71 y72 y73 y74 y75 y76 y77 y78 y79 y80 y81 y82 y83 y84 y85 y86 y87 y88 y89 y90 y91 y92 y93 y94 y95 y96 y97 y98 y99 y100 y101 y102 y103 X7 n7 Ag0 capg0 hbX hbx7 hrX hneX hnX
        refine hK7 _ _ ?_
        have bl_7 := bel_trans bl_6 hbX
        have bx_7 := Lib.hid (bx_6.out.keep hbX)
        have bc_7 := Lib.hid (bc_6.out.keep hbX)
        have bw_7 := Lib.hid (bw_6.out.keep hbX)
        have by_7 := Lib.hid (by_6.out.keep hbX)
        have rd_7 := Lib.hid (rd_6.out.belowS hbX)
        have r0_7 := Lib.hid (r0_6.out.belowS hbX)
        have rx2_7 := Lib.hid (rx2_6.out.belowS hbX)
        have ow_7 := Lib.hid (ow_6.out.belowS hbX)
        have sz_7 := Lib.hid (hbX).size
        have bg_7 := hbx7
        have r1_7 := hrX
        have sb_7 := Lib.hid hbx7.out.2.2
        have sc_7 := Lib.hid hnX
        have r1lt := Lib.hid (fun k hk => And.intro (World.ownsRow.lt hrX.out k hk) (hneX.out k hk))
        obtain ⟨bx_7_0, bx_7_1, bx_7_2⟩ := bx_7.out
        obtain ⟨by_7_0, by_7_1, by_7_2⟩ := by_7.out
        obtain ⟨bw_7_0, bw_7_1, bw_7_2⟩ := bw_7.out
        obtain ⟨bg_7_0, bg_7_1, bg_7_2⟩ := bg_7.out
        go_wp2_with fail
        refine (eqPuzzle_same ro xs (.slice Ag0 xs.length capg0) (.slice Au0 xs.length capu0) _ _ _ (r1_7.out.rd) (r0_7.out.rd) (Nat.le_refl _) (Nat.le_refl _)).mono ?_
        rintro e q1g0 ⟨rfl, hq_1g0⟩
        have bl_8 := bel_trans bl_7 hq_1g0
        have bx_8 := Lib.hid (bx_7.out.keep hq_1g0)
        have bc_8 := Lib.hid (bc_7.out.keep hq_1g0)
        have bw_8 := Lib.hid (bw_7.out.keep hq_1g0)
        have by_8 := Lib.hid (by_7.out.keep hq_1g0)
        have bg_8 := Lib.hid (bg_7.out.keep hq_1g0)
        have rd_8 := Lib.hid (rd_7.out.belowS hq_1g0)
        have r0_8 := Lib.hid (r0_7.out.belowS hq_1g0)
        have rx2_8 := Lib.hid (rx2_7.out.belowS hq_1g0)
        have ow_8 := Lib.hid (ow_7.out.belowS hq_1g0)
        have r1_8 := Lib.hid (r1_7.out.belowS hq_1g0)
        have sz_8 := Lib.hid (hq_1g0).size
        obtain ⟨bx_8_0, bx_8_1, bx_8_2⟩ := bx_8.out
        obtain ⟨by_8_0, by_8_1, by_8_2⟩ := by_8.out
        have hx0 := rx2_8
        have hr0 := rd_8
        go_wp2_with fail
        go_region_held3 (fun w' => w'.cell? ⟨w.heap.size, 0, none⟩ = some (.int .i64 oo) ∧ w'.cell? ⟨w.heap.size, 1, none⟩ = some (.slice A0 m.length cap0) ∧ w.heap.size < w'.heap.size ∧ w'.cell? ⟨x5.heap.size, 0, none⟩ = some (.int .i64 oo) ∧ w'.cell? ⟨x5.heap.size, 1, none⟩ = some (.slice A2 m.length cap2) ∧ x5.heap.size < w'.heap.size ∧ Below q1g0.heap.size q1g0 w')
          (first | exact held22_start bx_8.out by_8.out | exact held22_keep (by assumption) hbq | exact held22_keep (by assumption) hbr | assumption | go_keep)
          (first | (go_at_call 19; refine (toPz_any oo m _ _ (hr0.out.belowS (held22_below (by assumption))) z).mono ?_; rintro e wr8 ⟨ur8, rfl, or8, hbq⟩) | (go_at_call 21; refine (eqPuzzle_same oo m _ _ _ _ _ (hx0.out.belowS (held22_below (by assumption))) or8.rd (Nat.le_refl _) (Nat.le_refl _)).mono ?_; rintro e wr9 ⟨rfl, hbr⟩))
        have hB8 := held22_below (by assumption)
        clear hbq hbr or8
        have bl_9 := bel_trans bl_8 hB8
        have bx_9 := Lib.hid (bx_8.out.keep hB8)
        have bc_9 := Lib.hid (bc_8.out.keep hB8)
        have bw_9 := Lib.hid (bw_8.out.keep hB8)
        have by_9 := Lib.hid (by_8.out.keep hB8)
        have bg_9 := Lib.hid (bg_8.out.keep hB8)
        have rd_9 := Lib.hid (rd_8.out.belowS hB8)
        have r0_9 := Lib.hid (r0_8.out.belowS hB8)
        have rx2_9 := Lib.hid (rx2_8.out.belowS hB8)
        have ow_9 := Lib.hid (ow_8.out.belowS hB8)
        have r1_9 := Lib.hid (r1_8.out.belowS hB8)
        have sz_9 := Lib.hid (hB8).size
        obtain ⟨by_9_0, by_9_1, by_9_2⟩ := by_9.out
        go_wp2_with fail
        refine (markPuzzle_any oo m _ _ 1 _ ow_9.out (by have := sz_1.out; have := se_1.out; have := sz_2.out; have := se_2.out; have := sz_3.out; have := sz_4.out; have := sb_5.out; have := sc_5.out; have := sz_5.out; have := sz_6.out; have := se_6.out; have := sz_7.out; have := sb_7.out; have := sc_7.out; have := sz_8.out; have := sz_9.out; omega) (by omega) (by omega)).mono ?_
        rintro e wm ⟨rfl, _, hgm⟩
        have sz_10 := Lib.hid (hgm).size
        have bl_10 := bel_grownR bl_9 hgm (fun k hk => (by have := sz_1.out; have := se_1.out; have := sz_2.out; have := se_2.out; have := sz_3.out; have := sz_4.out; have := sb_5.out; have := sc_5.out; have := sz_5.out; have := sz_6.out; have := se_6.out; have := sz_7.out; have := sb_7.out; have := sc_7.out; have := sz_8.out; have := sz_9.out; have := sz_10.out; have := (OWlt.out k hk); omega))
        have bx_10 := Lib.hid (bx_9.out.grownN hgm (fun j hj => (by have := sz_1.out; have := se_1.out; have := sz_2.out; have := se_2.out; have := sz_3.out; have := sz_4.out; have := sb_5.out; have := sc_5.out; have := sz_5.out; have := sz_6.out; have := se_6.out; have := sz_7.out; have := sb_7.out; have := sc_7.out; have := sz_8.out; have := sz_9.out; have := sz_10.out; have := (OWlt.out j hj); omega)))
        have bc_10 := Lib.hid (bc_9.out.grownN hgm (fun j hj => (by have := sz_1.out; have := se_1.out; have := sz_2.out; have := se_2.out; have := sz_3.out; have := sz_4.out; have := sb_5.out; have := sc_5.out; have := sz_5.out; have := sz_6.out; have := se_6.out; have := sz_7.out; have := sb_7.out; have := sc_7.out; have := sz_8.out; have := sz_9.out; have := sz_10.out; have := (OWlt.out j hj); omega)))
        have bw_10 := Lib.hid (bw_9.out.grownN hgm (fun j hj => (by have := sz_1.out; have := se_1.out; have := sz_2.out; have := se_2.out; have := sz_3.out; have := sz_4.out; have := sb_5.out; have := sc_5.out; have := sz_5.out; have := sz_6.out; have := se_6.out; have := sz_7.out; have := sb_7.out; have := sc_7.out; have := sz_8.out; have := sz_9.out; have := sz_10.out; have := (OWlt.out j hj); omega)))
        have bg_10 := Lib.hid (bg_9.out.grownN hgm (fun j hj => (by have := sz_1.out; have := se_1.out; have := sz_2.out; have := se_2.out; have := sz_3.out; have := sz_4.out; have := sb_5.out; have := sc_5.out; have := sz_5.out; have := sz_6.out; have := se_6.out; have := sz_7.out; have := sb_7.out; have := sc_7.out; have := sz_8.out; have := sz_9.out; have := sz_10.out; have := (OWlt.out j hj); omega)))
        have rd_10 := Lib.hid (rd_0.out.belowS bl_10)
        have r0_10 := Lib.hid (r0_9.out.keptN hgm (fun k hk e => (by have := sz_1.out; have := se_1.out; have := sz_2.out; have := se_2.out; have := sz_3.out; have := sz_4.out; have := sb_5.out; have := sc_5.out; have := sz_5.out; have := sz_6.out; have := se_6.out; have := sz_7.out; have := sb_7.out; have := sc_7.out; have := sz_8.out; have := sz_9.out; have := sz_10.out; have := (r0lt.out k hk); have := (OWlt.out k e); omega)))
        have r1_10 := Lib.hid (r1_9.out.keptN hgm (fun k hk e => (by have := sz_1.out; have := se_1.out; have := sz_2.out; have := se_2.out; have := sz_3.out; have := sz_4.out; have := sb_5.out; have := sc_5.out; have := sz_5.out; have := sz_6.out; have := se_6.out; have := sz_7.out; have := sb_7.out; have := sc_7.out; have := sz_8.out; have := sz_9.out; have := sz_10.out; have := (r1lt.out k hk); have := (OWlt.out k e); omega)))
        have t0 : decide ((1 : Int) + 3 * (m.length : Int) < 0) = false := by simp; omega
        have t0b : ¬ (1 : Int) + 3 * (m.length : Int) < 0 := by omega
        obtain ⟨bw_10_0, bw_10_1, bw_10_2⟩ := bw_10.out
        obtain ⟨bg_10_0, bg_10_1, bg_10_2⟩ := bg_10.out
        go_wp2_with fail
        refine (eqPuzzle_same ro xs (.slice Ag0 xs.length capg0) (.slice Au0 xs.length capu0) _ _ _ (r1_10.out.rd) (r0_10.out.rd) (Nat.le_refl _) (Nat.le_refl _)).mono ?_
        rintro e q2g0 ⟨rfl, hq_2g0⟩
        have bl_11 := bel_trans bl_10 hq_2g0
        have bx_11 := Lib.hid (bx_10.out.keep hq_2g0)
        have bc_11 := Lib.hid (bc_10.out.keep hq_2g0)
        have bw_11 := Lib.hid (bw_10.out.keep hq_2g0)
        have bg_11 := Lib.hid (bg_10.out.keep hq_2g0)
        have rd_11 := Lib.hid (rd_10.out.belowS hq_2g0)
        have r0_11 := Lib.hid (r0_10.out.belowS hq_2g0)
        have r1_11 := Lib.hid (r1_10.out.belowS hq_2g0)
        have sz_11 := Lib.hid (hq_2g0).size
        obtain ⟨bg_11_0, bg_11_1, bg_11_2⟩ := bg_11.out
        go_wp2_with fail
        refine (markPuzzle_any ro xs _ _ 1 _ r1_11.out (by have := sz_1.out; have := se_1.out; have := sz_2.out; have := se_2.out; have := sz_3.out; have := sz_4.out; have := sb_5.out; have := sc_5.out; have := sz_5.out; have := sz_6.out; have := se_6.out; have := sz_7.out; have := sb_7.out; have := sc_7.out; have := sz_8.out; have := sz_9.out; have := sz_10.out; have := sz_11.out; omega) (by omega) (by omega)).mono ?_
        rintro e wg ⟨rfl, r4, hg4⟩
        have sz_12 := Lib.hid (hg4).size
        have bl_12 := bel_grownR bl_11 hg4 (fun k hk => (by have := sz_1.out; have := se_1.out; have := sz_2.out; have := se_2.out; have := sz_3.out; have := sz_4.out; have := sb_5.out; have := sc_5.out; have := sz_5.out; have := sz_6.out; have := se_6.out; have := sz_7.out; have := sb_7.out; have := sc_7.out; have := sz_8.out; have := sz_9.out; have := sz_10.out; have := sz_11.out; have := sz_12.out; have := (r1lt.out k hk); omega))
        have bx_12 := Lib.hid (bx_11.out.grownN hg4 (fun j hj => (by have := sz_1.out; have := se_1.out; have := sz_2.out; have := se_2.out; have := sz_3.out; have := sz_4.out; have := sb_5.out; have := sc_5.out; have := sz_5.out; have := sz_6.out; have := se_6.out; have := sz_7.out; have := sb_7.out; have := sc_7.out; have := sz_8.out; have := sz_9.out; have := sz_10.out; have := sz_11.out; have := sz_12.out; have := (r1lt.out j hj); omega)))
        have bc_12 := Lib.hid (bc_11.out.grownN hg4 (fun j hj => (by have := sz_1.out; have := se_1.out; have := sz_2.out; have := se_2.out; have := sz_3.out; have := sz_4.out; have := sb_5.out; have := sc_5.out; have := sz_5.out; have := sz_6.out; have := se_6.out; have := sz_7.out; have := sb_7.out; have := sc_7.out; have := sz_8.out; have := sz_9.out; have := sz_10.out; have := sz_11.out; have := sz_12.out; have := (r1lt.out j hj); omega)))
        have bw_12 := Lib.hid (bw_11.out.grownN hg4 (fun j hj => (by have := sz_1.out; have := se_1.out; have := sz_2.out; have := se_2.out; have := sz_3.out; have := sz_4.out; have := sb_5.out; have := sc_5.out; have := sz_5.out; have := sz_6.out; have := se_6.out; have := sz_7.out; have := sb_7.out; have := sc_7.out; have := sz_8.out; have := sz_9.out; have := sz_10.out; have := sz_11.out; have := sz_12.out; have := (r1lt.out j hj); omega)))
        have bg_12 := Lib.hid (bg_11.out.grownN hg4 (fun j hj => (by have := sz_1.out; have := se_1.out; have := sz_2.out; have := se_2.out; have := sz_3.out; have := sz_4.out; have := sb_5.out; have := sc_5.out; have := sz_5.out; have := sz_6.out; have := se_6.out; have := sz_7.out; have := sb_7.out; have := sc_7.out; have := sz_8.out; have := sz_9.out; have := sz_10.out; have := sz_11.out; have := sz_12.out; have := (r1lt.out j hj); omega)))
        have rd_12 := Lib.hid (rd_0.out.belowS bl_12)
        have r0_12 := Lib.hid (r0_11.out.keptN hg4 (fun k hk e => (by have := sz_1.out; have := se_1.out; have := sz_2.out; have := se_2.out; have := sz_3.out; have := sz_4.out; have := sb_5.out; have := sc_5.out; have := sz_5.out; have := sz_6.out; have := se_6.out; have := sz_7.out; have := sb_7.out; have := sc_7.out; have := sz_8.out; have := sz_9.out; have := sz_10.out; have := sz_11.out; have := sz_12.out; have := (r0lt.out k hk); have := (r1lt.out k e); omega)))
        have r4_12 := Lib.hid (r4)
        clear r4
        obtain ⟨bg_12_0, bg_12_1, bg_12_2⟩ := bg_12.out
        go_wp2_with fail
        refine (heldPuzzle_any ro xs _ _ 1 _ (r4_12.out.rd) (Nat.le_refl _) (by omega) (by omega)).mono ?_
        rintro e q3h ⟨rfl, hq_3h⟩
        have bl_13 := bel_trans bl_12 hq_3h
        have bx_13 := Lib.hid (bx_12.out.keep hq_3h)
        have bc_13 := Lib.hid (bc_12.out.keep hq_3h)
        have bw_13 := Lib.hid (bw_12.out.keep hq_3h)
        have bg_13 := Lib.hid (bg_12.out.keep hq_3h)
        have rd_13 := Lib.hid (rd_12.out.belowS hq_3h)
        have r0_13 := Lib.hid (r0_12.out.belowS hq_3h)
        have r4_13 := Lib.hid (r4_12.out.belowS hq_3h)
        have sz_13 := Lib.hid (hq_3h).size
        have t1 : decide ((1 : Int) + 3 * (xs.length : Int) < 0) = false := by simp; omega
        have t1b : ¬ (1 : Int) + 3 * (xs.length : Int) < 0 := by omega
        obtain ⟨bx_13_0, bx_13_1, bx_13_2⟩ := bx_13.out
        obtain ⟨bc_13_0, bc_13_1, bc_13_2, bc_13_3⟩ := bc_13.out
        go_wp2_with fail
        rename_i K9 hK9
        have main9 : ∀ (y0 y1 y16 y17 y18 y19 y20 y21 y22 y23 y24 y25 y26 y27 y28 y29 y30 y31 y32 y33 y34 y35 y36 y37 y38 y39 y40 y41 y42 y43 y44 y45 y46 y47 y48 y49 y50 y51 y52 y53 y54 y55 y56 y57 y58 y59 y60 y61 y62 y63 y64 y65 y66 y67 y68 y69 y70 y71 y72 y73 y74 y75 y76 y77 y78 y79 y80 y81 y82 y83 y84 y85 y86 y87 y88 y89 y90 y91 y92 y93 y94 y95 y96 y97 y98 y99 y100 y101 y102 y103 : Value) (X9 : World) (n9 : Nat) (Ah0 : Option Addr) (caph0 : Nat), Below q3h.heap.size q3h X9 → Hid (Box2 X9 n9 (.int .i64 ro) (.slice Ah0 xs.length caph0)) → Hid (TRow 39 X9 q3h.heap.size (.slice Ah0 xs.length caph0) xs) → Hid (∀ k, Value.ownBlock (.slice Ah0 xs.length caph0) = some k → k ≠ n9) → q3h.heap.size ≤ n9 → K9 { tmps := #[y0, y1, .pointer (some ⟨w.heap.size, 0, none⟩), .pointer (some ⟨w.heap.size + 1, 0, none⟩), .bool false, .int .i64 left, .pointer (some ⟨n5, 0, none⟩), .bool ok, .pointer (some ⟨x5.heap.size, 0, none⟩), .pointer (some ⟨n7, 0, none⟩), .bool ok, .int .i64 (1 + 3 * (m.length : Int)), .int .i64 (1 + 3 * (xs.length : Int)), .int .i64 (1 + 3 * (xs.length : Int)), .pointer (some ⟨n9, 0, none⟩), .bool ok, y16, y17, y18, y19, y20, y21, y22, y23, y24, y25, y26, y27, y28, y29, y30, y31, y32, y33, y34, y35, y36, y37, y38, y39, y40, y41, y42, y43, y44, y45, y46, y47, y48, y49, y50, y51, y52, y53, y54, y55, y56, y57, y58, y59, y60, y61, y62, y63, y64, y65, y66, y67, y68, y69, y70, y71, y72, y73, y74, y75, y76, y77, y78, y79, y80, y81, y82, y83, y84, y85, y86, y87, y88, y89, y90, y91, y92, y93, y94, y95, y96, y97, y98, y99, y100, y101, y102, y103], defers := [] } X9 := by
          intro y0 y1 y16 y17 y18 y19 y20 y21 y22 y23 y24 y25 y26 y27 y28 y29 y30 y31 y32 y33 y34 y35 y36 y37 y38 y39 y40 y41 y42 y43 y44 y45 y46 y47 y48 y49 y50 y51 y52 y53 y54 y55 y56 y57 y58 y59 y60 y61 y62 y63 y64 y65 y66 y67 y68 y69 y70 y71 y72 y73 y74 y75 y76 y77 y78 y79 y80 y81 y82 y83 y84 y85 y86 y87 y88 y89 y90 y91 y92 y93 y94 y95 y96 y97 y98 y99 y100 y101 y102 y103 X9 n9 Ah0 caph0 hbX hbx9 hrX hneX hnX
          refine hK9 _ _ ?_
          have bl_14 := bel_trans bl_13 hbX
          have bx_14 := Lib.hid (bx_13.out.keep hbX)
          have bc_14 := Lib.hid (bc_13.out.keep hbX)
          have bw_14 := Lib.hid (bw_13.out.keep hbX)
          have bg_14 := Lib.hid (bg_13.out.keep hbX)
          have rd_14 := Lib.hid (rd_13.out.belowS hbX)
          have r0_14 := Lib.hid (r0_13.out.belowS hbX)
          have r4_14 := Lib.hid (r4_13.out.belowS hbX)
          have sz_14 := Lib.hid (hbX).size
          have bh_14 := hbx9
          have r6_14 := hrX
          have sb_9 := Lib.hid hbx9.out.2.2
          have sc_9 := Lib.hid hnX
          have r6lt := Lib.hid (fun k hk => And.intro (World.ownsRow.lt hrX.out k hk) (hneX.out k hk))
          obtain ⟨bh_14_0, bh_14_1, bh_14_2⟩ := bh_14.out
          obtain ⟨bw_14_0, bw_14_1, bw_14_2⟩ := bw_14.out
          go_wp2_with fail
          refine (eqPuzzle_same ro xs (.slice Ah0 xs.length caph0) (.slice Au0 xs.length capu0) _ _ _ (r6_14.out.rd) (r0_14.out.rd) (Nat.le_refl _) (Nat.le_refl _)).mono ?_
          rintro e q1h0 ⟨rfl, hq_1h0⟩
          have bl_15 := bel_trans bl_14 hq_1h0
          have bx_15 := Lib.hid (bx_14.out.keep hq_1h0)
          have bc_15 := Lib.hid (bc_14.out.keep hq_1h0)
          have bw_15 := Lib.hid (bw_14.out.keep hq_1h0)
          have bg_15 := Lib.hid (bg_14.out.keep hq_1h0)
          have bh_15 := Lib.hid (bh_14.out.keep hq_1h0)
          have rd_15 := Lib.hid (rd_14.out.belowS hq_1h0)
          have r0_15 := Lib.hid (r0_14.out.belowS hq_1h0)
          have r4_15 := Lib.hid (r4_14.out.belowS hq_1h0)
          have r6_15 := Lib.hid (r6_14.out.belowS hq_1h0)
          have sz_15 := Lib.hid (hq_1h0).size
          obtain ⟨bg_15_0, bg_15_1, bg_15_2⟩ := bg_15.out
          go_wp2_with fail
          refine (heldPuzzle_any ro xs _ _ 1 _ (r4_15.out.rd) (Nat.le_refl _) (by omega) (by omega)).mono ?_
          rintro e q2h ⟨rfl, hq_2h⟩
          have bl_16 := bel_trans bl_15 hq_2h
          have bx_16 := Lib.hid (bx_15.out.keep hq_2h)
          have bc_16 := Lib.hid (bc_15.out.keep hq_2h)
          have bw_16 := Lib.hid (bw_15.out.keep hq_2h)
          have bg_16 := Lib.hid (bg_15.out.keep hq_2h)
          have bh_16 := Lib.hid (bh_15.out.keep hq_2h)
          have rd_16 := Lib.hid (rd_15.out.belowS hq_2h)
          have r0_16 := Lib.hid (r0_15.out.belowS hq_2h)
          have r4_16 := Lib.hid (r4_15.out.belowS hq_2h)
          have r6_16 := Lib.hid (r6_15.out.belowS hq_2h)
          have sz_16 := Lib.hid (hq_2h).size
          have hend := bl_16
          go_wp2_with fail
          go_ret
          exact ⟨rfl, hend⟩
        have hW9 := bl_13
        have bP9 := bx_13
        have rX9 := rd_13
        have bC9 : Box3 q3h (w.heap.size + 1) (.int .i64 ck) (.int .i64 ca) (.int .i64 cb) := by simpa using bc_13.out
        go_region_held3 (fun w' => w'.cell? ⟨w.heap.size, 0, none⟩ = some (.int .i64 oo) ∧ w'.cell? ⟨w.heap.size, 1, none⟩ = some (.slice A0 m.length cap0) ∧ w.heap.size < w'.heap.size ∧ w'.cell? ⟨w.heap.size + 1, 0, none⟩ = some (.int .i64 ck) ∧ w'.cell? ⟨w.heap.size + 1, 1, none⟩ = some (.int .i64 ca) ∧ w'.cell? ⟨w.heap.size + 1, 2, none⟩ = some (.int .i64 cb) ∧ w.heap.size + 1 < w'.heap.size ∧ Below q3h.heap.size q3h w')
          (first | exact h2c_mk bP9.out bC9 ((Below.refl _ q3h).drew) | exact h2c_mk bP9.out bC9 (bel_trans (h2c_below (by assumption)) hba) | exact h2c_mk bP9.out bC9 (bel_trans (h2c_below (by assumption)) hbc) | exact h2c_mk bP9.out bC9 (bel_trans (h2c_below (by assumption)) hb5) | exact h2c_mk bP9.out bC9 (bel_alloc (h2c_below (by assumption)) _) | exact h2c_mk bP9.out bC9 (bel_alloc hb5w.out _) | exact h2c_res bP9.out bC9 (h2c_below (by assumption)) _ (by first | (have q2 := hbc.size; have q1 := hba.size; (try simp at q1 q2 ⊢); omega) | (simp; done) | (simp; omega)) _ _ | assumption | go_keep)
          (first | (go_at_call 19; refine (toPz_any oo m _ _ (rX9.out.belowS (h2c_below (by assumption))) z).mono ?_; rintro e wa ⟨ua, rfl, oa, hba⟩; obtain ⟨Aa, capa, rfl, _⟩ := oa.formS; (first | (have h9a := (BoxW.new _ (.int .i64 0) (.slice none 0 0) 29).keep (bel_undrew hba)) | (have h9a := (BoxW.new _ (.int .i64 0) (.slice none 0 0) 29).keep hba) | skip)) | (go_at_call 23; refine (toClue_any ck ca cb _).mono ?_; rintro e wc ⟨rfl, hbc⟩; (first | have oc := oa.below hbc | have oc := oa.drew1.below hbc | have oc := (oa.below (bel_alloc (Below.refl _ _) _)).below hbc | have oc := (oa.below (bel_alloc (Below.refl _ _) _)).drew1.below hbc); (first | (have h9c := h9a.keep hbc) | (have h9c := h9a.drew1.keep hbc) | (have h9c := (BoxW.new _ (.int .i64 0) (.slice none 0 0) 29).keep (bel_undrew hbc)) | (have h9c := (BoxW.new _ (.int .i64 0) (.slice none 0 0) 29).keep hbc) | skip)) | (go_at_call 50; refine (hI _ _ z (by first | exact oc.rd | exact oc.drew1.rd | exact (oc.below (bel_alloc (Below.refl _ _) _)).rd | exact (oc.below (bel_alloc (Below.refl _ _) _)).drew1.rd)).mono ?_; rintro e w5 ⟨v5, rfl, r5, hb5⟩; obtain ⟨A5, cap5, rfl, _⟩ := r5.formS; have hb5w := Lib.hid (bel_trans (h2c_below (by assumption)) hb5); (first | (have h9 := h9c.keep hb5) | (have h9 := h9c.drew1.keep hb5) | (have h9 := (BoxW.new _ (.int .i64 0) (.slice none 0 0) 29).keep (bel_undrew hb5)) | (have h9 := (BoxW.new _ (.int .i64 0) (.slice none 0 0) 29).keep hb5) | skip); (first | ((try simp at h9); obtain ⟨⟨d0, d1, d2⟩, d3, d4⟩ := h9) | skip)))
        all_goals
          change K9 _ _
          first | (exact main9 _ _ _ _ _ _ _ _ _ _ _ _ _ _ _ _ _ _ _ _ _ _ _ _ _ _ _ _ _ _ _ _ _ _ _ _ _ _ _ _ _ _ _ _ _ _ _ _ _ _ _ _ _ _ _ _ _ _ _ _ _ _ _ _ _ _ _ _ _ _ _ _ _ _ _ _ _ _ _ _ _ _ _ _ _ _ _ _ _ _ _ _ _ _ (h2c_below (by assumption)) (Lib.hid (BoxW.set (show BoxW w5 _ _ _ from ⟨⟨d0, d1, d2⟩, d3, d4⟩) _ _).1) (Lib.hid ((TRow.setOther (TRow.setOther r5 (by first | (have q2 := hbc.size; have q1 := hba.size; (try simp at q1 q2 ⊢); omega) | (simp; done)) _) (by first | (have q2 := hbc.size; have q1 := hba.size; (try simp at q1 q2 ⊢); omega) | (simp; done)) _).mono (by first | (have q2 := hbc.size; have q1 := hba.size; (try simp at q1 q2 ⊢); omega) | (simp; done)))) (Lib.hid (fun k hk => by have q4 := World.ownsRow.lt r5 k hk; have q2 := hbc.size; have q1 := hba.size; (try simp at q1 q2 q4 ⊢); omega)) (by first | (have q2 := hbc.size; have q1 := hba.size; have q3 := hb5w.out.size; (try simp at q1 q2 q3 ⊢); omega) | omega | (simp; done))) | (exact main9 _ _ _ _ _ _ _ _ _ _ _ _ _ _ _ _ _ _ _ _ _ _ _ _ _ _ _ _ _ _ _ _ _ _ _ _ _ _ _ _ _ _ _ _ _ _ _ _ _ _ _ _ _ _ _ _ _ _ _ _ _ _ _ _ _ _ _ _ _ _ _ _ _ _ _ _ _ _ _ _ _ _ _ _ _ _ _ _ _ _ _ _ _ _ (h2c_below (by assumption)) (Lib.hid (Box2.new w5 (.int .i64 ro) (.slice A5 xs.length cap5) 29)) (Lib.hid ((TRow.below r5 (bel_alloc (Below.refl _ w5) (.cells #[.int .i64 ro, .slice A5 xs.length cap5] 29))).mono (by first | (have q2 := hbc.size; have q1 := hba.size; (try simp at q1 q2 ⊢); omega) | (simp; done)))) (Lib.hid (fun k hk => by have q4 := World.ownsRow.lt r5 k hk; have q2 := hbc.size; have q1 := hba.size; (try simp at q1 q2 q4 ⊢); omega)) (by first | (have q2 := hbc.size; have q1 := hba.size; have q3 := hb5w.out.size; (try simp at q1 q2 q3 ⊢); omega) | omega | (simp; done)))
      have hW7 := bl_6
      have bP7 := by_6
      have rX7 := rx2_6
      have bC7 : Box3 (x5.alloc (.cells #[.int .i64 oo, .slice A2 m.length cap2] 29)) (w.heap.size + 1) (.int .i64 ck) (.int .i64 ca) (.int .i64 cb) := by simpa using bc_6.out
      go_region_held3 (fun w' => w'.cell? ⟨x5.heap.size, 0, none⟩ = some (.int .i64 oo) ∧ w'.cell? ⟨x5.heap.size, 1, none⟩ = some (.slice A2 m.length cap2) ∧ x5.heap.size < w'.heap.size ∧ w'.cell? ⟨w.heap.size + 1, 0, none⟩ = some (.int .i64 ck) ∧ w'.cell? ⟨w.heap.size + 1, 1, none⟩ = some (.int .i64 ca) ∧ w'.cell? ⟨w.heap.size + 1, 2, none⟩ = some (.int .i64 cb) ∧ w.heap.size + 1 < w'.heap.size ∧ Below (x5.alloc (.cells #[.int .i64 oo, .slice A2 m.length cap2] 29)).heap.size (x5.alloc (.cells #[.int .i64 oo, .slice A2 m.length cap2] 29)) w')
        (first | exact h2c_mk bP7.out bC7 ((Below.refl _ (x5.alloc (.cells #[.int .i64 oo, .slice A2 m.length cap2] 29))).drew) | exact h2c_mk bP7.out bC7 (bel_trans (h2c_below (by assumption)) hbc) | exact h2c_mk bP7.out bC7 (bel_trans (h2c_below (by assumption)) hb5) | exact h2c_mk bP7.out bC7 (bel_alloc (h2c_below (by assumption)) _) | exact h2c_mk bP7.out bC7 (bel_alloc hb5w.out _) | exact h2c_res bP7.out bC7 (h2c_below (by assumption)) _ (by first | (have q2 := hbc.size; (try simp at q2 ⊢); omega) | (simp; done) | (simp; omega)) _ _ | assumption | go_keep)
        (first | (go_at_call 23; refine (toClue_any ck ca cb _).mono ?_; rintro e wc ⟨rfl, hbc⟩; (first | (have h9c := (BoxW.new _ (.int .i64 0) (.slice none 0 0) 29).keep (bel_undrew hbc)) | (have h9c := (BoxW.new _ (.int .i64 0) (.slice none 0 0) 29).keep hbc) | skip)) | (go_at_call 50; refine (hI _ _ z (rX7.out.belowS (h2c_below (by assumption)))).mono ?_; rintro e w5 ⟨v5, rfl, r5, hb5⟩; obtain ⟨A5, cap5, rfl, _⟩ := r5.formS; have hb5w := Lib.hid (bel_trans (h2c_below (by assumption)) hb5); (first | (have h9 := h9c.keep hb5) | (have h9 := h9c.drew1.keep hb5) | (have h9 := (BoxW.new _ (.int .i64 0) (.slice none 0 0) 29).keep (bel_undrew hb5)) | (have h9 := (BoxW.new _ (.int .i64 0) (.slice none 0 0) 29).keep hb5) | skip); (first | ((try simp at h9); obtain ⟨⟨d0, d1, d2⟩, d3, d4⟩ := h9) | skip)))
      all_goals
        change K7 _ _
        first | (exact main7 _ _ _ _ _ _ _ _ _ _ _ _ _ _ _ _ _ _ _ _ _ _ _ _ _ _ _ _ _ _ _ _ _ _ _ _ _ _ _ _ _ _ _ _ _ _ _ _ _ _ _ _ _ _ _ _ _ _ _ _ _ _ _ _ _ _ _ _ _ _ _ _ _ _ _ _ _ _ _ _ _ _ _ _ _ _ _ _ _ _ _ _ _ _ _ _ _ _ _ (h2c_below (by assumption)) (Lib.hid (BoxW.set (show BoxW w5 _ _ _ from ⟨⟨d0, d1, d2⟩, d3, d4⟩) _ _).1) (Lib.hid ((TRow.setOther (TRow.setOther r5 (by first | (have q2 := hbc.size; (try simp at q2 ⊢); omega) | (simp; done)) _) (by first | (have q2 := hbc.size; (try simp at q2 ⊢); omega) | (simp; done)) _).mono (by first | (have q2 := hbc.size; (try simp at q2 ⊢); omega) | (simp; done)))) (Lib.hid (fun k hk => by have q4 := World.ownsRow.lt r5 k hk; have q2 := hbc.size; (try simp at q2 q4 ⊢); omega)) (by first | (have q2 := hbc.size; have q3 := hb5w.out.size; (try simp at q2 q3 ⊢); omega) | omega | (simp; done))) | (exact main7 _ _ _ _ _ _ _ _ _ _ _ _ _ _ _ _ _ _ _ _ _ _ _ _ _ _ _ _ _ _ _ _ _ _ _ _ _ _ _ _ _ _ _ _ _ _ _ _ _ _ _ _ _ _ _ _ _ _ _ _ _ _ _ _ _ _ _ _ _ _ _ _ _ _ _ _ _ _ _ _ _ _ _ _ _ _ _ _ _ _ _ _ _ _ _ _ _ _ _ (h2c_below (by assumption)) (Lib.hid (Box2.new w5 (.int .i64 ro) (.slice A5 xs.length cap5) 29)) (Lib.hid ((TRow.below r5 (bel_alloc (Below.refl _ w5) (.cells #[.int .i64 ro, .slice A5 xs.length cap5] 29))).mono (by first | (have q2 := hbc.size; (try simp at q2 ⊢); omega) | (simp; done)))) (Lib.hid (fun k hk => by have q4 := World.ownsRow.lt r5 k hk; have q2 := hbc.size; (try simp at q2 q4 ⊢); omega)) (by first | (have q2 := hbc.size; have q3 := hb5w.out.size; (try simp at q2 q3 ⊢); omega) | omega | (simp; done)))
    have hW5 := bl_3
    have bP5 := bx_3
    have rX5 := rd_3
    have bC5 : Box3 v3 (w.heap.size + 1) (.int .i64 ck) (.int .i64 ca) (.int .i64 cb) := by simpa using bc_3.out
    go_region_held3 (fun w' => w'.cell? ⟨w.heap.size, 0, none⟩ = some (.int .i64 oo) ∧ w'.cell? ⟨w.heap.size, 1, none⟩ = some (.slice A0 m.length cap0) ∧ w.heap.size < w'.heap.size ∧ w'.cell? ⟨w.heap.size + 1, 0, none⟩ = some (.int .i64 ck) ∧ w'.cell? ⟨w.heap.size + 1, 1, none⟩ = some (.int .i64 ca) ∧ w'.cell? ⟨w.heap.size + 1, 2, none⟩ = some (.int .i64 cb) ∧ w.heap.size + 1 < w'.heap.size ∧ Below v3.heap.size v3 w')
      (first | exact h2c_mk bP5.out bC5 ((Below.refl _ v3).drew) | exact h2c_mk bP5.out bC5 (bel_trans (h2c_below (by assumption)) hba) | exact h2c_mk bP5.out bC5 (bel_trans (h2c_below (by assumption)) hbc) | exact h2c_mk bP5.out bC5 (bel_trans (h2c_below (by assumption)) hb5) | exact h2c_mk bP5.out bC5 (bel_alloc (h2c_below (by assumption)) _) | exact h2c_mk bP5.out bC5 (bel_alloc hb5w.out _) | exact h2c_res bP5.out bC5 (h2c_below (by assumption)) _ (by first | (have q2 := hbc.size; have q1 := hba.size; (try simp at q1 q2 ⊢); omega) | (simp; done) | (simp; omega)) _ _ | assumption | go_keep)
      (first | (go_at_call 19; refine (toPz_any oo m _ _ (rX5.out.belowS (h2c_below (by assumption))) z).mono ?_; rintro e wa ⟨ua, rfl, oa, hba⟩; obtain ⟨Aa, capa, rfl, _⟩ := oa.formS; (first | (have h9a := (BoxW.new _ (.int .i64 0) (.slice none 0 0) 29).keep (bel_undrew hba)) | (have h9a := (BoxW.new _ (.int .i64 0) (.slice none 0 0) 29).keep hba) | skip)) | (go_at_call 23; refine (toClue_any ck ca cb _).mono ?_; rintro e wc ⟨rfl, hbc⟩; (first | have oc := oa.below hbc | have oc := oa.drew1.below hbc | have oc := (oa.below (bel_alloc (Below.refl _ _) _)).below hbc | have oc := (oa.below (bel_alloc (Below.refl _ _) _)).drew1.below hbc); (first | (have h9c := h9a.keep hbc) | (have h9c := h9a.drew1.keep hbc) | (have h9c := (BoxW.new _ (.int .i64 0) (.slice none 0 0) 29).keep (bel_undrew hbc)) | (have h9c := (BoxW.new _ (.int .i64 0) (.slice none 0 0) 29).keep hbc) | skip)) | (go_at_call 49; refine (hS _ _ z (by first | exact oc.rd | exact oc.drew1.rd | exact (oc.below (bel_alloc (Below.refl _ _) _)).rd | exact (oc.below (bel_alloc (Below.refl _ _) _)).drew1.rd)).mono ?_; rintro e w5 ⟨v5, rfl, r5, hb5⟩; obtain ⟨A5, cap5, rfl, _⟩ := r5.formS; have hb5w := Lib.hid (bel_trans (h2c_below (by assumption)) hb5); (first | (have h9 := h9c.keep hb5) | (have h9 := h9c.drew1.keep hb5) | (have h9 := (BoxW.new _ (.int .i64 0) (.slice none 0 0) 29).keep (bel_undrew hb5)) | (have h9 := (BoxW.new _ (.int .i64 0) (.slice none 0 0) 29).keep hb5) | skip); (first | ((try simp at h9); obtain ⟨⟨d0, d1, d2⟩, d3, d4⟩ := h9) | skip)))
    all_goals
      change K5 _ _
      first | (exact main5 _ _ _ _ _ _ _ _ _ _ _ _ _ _ _ _ _ _ _ _ _ _ _ _ _ _ _ _ _ _ _ _ _ _ _ _ _ _ _ _ _ _ _ _ _ _ _ _ _ _ _ _ _ _ _ _ _ _ _ _ _ _ _ _ _ _ _ _ _ _ _ _ _ _ _ _ _ _ _ _ _ _ _ _ _ _ _ _ _ _ _ _ _ _ _ _ _ _ _ _ _ _ (h2c_below (by assumption)) (Lib.hid (BoxW.set (show BoxW w5 _ _ _ from ⟨⟨d0, d1, d2⟩, d3, d4⟩) _ _).1) (Lib.hid ((TRow.setOther (TRow.setOther r5 (by first | (have q2 := hbc.size; have q1 := hba.size; (try simp at q1 q2 ⊢); omega) | (simp; done)) _) (by first | (have q2 := hbc.size; have q1 := hba.size; (try simp at q1 q2 ⊢); omega) | (simp; done)) _).mono (by first | (have q2 := hbc.size; have q1 := hba.size; (try simp at q1 q2 ⊢); omega) | (simp; done)))) (Lib.hid (fun k hk => by have q4 := World.ownsRow.lt r5 k hk; have q2 := hbc.size; have q1 := hba.size; (try simp at q1 q2 q4 ⊢); omega)) (by first | (have q2 := hbc.size; have q1 := hba.size; have q3 := hb5w.out.size; (try simp at q1 q2 q3 ⊢); omega) | omega | (simp; done))) | (exact main5 _ _ _ _ _ _ _ _ _ _ _ _ _ _ _ _ _ _ _ _ _ _ _ _ _ _ _ _ _ _ _ _ _ _ _ _ _ _ _ _ _ _ _ _ _ _ _ _ _ _ _ _ _ _ _ _ _ _ _ _ _ _ _ _ _ _ _ _ _ _ _ _ _ _ _ _ _ _ _ _ _ _ _ _ _ _ _ _ _ _ _ _ _ _ _ _ _ _ _ _ _ _ (h2c_below (by assumption)) (Lib.hid (Box2.new w5 (.int .i64 ro) (.slice A5 xs.length cap5) 29)) (Lib.hid ((TRow.below r5 (bel_alloc (Below.refl _ w5) (.cells #[.int .i64 ro, .slice A5 xs.length cap5] 29))).mono (by first | (have q2 := hbc.size; have q1 := hba.size; (try simp at q1 q2 ⊢); omega) | (simp; done)))) (Lib.hid (fun k hk => by have q4 := World.ownsRow.lt r5 k hk; have q2 := hbc.size; have q1 := hba.size; (try simp at q1 q2 q4 ⊢); omega)) (by first | (have q2 := hbc.size; have q1 := hba.size; have q3 := hb5w.out.size; (try simp at q1 q2 q3 ⊢); omega) | omega | (simp; done)))
  · go_enter Try.func12, Try.ntmps12
    go_wp2_with fail
    refine (szPz_no oo m _ _ (rd_0.out.belowS (by repeat (first | assumption | with_reducible exact Below.refl _ _ | refine bel_alloc ?_ _ | refine bel_drewN ?_ _ | refine Below.drew ?_ | (refine Below.setCell ?_ (by simp) _) | (refine bel_trans ?_ (by assumption))))) z).mono ?_
    rintro e w2 ⟨rfl, b2⟩
    go_wp2
    go_ret
    exact ⟨rfl, bel_trans (by repeat (first | assumption | with_reducible exact Below.refl _ _ | refine bel_alloc ?_ _ | refine bel_drewN ?_ _ | refine Below.drew ?_ | (refine Below.setCell ?_ (by simp) _) | (refine bel_trans ?_ (by assumption)))) b2⟩
end Go.Proofs.Ytggflgmjncjmbaa
