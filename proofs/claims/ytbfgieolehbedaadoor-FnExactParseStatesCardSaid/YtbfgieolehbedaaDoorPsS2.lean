/- ParseStates: the model's reading, where there are rows. -/
import Derived.Test.YtbfgieolehbedaaDoorPsS0
namespace Go.Proofs.YtbfgieolehbedaaDoor
open Go.ChangeShapes Go.WideShapes Go.ChangeAt Go.RowKit
set_option linter.unusedVariables false
set_option linter.unusedSimpArgs false

set_option maxRecDepth 100000 in
set_option maxHeartbeats 12800000 in
theorem saParse_some (s : ByteArray) (w : World) (hs : s.size ≤ 1048576) (h90 : s.size ≤ 90) (p0 : List UInt8) (PZ : List (List UInt8)) (hPZ : prtL s.data.toList 59 = p0 :: PZ) (h0 : 0 < PZ.length) :
    Calls Tryd.prog 15 #[.string s] w (PsAns (limQ s) (mQ s) (okM s) w) := by
  have br0 := Lib.hid (Bx2.new w (.int .i64 0) nilS 24)
  have bl0 := Lib.hid (bel_alloc (Below.refl _ w) (.cells #[.int .i64 0, nilS] 24))
  have z5 : ¬ (90 : Int) < (s.size : Int) := by omega
  have z6 : decide ((90 : Int) < (s.size : Int)) = false := by simp; omega
  obtain ⟨lim, hlim⟩ : ∃ a, rdN p0 = a := ⟨_, rfl⟩
  have hlM : limM s.data.toList = lim := by unfold limM; rw [hPZ]; exact hlim
  have hrM : rowsM s.data.toList = PZ.map (fun p => (prtL p 44).map rdN) := by unfold rowsM; rw [hPZ]; rfl
  have hpl := prtL_len s.data.toList 59
  rw [len_list, hPZ, List.length_cons] at hpl
  have hzl : PZ.length ≤ 90 := by omega
  have hsb : ∀ z ∈ p0 :: PZ, z.length ≤ 90 := fun z hz => by
    have := prtL_sub (b := 59) (show z ∈ prtL s.data.toList 59 from by rw [hPZ]; exact hz)
    rw [len_list] at this
    omega
  have zX : Hid ((baL p0).size ≤ maxLen) := Lib.hid (by rw [baL_size]; have := hsb p0 (by simp); unfold maxLen; omega)
  have hzs : Hid (∀ j, j < PZ.length → (PZ.getD j []).length ≤ 1048576) := Lib.hid (fun j hj => by
    have hm : PZ.getD j [] ∈ p0 :: PZ := by
      rw [List.getD_eq_getElem?_getD, List.getElem?_eq_getElem hj]
      exact List.mem_cons_of_mem _ (List.getElem_mem _)
    have := hsb _ hm
    omega)
  have HL : Hid (rdN (baL p0).data.toList = lim) := Lib.hid (by rw [baL_toList]; exact hlim)
  have HPZ := Lib.hid hPZ
  have hok : Hid (okM s = (saG lim (PZ.map (fun p => (prtL p 44).map rdN)) && decide (txtK lim (PZ.map (fun p => (prtL p 44).map rdN)) (PZ.map (fun p => (prtL p 44).map rdN)).length = s))) := Lib.hid (by unfold okM; rw [hlM, hrM]; simp [h90])
  have hls : Hid (limQ s = lim) := Lib.hid (by unfold limQ; rw [if_pos h90, hlM])
  have hms : Hid (mQ s = PZ.map (fun p => (prtL p 44).map rdN)) := Lib.hid (by unfold mQ; rw [if_pos h90, hrM])
  have hrl : (PZ.map (fun p => (prtL p 44).map rdN)).length = PZ.length := List.length_map ..
  have hrt : Hid (∀ k, k < PZ.length → (PZ.map (fun p => (prtL p 44).map rdN)).take (k + 1) = (PZ.map (fun p => (prtL p 44).map rdN)).take k ++ [(prtL (PZ.getD k []) 44).map rdN]) := Lib.hid (fun k hk => take_map _ PZ k hk [])
  clear hPZ hlim hlM hrM hpl hsb
  generalize PZ.map (fun p => (prtL p 44).map rdN) = rows at *
  generalize hN : PZ.length = N at *
  have HN := Lib.hid hN
  have hrlH := Lib.hid hrl
  have H0 := Lib.hid h0
  clear hN hrl h0
  go_enter Tryd.func15, Tryd.ntmps15
  go_wp2_with fail
  refine (l1Split_any s 59 _ hs).mono ?_
  rintro e w1 ⟨v1, rfl, hR1, hb1⟩
  rw [HPZ.out] at hR1
  obtain ⟨g, cap, rfl, hbg, hgl, hlc, hcm, hcells⟩ := SRow.cells hR1 (by simp)
  rw [List.length_cons, HN.out] at hlc hcells ⊢
  unfold maxLen at hcm
  have hcap : ¬ cap = 1 := by have := H0.out; omega
  have br1 := Lib.hid (br0.out.keep hb1)
  have bl1 := Lib.hid (bel_trans bl0.out hb1)
  have hc0 := hcells 0 (by omega)
  have HC : Hid (∀ j, j < N → (w1.alloc (.cells #[.int .i64 lim, nilS] 24)).cell? ⟨g, 1 + j, none⟩ = some (.string (baL (PZ.getD j [])))) := Lib.hid (fun j hj => by
    have := hcells (j + 1) (by omega)
    rw [Nat.add_comm 1 j]
    exact Lib.cell?_alloc_some _ this)
  have hd0 : (p0 :: PZ).getD 0 [] = p0 := rfl
  rw [hd0] at hc0
  clear hR1 hcells hb1 hd0
  go_wp2_with fail
  refine (l1Read_any (baL p0) _ zX.out).mono ?_
  rintro e w2 ⟨rfl, rfl⟩
  rw [HL.out]
  have hgx : g ≠ w1.heap.size := by omega
  have hbx := bel_alloc (Below.refl _ w1) (.cells #[.int .i64 lim, nilS] 24)
  have br4 := Lib.hid (br1.out.keep hbx)
  have bl4 := Lib.hid (bel_trans bl1.out hbx)
  have bx4 := Lib.hid (Bx2.new w1 (.int .i64 lim) nilS 24)
  have hks : w.heap.size < w1.heap.size := br1.out.2.2.2.2
  have hst : Hid (PsR (w1.alloc (.cells #[.int .i64 lim, nilS] 24)) w1.heap.size lim (rows.take 0) nilS (w1.alloc (.cells #[.int .i64 lim, nilS] 24))) := Lib.hid (by
    rw [List.take_zero]
    exact PsR.start bx4.out.2.2.2.2 bx4.out.1 bx4.out.2.1 bx4.out.2.2.1 bx4.out.2.2.2.1)
  have hs1 : (1 : Int) ≤ (N : Int) + 1 := by omega
  have hs2 : (N : Int) + 1 ≤ (cap : Int) := by omega
  clear hbx hbg
  go_wp2_with fail
  go_loopw [25] (fun i wr => ∃ k : Nat, k ≤ N ∧ i = .int .i64 k ∧ Hid (∃ v, PsR (w1.alloc (.cells #[.int .i64 lim, nilS] 24)) w1.heap.size lim (rows.take k) v wr)) (fun i _ => N - (intOf i).toNat)
  case atStart => exact ⟨0, by omega, rfl, Lib.hid ⟨_, hst.out⟩⟩
  case round =>
    rename World => wo
    obtain ⟨k, hk, rfl, hrel⟩ := hrel
    obtain ⟨v, hr⟩ := hrel.out
    have HR := Lib.hid hr
    have blr := Lib.hid (hr.bel bl4.out (by omega))
    obtain ⟨VA, vcap, hve, hvc⟩ := hr.own.formS
    have htk : (rows.take k).length = k := by rw [List.length_take, hrlH.out]; omega
    rw [htk] at hve
    subst hve
    clear htk
    clear hr hrel
    by_cases hlt : k < N
    · have hpc := HR.out.cell (HC.out k hlt) (Nat.lt_of_lt_of_le hgl (by rw [← size1]; omega)) hgx
      have zT : Hid ((baL (PZ.getD k [])).size ≤ 1048576) := Lib.hid (by rw [baL_size]; exact hzs.out k hlt)
      have hrt2 := Lib.hid (hrt.out k hlt)
      have eT : Hid ((baL (PZ.getD k [])).data.toList = PZ.getD k []) := Lib.hid (baL_toList _)
      generalize PZ.getD k [] = P at *
      have hzl2 : (prtL P 44).length ≤ 2000000 := by
        have h1 := prtL_len (baL P).data.toList 44
        rw [eT.out] at h1
        have := zT.out
        rw [baL_size] at this
        omega
      have hzp2 : 0 < (prtL P 44).length := by
        obtain ⟨p, ps, e⟩ := prt_cons P 44
        rw [e]; simp
      have hsub : Hid (∀ j, j < (prtL P 44).length → ((prtL P 44).getD j []).length ≤ 2000000) := Lib.hid (fun j hj => by
        have hm : (prtL P 44).getD j [] ∈ prtL P 44 := by
          rw [List.getD_eq_getElem?_getD, List.getElem?_eq_getElem hj]
          exact List.getElem_mem _
        have h1 := prtL_sub hm
        have h2 := zT.out
        rw [baL_size] at h2
        omega)
      have hnt : Hid (∀ q, q < (prtL P 44).length → ((prtL P 44).map rdN).take (q + 1) = ((prtL P 44).map rdN).take q ++ [rdN ((prtL P 44).getD q [])]) := Lib.hid (fun q hq => take_map rdN _ q hq [])
      have hnl : ((prtL P 44).map rdN).length = (prtL P 44).length := List.length_map ..
      have hnf : Hid (((prtL P 44).map rdN).take (prtL P 44).length = (prtL P 44).map rdN) := Lib.hid (List.take_of_length_le (by rw [hnl]; exact Nat.le_refl _))
      have EQ : Hid (prtL (baL P).data.toList 44 = prtL P 44) := Lib.hid (by rw [eT.out])
      have hnlH := Lib.hid hnl
      clear hnl
      generalize (prtL P 44).map rdN = nums at *
      generalize prtL P 44 = Q at *
      generalize hN2 : Q.length = N2 at *
      have HN2 := Lib.hid hN2
      clear hN2
      go_wp2_with fail
      refine (l1Split_any (baL P) 44 _ (by have := zT.out; omega)).mono ?_
      rintro e u1 ⟨v4, rfl, hR4, hb4⟩
      rw [EQ.out] at hR4
      obtain ⟨g2, cap2, rfl, hbg2, hgl2, hlc2, hcm2, hcells2⟩ := SRow.cells hR4 (by rw [HN2.out]; exact hzp2)
      rw [HN2.out] at hlc2 hcells2 ⊢
      unfold maxLen at hcm2
      have HC2 := Lib.hid hcells2
      have HB4 := Lib.hid hb4
      have blu := Lib.hid (bel_trans blr.out hb4)
      clear hR4 hcells2 hbg2 hb4 hpc
      go_wp2_with fail
      go_loopw [8, 32] (fun x j wi => ∃ (q : Nat) (xA : Option Addr) (xcap : Nat), q ≤ N2 ∧ j = .int .i64 q ∧ x = .slice xA q xcap ∧ Hid (IRow wi u1.heap.size (.slice xA q xcap) (nums.take q)) ∧ Below u1.heap.size u1 wi) (fun _ j _ => N2 - (intOf j).toNat)
      case atStart => exact ⟨0, none, 0, by omega, rfl, rfl, Lib.hid (by rw [List.take_zero]; exact IRow.nil _ _), Below.refl _ _⟩
      case round =>
        obtain ⟨q, xA, xcap, hq, rfl, rfl, hI, hbi⟩ := hrel
        have bli := Lib.hid (bel_trans blu.out hbi)
        by_cases hlt2 : q < N2
        · have hpc2 := (hbi.cell (p := ⟨g2, q, none⟩) hgl2).trans (HC2.out q hlt2)
          have zT2 : Hid ((baL (Q.getD q [])).size ≤ 2000000) := Lib.hid (by rw [baL_size]; exact hsub.out q hlt2)
          have hnt2 := Lib.hid (hnt.out q hlt2)
          have eT2 : Hid (rdN (baL (Q.getD q [])).data.toList = rdN (Q.getD q [])) := Lib.hid (by rw [baL_toList])
          have hql : Hid ((nums.take q).length ≤ 2000000) := Lib.hid (by rw [List.length_take]; omega)
          generalize baL (Q.getD q []) = T2 at *
          generalize rdN (Q.getD q []) = x2 at *
          go_wp2_with fail
          refine (l1Read_any T2 _ (by have := zT2.out; unfold maxLen; omega)).mono ?_
          rintro e w5 ⟨rfl, rfl⟩
          rw [eT2.out]
          have hI5 := hI
          have hbi5 := Lib.hid hbi
          have hs5 := hbi.size
          clear hpc2
          go_wp2_with (at_builtin; refine wpList_pushI rfl (.tmp 36) (.tmp 39) rfl u1.heap.size _ _ hI5.out hql.out hs5 x2 rfl rfl ?_)
          intro v6 w6 r6 b6
          have R6 : Hid (IRow w6 u1.heap.size v6 (nums.take (q + 1))) := Lib.hid (by rw [hnt2.out]; exact r6)
          have B6 := Lib.hid (hbi5.out.trans b6)
          obtain ⟨xA6, xcap6, rfl⟩ : ∃ A c, v6 = .slice A (q + 1) c := by
            have hl6 : (nums.take (q + 1)).length = q + 1 := by rw [List.length_take, hnlH.out]; omega
            rcases R6.out.form with ⟨h0, A, c, e⟩ | ⟨h0, gg, c, e, _⟩
            · rw [h0] at hl6; simp at hl6
            · rw [hl6] at e; exact ⟨_, c, e⟩
          clear r6 b6
          go_wp2_with fail
          exact ⟨⟨q + 1, _, _, by omega, by go_num, rfl, R6, B6.out⟩, by simp [intOf]; omega⟩
        · obtain rfl : q = N2 := by omega
          rw [hnf.out] at hI
          have hbri := Lib.hid (bel_trans HB4.out hbi)
          have hI6 := Lib.hid (hI.out.mono (HB4.out.size))
          have hO6 := Lib.hid (HR.out.own.below hbri.out (Nat.le_refl _))
          have hkl : Hid ((rows.take k).length ≤ 2000000) := Lib.hid (by rw [List.length_take]; omega)
          have hlo : Hid ((w1.alloc (.cells #[.int .i64 lim, nilS] 24)).heap.size ≤ wo.heap.size) := Lib.hid HR.out.off.size
          obtain ⟨k0, k1, k2, k3, k4⟩ := HR.out.here.keep hbri.out
          have hbk := Lib.hid (HR.out.here.keep hbri.out)
          go_wp2_with (at_builtin; refine wpList_pushR rfl (.tmp 43) (.tmp 45) rfl (w1.alloc (.cells #[.int .i64 lim, nilS] 24)).heap.size wo.heap.size _ _ hO6.out hlo.out hkl.out _ nums hI6.out rfl rfl rfl ?_)
          intro v7 w7 o7 b7
          rw [size1 w1 (.cells #[.int .i64 lim, nilS] 24)] at o7 b7
          have O7 : Hid (OwnM w7 (w1.alloc (.cells #[.int .i64 lim, nilS] 24)).heap.size w7.heap.size v7 (rows.take (k + 1))) := Lib.hid (by rw [hrt2.out]; exact o7)
          have B7 := Lib.hid b7
          obtain ⟨A7, cap7, hv7, _⟩ := O7.out.formS
          have htk7 : (rows.take (k + 1)).length = k + 1 := by rw [List.length_take, hrlH.out]; omega
          rw [htk7] at hv7
          subst hv7
          clear htk7
          obtain ⟨j0, j1, j2, j3, j4⟩ : Bx2 w7 w1.heap.size (.int .i64 lim) (.slice VA k vcap) := hbk.out.move (b7.block _ HR.out.kl) (by have := Below.size b7; have := hbk.out.2.2.2.2; omega)
          clear o7 b7 k0 k1 k2 k3 k4
          go_wp2_with fail
          exact ⟨⟨k + 1, by omega, by go_num, Lib.hid ⟨_, HR.out.step hbri.out B7.out O7.out⟩⟩, by simp [intOf]; omega⟩
    · obtain rfl : k = N := by omega
      have hfull : rows.take k = rows := List.take_of_length_le (by rw [hrlH.out]; exact Nat.le_refl _)
      rw [hfull] at HR
      have hbr := Lib.hid (HR.out.box br4.out (by omega))
      have hO := Lib.hid HR.out.own
      have hkx := Lib.hid HR.out.here
      have hlo : Hid (w.heap.size < (w1.alloc (.cells #[.int .i64 lim, nilS] 24)).heap.size) := Lib.hid br4.out.2.2.2.2
      clear HR hfull
      obtain ⟨c0, c1, c2, c3, c4⟩ := hkx.out
      obtain ⟨r0, r1, r2, r3, r4⟩ := hbr.out
      have hkne : Hid (w1.heap.size ≠ w.heap.size) := Lib.hid (by omega)
      have hsg := Lib.hid (fun (W : World) (hb : Off w.heap.size (w.heap.size + 1) wo W) => saGood_any lim rows (.slice VA k vcap) wo.heap.size W (hO.out.offK hb hlo.out).rd hb.size)
      cases hg : saG lim rows
      · have hokF : okM s = false := by rw [hok.out, hg]; rfl
        have HO := Lib.hid hokF
        rw [hg] at hsg
        clear hg hokF
        go_wp2_with fail
        first | (go_region_with ((go_at_call 33; refine (hsg.out _ (by first | exact Off.refl _ _ _ | exact (Off.refl _ _ _).below_ (Below.refl _ _).drew)).mono ?_; rintro e w5 ⟨rfl, hb5⟩; have HB5 := Lib.hid (bel_undrawP hb5); obtain ⟨d0, d1, d2, d3, d4⟩ := hkx.out.keep HB5.out; obtain ⟨q0, q1, q2, q3, q4⟩ := hbr.out.keep HB5.out))) | fail
        all_goals
          have hbF := Lib.hid (hbr.out.keep HB5.out)
          have hset := hbF.out.set (.int .i64 lim) (.slice VA k vcap)
          obtain ⟨n0, n1, _⟩ := hset
          have hO9 := Lib.hid (hO.out.below HB5.out (Nat.le_refl _))
          have hs9 : wo.heap.size ≤ w5.heap.size := HB5.out.size
          go_wp2_with fail
          refine bodyPost_ret (v := .tuple #[sts lim (.slice VA k vcap), .bool false]) (by simp [results, Tryd.results15, go_sem, n0, n1]) rfl ?_
          rw [hls.out, hms.out, HO.out]
          refine ⟨_, rfl, ?_, bel_setB (bel_trans blr.out HB5.out) (Nat.le_refl _) _ _⟩
          rw [setB_size]
          exact (((hO9.out.more hs9 (Nat.le_refl _)).setB hlo.out _ _)).low (Nat.le_of_lt hlo.out)
      · have hst2 := Lib.hid (fun (W : World) (hb : Off w.heap.size (w.heap.size + 1) wo W) => saText_any lim rows (.slice VA k vcap) wo.heap.size W (hO.out.offK hb hlo.out).rd hb.size (good_of hg))
        by_cases ht : txtK lim rows rows.length = s
        · have hokF : okM s = true := by rw [hok.out, hg, ht]; simp
          have hd : ((txtK lim rows rows.length).toList == s.toList) = true := by rw [ht]; simp
          have HO := Lib.hid hokF
          rw [hg] at hsg
          clear hg hokF ht
          generalize txtK lim rows rows.length = T at *
          go_wp2_with fail
          go_region_held3 (fun w' => w'.cell? ⟨w1.heap.size, 0, none⟩ = some (.int .i64 lim) ∧ w'.cell? ⟨w1.heap.size, 1, none⟩ = some (.slice VA k vcap) ∧ w1.heap.size < w'.heap.size ∧ w'.frozen? ⟨w.heap.size, 0, none⟩ = false ∧ w'.frozen? ⟨w.heap.size, 1, none⟩ = false ∧ w.heap.size < w'.heap.size ∧ Off w.heap.size (w.heap.size + 1) wo w')
            (first | exact sp_start hkx.out hbr.out | exact sp_keep (by assumption) hb5 | exact sp_keep (by assumption) hb6 | exact sp_store (by assumption) hkne.out _ _ | assumption | go_keep)
            (first | (go_at_call 33; refine (hsg.out _ (sp_off (by assumption))).mono ?_; rintro e w5 ⟨rfl, hb5⟩) | (go_at_call 34; refine (hst2.out _ (sp_off (by assumption))).mono ?_; rintro e w6 ⟨rfl, hb6⟩; have HB6 := Lib.hid (bel_trans (bel_undrawP hb5) hb6); obtain ⟨q0, q1, q2, q3, q4⟩ := hbr.out.keep HB6.out))
          all_goals
            have hbF := Lib.hid (hbr.out.keep HB6.out)
            have hset := hbF.out.set (.int .i64 lim) (.slice VA k vcap)
            obtain ⟨n0, n1, _⟩ := hset
            have hO9 := Lib.hid (hO.out.below HB6.out (Nat.le_refl _))
            have hs9 : wo.heap.size ≤ w6.heap.size := HB6.out.size
            go_wp2_with fail
            refine bodyPost_ret (v := .tuple #[sts lim (.slice VA k vcap), .bool true]) (by simp [results, Tryd.results15, go_sem, n0, n1]) rfl ?_
            rw [hls.out, hms.out, HO.out]
            refine ⟨_, rfl, ?_, bel_setB (bel_trans blr.out HB6.out) (Nat.le_refl _) _ _⟩
            rw [setB_size]
            exact (((hO9.out.more hs9 (Nat.le_refl _)).setB hlo.out _ _)).low (Nat.le_of_lt hlo.out)
        · have hokF : okM s = false := by rw [hok.out, hg]; simp [ht]
          have hd : ((txtK lim rows rows.length).toList == s.toList) = false := by
            rw [beq_eq_false_iff_ne]
            intro e
            rw [ByteArray.toList_eq, ByteArray.toList_eq] at e
            exact ht (ba_eq.2 e)
          have HO := Lib.hid hokF
          rw [hg] at hsg
          clear hg hokF ht
          generalize txtK lim rows rows.length = T at *
          go_wp2_with fail
          go_region_held3 (fun w' => w'.cell? ⟨w1.heap.size, 0, none⟩ = some (.int .i64 lim) ∧ w'.cell? ⟨w1.heap.size, 1, none⟩ = some (.slice VA k vcap) ∧ w1.heap.size < w'.heap.size ∧ w'.frozen? ⟨w.heap.size, 0, none⟩ = false ∧ w'.frozen? ⟨w.heap.size, 1, none⟩ = false ∧ w.heap.size < w'.heap.size ∧ Off w.heap.size (w.heap.size + 1) wo w')
            (first | exact sp_start hkx.out hbr.out | exact sp_keep (by assumption) hb5 | exact sp_keep (by assumption) hb6 | exact sp_store (by assumption) hkne.out _ _ | assumption | go_keep)
            (first | (go_at_call 33; refine (hsg.out _ (sp_off (by assumption))).mono ?_; rintro e w5 ⟨rfl, hb5⟩) | (go_at_call 34; refine (hst2.out _ (sp_off (by assumption))).mono ?_; rintro e w6 ⟨rfl, hb6⟩; have HB6 := Lib.hid (bel_trans (bel_undrawP hb5) hb6); obtain ⟨q0, q1, q2, q3, q4⟩ := hbr.out.keep HB6.out))
          all_goals
            have hbF := Lib.hid (hbr.out.keep HB6.out)
            have hset := hbF.out.set (.int .i64 lim) (.slice VA k vcap)
            obtain ⟨n0, n1, _⟩ := hset
            have hO9 := Lib.hid (hO.out.below HB6.out (Nat.le_refl _))
            have hs9 : wo.heap.size ≤ w6.heap.size := HB6.out.size
            go_wp2_with fail
            refine bodyPost_ret (v := .tuple #[sts lim (.slice VA k vcap), .bool false]) (by simp [results, Tryd.results15, go_sem, n0, n1]) rfl ?_
            rw [hls.out, hms.out, HO.out]
            refine ⟨_, rfl, ?_, bel_setB (bel_trans blr.out HB6.out) (Nat.le_refl _) _ _⟩
            rw [setB_size]
            exact (((hO9.out.more hs9 (Nat.le_refl _)).setB hlo.out _ _)).low (Nat.le_of_lt hlo.out)
end Go.Proofs.YtbfgieolehbedaaDoor
