/- ParseStates: the model's reading, where there is none. -/
import Derived.Test.YtbfgieolehbedaaDoorPsS0
namespace Go.Proofs.YtbfgieolehbedaaDoor
open Go.ChangeShapes Go.WideShapes Go.ChangeAt Go.RowKit
set_option linter.unusedVariables false
set_option linter.unusedSimpArgs false

set_option maxRecDepth 100000 in
set_option maxHeartbeats 12800000 in
theorem saParse_nil (s : ByteArray) (w : World) (hs : s.size ≤ 1048576) (h90 : s.size ≤ 90) (p0 : List UInt8) (PZ : List (List UInt8)) (hPZ : prtL s.data.toList 59 = p0 :: PZ) (h0 : PZ.length = 0) :
    Calls Tryd.prog 15 #[.string s] w (PsAns (limQ s) (mQ s) (okM s) w) := by
  have br0 := Lib.hid (Bx2.new w (.int .i64 0) nilS 24)
  have bl0 := Lib.hid (bel_alloc (Below.refl _ w) (.cells #[.int .i64 0, nilS] 24))
  have z5 : ¬ (90 : Int) < (s.size : Int) := by omega
  have z6 : decide ((90 : Int) < (s.size : Int)) = false := by simp; omega
  obtain ⟨lim, hlim⟩ : ∃ a, rdN p0 = a := ⟨_, rfl⟩
  have hlM : limM s.data.toList = lim := by unfold limM; rw [hPZ]; exact hlim
  have hrM : rowsM s.data.toList = PZ.map (fun p => (prtL p 44).map rdN) := by unfold rowsM; rw [hPZ]; rfl
  have hpl := prtL_len s.data.toList 59
  rw [len_list, hPZ, List.length_cons] at hpl
  have hzl : PZ.length ≤ 90 := by omega
  have hsb : ∀ z ∈ p0 :: PZ, z.length ≤ 90 := fun z hz => by
    have := prtL_sub (b := 59) (show z ∈ prtL s.data.toList 59 from by rw [hPZ]; exact hz)
    rw [len_list] at this
    omega
  have zX : Hid ((baL p0).size ≤ maxLen) := Lib.hid (by rw [baL_size]; have := hsb p0 (by simp); unfold maxLen; omega)
  have hzs : Hid (∀ j, j < PZ.length → (PZ.getD j []).length ≤ 1048576) := Lib.hid (fun j hj => by
    have hm : PZ.getD j [] ∈ p0 :: PZ := by
      rw [List.getD_eq_getElem?_getD, List.getElem?_eq_getElem hj]
      exact List.mem_cons_of_mem _ (List.getElem_mem _)
    have := hsb _ hm
    omega)
  have HL : Hid (rdN (baL p0).data.toList = lim) := Lib.hid (by rw [baL_toList]; exact hlim)
  have HPZ := Lib.hid hPZ
  have hok : Hid (okM s = (saG lim (PZ.map (fun p => (prtL p 44).map rdN)) && decide (txtK lim (PZ.map (fun p => (prtL p 44).map rdN)) (PZ.map (fun p => (prtL p 44).map rdN)).length = s))) := Lib.hid (by unfold okM; rw [hlM, hrM]; simp [h90])
  have hls : Hid (limQ s = lim) := Lib.hid (by unfold limQ; rw [if_pos h90, hlM])
  have hms : Hid (mQ s = PZ.map (fun p => (prtL p 44).map rdN)) := Lib.hid (by unfold mQ; rw [if_pos h90, hrM])
  have hrl : (PZ.map (fun p => (prtL p 44).map rdN)).length = PZ.length := List.length_map ..
  have hrt : Hid (∀ k, k < PZ.length → (PZ.map (fun p => (prtL p 44).map rdN)).take (k + 1) = (PZ.map (fun p => (prtL p 44).map rdN)).take k ++ [(prtL (PZ.getD k []) 44).map rdN]) := Lib.hid (fun k hk => take_map _ PZ k hk [])
  clear hPZ hlim hlM hrM hpl hsb
  generalize PZ.map (fun p => (prtL p 44).map rdN) = rows at *
  generalize hN : PZ.length = N at *
  have HN := Lib.hid hN
  have hrlH := Lib.hid hrl
  have H0 := Lib.hid h0
  clear hN hrl h0
  go_enter Tryd.func15, Tryd.ntmps15
  go_wp2_with fail
  refine (l1Split_any s 59 _ hs).mono ?_
  rintro e w1 ⟨v1, rfl, hR1, hb1⟩
  rw [HPZ.out] at hR1
  obtain ⟨g, cap, rfl, hbg, hgl, hlc, hcm, hcells⟩ := SRow.cells hR1 (by simp)
  rw [List.length_cons, HN.out] at hlc hcells ⊢
  unfold maxLen at hcm
  by_cases hcap : cap = 1
  · subst hcap
    have br1 := Lib.hid (br0.out.keep hb1)
    have bl1 := Lib.hid (bel_trans bl0.out hb1)
    have hc0 := hcells 0 (by omega)
    have HC : Hid (∀ j, j < N → (w1.alloc (.cells #[.int .i64 lim, nilS] 24)).cell? ⟨g, 1 + j, none⟩ = some (.string (baL (PZ.getD j [])))) := Lib.hid (fun j hj => by
      have := hcells (j + 1) (by omega)
      rw [Nat.add_comm 1 j]
      exact Lib.cell?_alloc_some _ this)
    have hd0 : (p0 :: PZ).getD 0 [] = p0 := rfl
    rw [hd0] at hc0
    clear hR1 hcells hb1 hd0
    go_wp2_with fail
    refine (l1Read_any (baL p0) _ zX.out).mono ?_
    rintro e w2 ⟨rfl, rfl⟩
    rw [HL.out]
    have hgx : g ≠ w1.heap.size := by omega
    have hbx := bel_alloc (Below.refl _ w1) (.cells #[.int .i64 lim, nilS] 24)
    have br4 := Lib.hid (br1.out.keep hbx)
    have bl4 := Lib.hid (bel_trans bl1.out hbx)
    have bx4 := Lib.hid (Bx2.new w1 (.int .i64 lim) nilS 24)
    have hks : w.heap.size < w1.heap.size := br1.out.2.2.2.2
    have hst : Hid (PsR (w1.alloc (.cells #[.int .i64 lim, nilS] 24)) w1.heap.size lim (rows.take 0) nilS (w1.alloc (.cells #[.int .i64 lim, nilS] 24))) := Lib.hid (by
      rw [List.take_zero]
      exact PsR.start bx4.out.2.2.2.2 bx4.out.1 bx4.out.2.1 bx4.out.2.2.1 bx4.out.2.2.2.1)
    have hs1 : (1 : Int) ≤ (N : Int) + 1 := by omega
    have hs2 : (N : Int) + 1 ≤ 1 := by omega
    clear hbx hbg
    go_wp2_with fail
    go_loopw [25] (fun i wr => ∃ k : Nat, k ≤ N ∧ i = .int .i64 k ∧ Hid (∃ v, PsR (w1.alloc (.cells #[.int .i64 lim, nilS] 24)) w1.heap.size lim (rows.take k) v wr)) (fun i _ => N - (intOf i).toNat)
    case atStart => exact ⟨0, by omega, rfl, Lib.hid ⟨_, hst.out⟩⟩
    case round =>
      rename World => wo
      obtain ⟨k, hk, rfl, hrel⟩ := hrel
      obtain ⟨v, hr⟩ := hrel.out
      have HR := Lib.hid hr
      have blr := Lib.hid (hr.bel bl4.out (by omega))
      obtain ⟨VA, vcap, hve, hvc⟩ := hr.own.formS
      have htk : (rows.take k).length = k := by rw [List.length_take, hrlH.out]; omega
      rw [htk] at hve
      subst hve
      clear htk
      clear hr hrel
      by_cases hlt : k < N
      · exact absurd hlt (by have := H0.out; omega)
      · obtain rfl : k = N := by omega
        have hfull : rows.take k = rows := List.take_of_length_le (by rw [hrlH.out]; exact Nat.le_refl _)
        rw [hfull] at HR
        have hbr := Lib.hid (HR.out.box br4.out (by omega))
        have hO := Lib.hid HR.out.own
        have hkx := Lib.hid HR.out.here
        have hlo : Hid (w.heap.size < (w1.alloc (.cells #[.int .i64 lim, nilS] 24)).heap.size) := Lib.hid br4.out.2.2.2.2
        clear HR hfull
        obtain ⟨c0, c1, c2, c3, c4⟩ := hkx.out
        obtain ⟨r0, r1, r2, r3, r4⟩ := hbr.out
        have hkne : Hid (w1.heap.size ≠ w.heap.size) := Lib.hid (by omega)
        have hsg := Lib.hid (fun (W : World) (hb : Off w.heap.size (w.heap.size + 1) wo W) => saGood_any lim rows (.slice VA k vcap) wo.heap.size W (hO.out.offK hb hlo.out).rd hb.size)
        cases hg : saG lim rows
        · have hokF : okM s = false := by rw [hok.out, hg]; rfl
          have HO := Lib.hid hokF
          rw [hg] at hsg
          clear hg hokF
          go_wp2_with fail
          first | (go_region_with ((go_at_call 33; refine (hsg.out _ (by first | exact Off.refl _ _ _ | exact (Off.refl _ _ _).below_ (Below.refl _ _).drew)).mono ?_; rintro e w5 ⟨rfl, hb5⟩; have HB5 := Lib.hid (bel_undrawP hb5); obtain ⟨d0, d1, d2, d3, d4⟩ := hkx.out.keep HB5.out; obtain ⟨q0, q1, q2, q3, q4⟩ := hbr.out.keep HB5.out))) | fail
          all_goals
            have hbF := Lib.hid (hbr.out.keep HB5.out)
            have hset := hbF.out.set (.int .i64 lim) (.slice VA k vcap)
            obtain ⟨n0, n1, _⟩ := hset
            have hO9 := Lib.hid (hO.out.below HB5.out (Nat.le_refl _))
            have hs9 : wo.heap.size ≤ w5.heap.size := HB5.out.size
            go_wp2_with fail
            refine bodyPost_ret (v := .tuple #[sts lim (.slice VA k vcap), .bool false]) (by simp [results, Tryd.results15, go_sem, n0, n1]) rfl ?_
            rw [hls.out, hms.out, HO.out]
            refine ⟨_, rfl, ?_, bel_setB (bel_trans blr.out HB5.out) (Nat.le_refl _) _ _⟩
            rw [setB_size]
            exact (((hO9.out.more hs9 (Nat.le_refl _)).setB hlo.out _ _)).low (Nat.le_of_lt hlo.out)
        · exact absurd (good_of hg).one (by rw [hrlH.out]; have := H0.out; omega)
  · skip
    have br1 := Lib.hid (br0.out.keep hb1)
    have bl1 := Lib.hid (bel_trans bl0.out hb1)
    have hc0 := hcells 0 (by omega)
    have HC : Hid (∀ j, j < N → (w1.alloc (.cells #[.int .i64 lim, nilS] 24)).cell? ⟨g, 1 + j, none⟩ = some (.string (baL (PZ.getD j [])))) := Lib.hid (fun j hj => by
      have := hcells (j + 1) (by omega)
      rw [Nat.add_comm 1 j]
      exact Lib.cell?_alloc_some _ this)
    have hd0 : (p0 :: PZ).getD 0 [] = p0 := rfl
    rw [hd0] at hc0
    clear hR1 hcells hb1 hd0
    go_wp2_with fail
    refine (l1Read_any (baL p0) _ zX.out).mono ?_
    rintro e w2 ⟨rfl, rfl⟩
    rw [HL.out]
    have hgx : g ≠ w1.heap.size := by omega
    have hbx := bel_alloc (Below.refl _ w1) (.cells #[.int .i64 lim, nilS] 24)
    have br4 := Lib.hid (br1.out.keep hbx)
    have bl4 := Lib.hid (bel_trans bl1.out hbx)
    have bx4 := Lib.hid (Bx2.new w1 (.int .i64 lim) nilS 24)
    have hks : w.heap.size < w1.heap.size := br1.out.2.2.2.2
    have hst : Hid (PsR (w1.alloc (.cells #[.int .i64 lim, nilS] 24)) w1.heap.size lim (rows.take 0) nilS (w1.alloc (.cells #[.int .i64 lim, nilS] 24))) := Lib.hid (by
      rw [List.take_zero]
      exact PsR.start bx4.out.2.2.2.2 bx4.out.1 bx4.out.2.1 bx4.out.2.2.1 bx4.out.2.2.2.1)
    have hs1 : (1 : Int) ≤ (N : Int) + 1 := by omega
    have hs2 : (N : Int) + 1 ≤ (cap : Int) := by omega
    clear hbx hbg
    go_wp2_with fail
    go_loopw [25] (fun i wr => ∃ k : Nat, k ≤ N ∧ i = .int .i64 k ∧ Hid (∃ v, PsR (w1.alloc (.cells #[.int .i64 lim, nilS] 24)) w1.heap.size lim (rows.take k) v wr)) (fun i _ => N - (intOf i).toNat)
    case atStart => exact ⟨0, by omega, rfl, Lib.hid ⟨_, hst.out⟩⟩
    case round =>
      rename World => wo
      obtain ⟨k, hk, rfl, hrel⟩ := hrel
      obtain ⟨v, hr⟩ := hrel.out
      have HR := Lib.hid hr
      have blr := Lib.hid (hr.bel bl4.out (by omega))
      obtain ⟨VA, vcap, hve, hvc⟩ := hr.own.formS
      have htk : (rows.take k).length = k := by rw [List.length_take, hrlH.out]; omega
      rw [htk] at hve
      subst hve
      clear htk
      clear hr hrel
      by_cases hlt : k < N
      · exact absurd hlt (by have := H0.out; omega)
      · obtain rfl : k = N := by omega
        have hfull : rows.take k = rows := List.take_of_length_le (by rw [hrlH.out]; exact Nat.le_refl _)
        rw [hfull] at HR
        have hbr := Lib.hid (HR.out.box br4.out (by omega))
        have hO := Lib.hid HR.out.own
        have hkx := Lib.hid HR.out.here
        have hlo : Hid (w.heap.size < (w1.alloc (.cells #[.int .i64 lim, nilS] 24)).heap.size) := Lib.hid br4.out.2.2.2.2
        clear HR hfull
        obtain ⟨c0, c1, c2, c3, c4⟩ := hkx.out
        obtain ⟨r0, r1, r2, r3, r4⟩ := hbr.out
        have hkne : Hid (w1.heap.size ≠ w.heap.size) := Lib.hid (by omega)
        have hsg := Lib.hid (fun (W : World) (hb : Off w.heap.size (w.heap.size + 1) wo W) => saGood_any lim rows (.slice VA k vcap) wo.heap.size W (hO.out.offK hb hlo.out).rd hb.size)
        cases hg : saG lim rows
        · have hokF : okM s = false := by rw [hok.out, hg]; rfl
          have HO := Lib.hid hokF
          rw [hg] at hsg
          clear hg hokF
          go_wp2_with fail
          first | (go_region_with ((go_at_call 33; refine (hsg.out _ (by first | exact Off.refl _ _ _ | exact (Off.refl _ _ _).below_ (Below.refl _ _).drew)).mono ?_; rintro e w5 ⟨rfl, hb5⟩; have HB5 := Lib.hid (bel_undrawP hb5); obtain ⟨d0, d1, d2, d3, d4⟩ := hkx.out.keep HB5.out; obtain ⟨q0, q1, q2, q3, q4⟩ := hbr.out.keep HB5.out))) | fail
          all_goals
            have hbF := Lib.hid (hbr.out.keep HB5.out)
            have hset := hbF.out.set (.int .i64 lim) (.slice VA k vcap)
            obtain ⟨n0, n1, _⟩ := hset
            have hO9 := Lib.hid (hO.out.below HB5.out (Nat.le_refl _))
            have hs9 : wo.heap.size ≤ w5.heap.size := HB5.out.size
            go_wp2_with fail
            refine bodyPost_ret (v := .tuple #[sts lim (.slice VA k vcap), .bool false]) (by simp [results, Tryd.results15, go_sem, n0, n1]) rfl ?_
            rw [hls.out, hms.out, HO.out]
            refine ⟨_, rfl, ?_, bel_setB (bel_trans blr.out HB5.out) (Nat.le_refl _) _ _⟩
            rw [setB_size]
            exact (((hO9.out.more hs9 (Nat.le_refl _)).setB hlo.out _ _)).low (Nat.le_of_lt hlo.out)
        · exact absurd (good_of hg).one (by rw [hrlH.out]; have := H0.out; omega)
end Go.Proofs.YtbfgieolehbedaaDoor
