/- ParseStates: the contract of the program. -/
import Derived.Test.YtbfgieolehbedaaDoorPsW
namespace Go.Proofs.YtbfgieolehbedaaDoor
open Go.ChangeShapes Go.WideShapes Go.ChangeAt Go.RowKit
set_option linter.unusedVariables false
set_option linter.unusedSimpArgs false

/-- A box of two cells that can be written. -/
def Bx2 (w : World) (k : Nat) (x y : Value) : Prop := w.cell? ⟨k, 0, none⟩ = some x ∧ w.cell? ⟨k, 1, none⟩ = some y ∧ w.frozen? ⟨k, 0, none⟩ = false ∧ w.frozen? ⟨k, 1, none⟩ = false ∧ k < w.heap.size
theorem Bx2.new (w : World) (x y : Value) (t : TypeId) : Bx2 (w.alloc (.cells #[x, y] t)) w.heap.size x y := by
  refine ⟨?_, ?_, ?_, ?_, ?_⟩ <;> simp [go_sem]
theorem Bx2.move {w w' : World} {k : Nat} {x y : Value} (h : Bx2 w k x y) (e : w'.heap[k]? = w.heap[k]?) (hs : w.heap.size ≤ w'.heap.size) : Bx2 w' k x y := by
  obtain ⟨a, b, c, d, l⟩ := h
  refine ⟨(World.cell?_of_block (w := w) (a := ⟨k, 0, none⟩) e).trans a, (World.cell?_of_block (w := w) (a := ⟨k, 1, none⟩) e).trans b, ?_, ?_, by omega⟩
  · simp only [World.frozen?, e] at c ⊢; exact c
  · simp only [World.frozen?, e] at d ⊢; exact d
theorem Bx2.keep {w w' : World} {k : Nat} {x y : Value} (h : Bx2 w k x y) (hb : Below w.heap.size w w') : Bx2 w' k x y := h.move (hb.block k h.2.2.2.2) hb.size
theorem Bx2.drewN {w : World} {k : Nat} {x y : Value} (h : Bx2 w k x y) (n : Nat) : Bx2 (w.drewN n) k x y := h
theorem Bx2.set {w : World} {k : Nat} {x y : Value} (h : Bx2 w k x y) (x' y' : Value) : Bx2 ((w.setCell ⟨k, 0, none⟩ x').setCell ⟨k, 1, none⟩ y') k x' y' := by
  obtain ⟨a, b, c, d, l⟩ := h
  refine ⟨?_, ?_, ?_, ?_, ?_⟩
  all_goals simp [go_sem, a, b, c, d, l]
theorem bel_setB {w W : World} {k : Nat} (h : Below w.heap.size w W) (hk : w.heap.size ≤ k) (a b : Value) : Below w.heap.size w ((W.setCell ⟨k, 0, none⟩ a).setCell ⟨k, 1, none⟩ b) :=
  (h.setCell (p := ⟨k, 0, none⟩) hk a).setCell (p := ⟨k, 1, none⟩) hk b
theorem OwnM.setB {w : World} {lo hi k : Nat} {v : Value} {m : List (List Int)} (h : OwnM w lo hi v m) (hk : k < lo) (a b : Value) : OwnM ((w.setCell ⟨k, 0, none⟩ a).setCell ⟨k, 1, none⟩ b) lo hi v m :=
  (h.set_ (p := ⟨k, 0, none⟩) hk a).set_ (p := ⟨k, 1, none⟩) hk b
theorem PsR.box {W3 : World} {kx k : Nat} {lim : Int} {m : List (List Int)} {v x y : Value} {wr : World} (h : PsR W3 kx lim m v wr) (hb : Bx2 W3 k x y) (hne : k ≠ kx) : Bx2 wr k x y := hb.move (h.off.block k hb.2.2.2.2 (by omega)) h.off.size
theorem PsR.here {W3 : World} {kx : Nat} {lim : Int} {m : List (List Int)} {v : Value} {wr : World} (h : PsR W3 kx lim m v wr) : Bx2 wr kx (.int .i64 lim) v := ⟨h.c0, h.c1, h.f0, h.f1, Nat.lt_of_lt_of_le h.kl h.off.size⟩
/-- The call returns these states, of its own, and whether they are some. -/
def PsAns (l : Int) (rs : List (List Int)) (ok : Bool) (w : World) (e : Ending) (w' : World) : Prop := ∃ v, e = .returned (.tuple #[sts l v, .bool ok]) ∧ OwnM w' w.heap.size w'.heap.size v rs ∧ Below w.heap.size w w'
theorem setB_size (w : World) (k : Nat) (a b : Value) : ((w.setCell ⟨k, 0, none⟩ a).setCell ⟨k, 1, none⟩ b).heap.size = w.heap.size := by simp [World.setCell]
theorem ps_no (l : Int) (w W : World) (hb : Below w.heap.size w W) : PsAns 0 [] false w (.returned (.tuple #[sts 0 nilS, .bool false])) ((W.setCell ⟨w.heap.size, 0, none⟩ (.int .i64 0)).setCell ⟨w.heap.size, 1, none⟩ nilS) :=
  ⟨nilS, rfl, OwnM.empty _ (Nat.le_refl _), bel_setB hb (Nat.le_refl _) _ _⟩

set_option maxRecDepth 100000 in
set_option maxHeartbeats 6400000 in
theorem implPS_any (s : ByteArray) (w : World) (hS : Sent w) (hM : MLen w) (hs : s.size ≤ 1048576) :
    Calls Tryd.prog 6 #[.string s] w (PsAns (limS s) (mS s) (okP s) w) := by
  have br0 := Lib.hid (Bx2.new w (.int .i64 0) nilS 24)
  have bl0 := Lib.hid (bel_alloc (Below.refl _ w) (.cells #[.int .i64 0, nilS] 24))
  obtain ⟨X, hX⟩ : ∃ X, baL (Lib.cut s.data.toList [59]).1 = X := ⟨_, rfl⟩
  obtain ⟨R, hR⟩ : ∃ R, baL (Lib.cut s.data.toList [59]).2.1 = R := ⟨_, rfl⟩
  have hc1 := cut_len s.data.toList 59
  rw [len_list] at hc1
  have zX : Hid (X.size ≤ 2000000) := Lib.hid (by rw [← hX, baL_size]; omega)
  have zR0 : R.size ≤ 1048576 := by rw [← hR, baL_size]; omega
  have zR : Hid (R.size ≤ 2000000) := Lib.hid (by omega)
  obtain ⟨lim, hlim⟩ : ∃ a, numI X.data.toList = a := ⟨_, rfl⟩
  obtain ⟨PZ, hPZ⟩ : ∃ PZ, pcs R.data.toList 59 = PZ := ⟨_, rfl⟩
  have hlP : limP s.data.toList = lim := by unfold limP; rw [← hlim, ← hX, baL_toList]
  have hrP : rowsP s.data.toList = PZ.map (fun p => (pcs p 44).map numI) := by unfold rowsP; rw [← hPZ, ← hR, baL_toList]
  have hzl : PZ.length ≤ 1048577 := by have := pcs_len R 59; rw [hPZ] at this; omega
  have hzp : 0 < PZ.length := by
    obtain ⟨p, ps, e⟩ := pcs_cons R.data.toList 59
    rw [hPZ] at e
    rw [e]; simp
  have hzs : Hid (∀ j, j < PZ.length → (PZ.getD j []).length ≤ 1048576) := Lib.hid (fun j hj => by
    have hm : PZ.getD j [] ∈ pcs R.data.toList 59 := by
      rw [hPZ, List.getD_eq_getElem?_getD, List.getElem?_eq_getElem hj]
      exact List.getElem_mem _
    have := pcs_sub hm
    rw [len_list] at this
    omega)
  have EX := Lib.hid hX
  have ER := Lib.hid hR
  have HL := Lib.hid hlim
  have HPZ := Lib.hid hPZ
  have hok : Hid (okP s = (saG lim (PZ.map (fun p => (pcs p 44).map numI)) && decide (txtK lim (PZ.map (fun p => (pcs p 44).map numI)) (PZ.map (fun p => (pcs p 44).map numI)).length = s))) := Lib.hid (by unfold okP; rw [hlP, hrP])
  have hls : Hid (limS s = if okP s then lim else 0) := Lib.hid (by unfold limS; rw [hlP])
  have hms : Hid (mS s = if okP s then PZ.map (fun p => (pcs p 44).map numI) else []) := Lib.hid (by unfold mS; rw [hrP])
  have hrl : (PZ.map (fun p => (pcs p 44).map numI)).length = PZ.length := List.length_map ..
  have hrt : Hid (∀ k, k < PZ.length → (PZ.map (fun p => (pcs p 44).map numI)).take (k + 1) = (PZ.map (fun p => (pcs p 44).map numI)).take k ++ [(pcs (PZ.getD k []) 44).map numI]) := Lib.hid (fun k hk => take_map _ PZ k hk [])
  clear hX hR hlim hPZ hlP hrP hc1
  generalize PZ.map (fun p => (pcs p 44).map numI) = rows at *
  generalize hN : PZ.length = N at *
  have HN := Lib.hid hN
  have hrlH := Lib.hid hrl
  have hSH := Lib.hid hS
  have hMH := Lib.hid hM
  clear hN hrl hS hM
  go_enter Tryd.func6, Tryd.ntmps6
  go_wp2_with fail
  refine (cut_any s 59 _ (by omega)).mono ?_
  rintro e w0 ⟨rfl, n1', rfl⟩
  rw [EX.out, ER.out]
  have br1 := Lib.hid (br0.out.drewN n1')
  have bl1 := Lib.hid (bel_drewN bl0.out n1')
  have s1 := Lib.hid (hSH.out.keep bl1.out)
  go_wp2_with fail
  refine (numberIn_any X _ s1.out zX.out).mono ?_
  rintro e w1 ⟨rfl, hb1⟩
  rw [HL.out]
  have br2 := Lib.hid (br1.out.keep hb1)
  have bl2 := Lib.hid (bel_trans bl1.out hb1)
  clear hb1
  have hbx := bel_alloc (Below.refl _ w1) (.cells #[.int .i64 lim, nilS] 24)
  have br3 := Lib.hid (br2.out.keep hbx)
  have bl3 := Lib.hid (bel_trans bl2.out hbx)
  have bx3 := Lib.hid (Bx2.new w1 (.int .i64 lim) nilS 24)
  have m3 := Lib.hid (hMH.out.keep bl3.out)
  have hks : w.heap.size < w1.heap.size := br2.out.2.2.2.2
  have hz1 : w1.heap.size + 1 = (w1.alloc (.cells #[.int .i64 lim, nilS] 24)).heap.size := size1 _ _
  clear hbx
  go_wp2_with fail
  refine (split_any R 59 _ m3.out zR.out).mono ?_
  rintro e w3 ⟨v3, rfl, hR3, hb3⟩
  rw [HPZ.out] at hR3
  obtain ⟨g, cap, rfl, hbg, hgl, hlc, hcm, hcells⟩ := SRow.cells hR3 (by rw [HN.out]; exact hzp)
  rw [HN.out] at hlc hcells ⊢
  unfold maxLen at hcm
  have br4 := Lib.hid (br3.out.keep hb3)
  have bl4 := Lib.hid (bel_trans bl3.out hb3)
  have bx4 := Lib.hid (bx3.out.keep hb3)
  have hgx : g ≠ w1.heap.size := by omega
  have HC := Lib.hid hcells
  have hst : Hid (PsR w3 w1.heap.size lim (rows.take 0) nilS w3) := Lib.hid (by
    rw [List.take_zero]
    exact PsR.start bx4.out.2.2.2.2 bx4.out.1 bx4.out.2.1 bx4.out.2.2.1 bx4.out.2.2.2.1)
  clear hb3 hR3 hcells hz1 hbg
  go_wp2_with fail
  go_loopw [27] (fun i wr => ∃ k : Nat, k ≤ N ∧ i = .int .i64 k ∧ Hid (∃ v, PsR w3 w1.heap.size lim (rows.take k) v wr)) (fun i _ => N - (intOf i).toNat)
  case atStart => exact ⟨0, by omega, rfl, Lib.hid ⟨_, hst.out⟩⟩
  case round =>
    rename World => wo
    obtain ⟨k, hk, rfl, hrel⟩ := hrel
    obtain ⟨v, hr⟩ := hrel.out
    have HR := Lib.hid hr
    have blr := Lib.hid (hr.bel bl4.out (by omega))
    obtain ⟨VA, vcap, hve, hvc⟩ := hr.own.formS
    have htk : (rows.take k).length = k := by rw [List.length_take, hrlH.out]; omega
    rw [htk] at hve
    subst hve
    clear htk
    clear hr hrel
    by_cases hlt : k < N
    · have hpc := HR.out.cell (HC.out k hlt) hgl hgx
      have zT : Hid ((baL (PZ.getD k [])).size ≤ 1048576) := Lib.hid (by rw [baL_size]; exact hzs.out k hlt)
      have hrt2 := Lib.hid (hrt.out k hlt)
      have eT : Hid ((baL (PZ.getD k [])).data.toList = PZ.getD k []) := Lib.hid (baL_toList _)
      generalize PZ.getD k [] = P at *
      have hzl2 : (pcs P 44).length ≤ 2000000 := by
        have h1 := pcs_len (baL P) 44
        rw [eT.out] at h1
        have := zT.out
        omega
      have hzp2 : 0 < (pcs P 44).length := by
        obtain ⟨p, ps, e⟩ := pcs_cons P 44
        rw [e]; simp
      have hsub : Hid (∀ j, j < (pcs P 44).length → ((pcs P 44).getD j []).length ≤ 2000000) := Lib.hid (fun j hj => by
        have hm : (pcs P 44).getD j [] ∈ pcs P 44 := by
          rw [List.getD_eq_getElem?_getD, List.getElem?_eq_getElem hj]
          exact List.getElem_mem _
        have h1 := pcs_sub hm
        have h2 := zT.out
        rw [baL_size] at h2
        omega)
      have hnt : Hid (∀ q, q < (pcs P 44).length → ((pcs P 44).map numI).take (q + 1) = ((pcs P 44).map numI).take q ++ [numI ((pcs P 44).getD q [])]) := Lib.hid (fun q hq => take_map numI _ q hq [])
      have hnl : ((pcs P 44).map numI).length = (pcs P 44).length := List.length_map ..
      have hnf : Hid (((pcs P 44).map numI).take (pcs P 44).length = (pcs P 44).map numI) := Lib.hid (List.take_of_length_le (by rw [hnl]; exact Nat.le_refl _))
      have EQ : Hid (pcs (baL P).data.toList 44 = pcs P 44) := Lib.hid (by rw [eT.out])
      have hnlH := Lib.hid hnl
      clear hnl
      generalize (pcs P 44).map numI = nums at *
      generalize pcs P 44 = Q at *
      generalize hN2 : Q.length = N2 at *
      have HN2 := Lib.hid hN2
      clear hN2
      have m5 := Lib.hid (hMH.out.keep blr.out)
      go_wp2_with fail
      refine (split_any (baL P) 44 _ m5.out (by have := zT.out; omega)).mono ?_
      rintro e u1 ⟨v4, rfl, hR4, hb4⟩
      rw [EQ.out] at hR4
      obtain ⟨g2, cap2, rfl, hbg2, hgl2, hlc2, hcm2, hcells2⟩ := SRow.cells hR4 (by rw [HN2.out]; exact hzp2)
      rw [HN2.out] at hlc2 hcells2 ⊢
      unfold maxLen at hcm2
      have HC2 := Lib.hid hcells2
      have HB4 := Lib.hid hb4
      have blu := Lib.hid (bel_trans blr.out hb4)
      clear hR4 hcells2 hbg2 hb4 hpc
      go_wp2_with fail
      go_loopw [10, 34] (fun x j wi => ∃ (q : Nat) (xA : Option Addr) (xcap : Nat), q ≤ N2 ∧ j = .int .i64 q ∧ x = .slice xA q xcap ∧ Hid (IRow wi u1.heap.size (.slice xA q xcap) (nums.take q)) ∧ Below u1.heap.size u1 wi) (fun _ j _ => N2 - (intOf j).toNat)
      case atStart => exact ⟨0, none, 0, by omega, rfl, rfl, Lib.hid (by rw [List.take_zero]; exact IRow.nil _ _), Below.refl _ _⟩
      case round =>
        obtain ⟨q, xA, xcap, hq, rfl, rfl, hI, hbi⟩ := hrel
        have bli := Lib.hid (bel_trans blu.out hbi)
        by_cases hlt2 : q < N2
        · have hpc2 := (hbi.cell (p := ⟨g2, q, none⟩) hgl2).trans (HC2.out q hlt2)
          have zT2 : Hid ((baL (Q.getD q [])).size ≤ 2000000) := Lib.hid (by rw [baL_size]; exact hsub.out q hlt2)
          have hnt2 := Lib.hid (hnt.out q hlt2)
          have eT2 : Hid (numI (baL (Q.getD q [])).data.toList = numI (Q.getD q [])) := Lib.hid (by rw [baL_toList])
          have s5 := Lib.hid (hSH.out.keep bli.out)
          have hql : Hid ((nums.take q).length ≤ 2000000) := Lib.hid (by rw [List.length_take]; omega)
          generalize baL (Q.getD q []) = T2 at *
          generalize numI (Q.getD q []) = x2 at *
          go_wp2_with fail
          refine (numberIn_any T2 _ s5.out zT2.out).mono ?_
          rintro e w5 ⟨rfl, hb5⟩
          rw [eT2.out]
          have hI5 := Lib.hid (hI.out.below hb5)
          have hbi5 := Lib.hid (bel_trans hbi hb5)
          have hs5 : u1.heap.size ≤ w5.heap.size := hbi5.out.size
          clear hb5 hpc2
          go_wp2_with (at_builtin; refine wpList_pushI rfl (.tmp 38) (.tmp 41) rfl u1.heap.size _ _ hI5.out hql.out hs5 x2 rfl rfl ?_)
          intro v6 w6 r6 b6
          have R6 : Hid (IRow w6 u1.heap.size v6 (nums.take (q + 1))) := Lib.hid (by rw [hnt2.out]; exact r6)
          have B6 := Lib.hid (hbi5.out.trans b6)
          obtain ⟨xA6, xcap6, rfl⟩ : ∃ A c, v6 = .slice A (q + 1) c := by
            have hl6 : (nums.take (q + 1)).length = q + 1 := by rw [List.length_take, hnlH.out]; omega
            rcases R6.out.form with ⟨h0, A, c, e⟩ | ⟨h0, gg, c, e, _⟩
            · rw [h0] at hl6; simp at hl6
            · rw [hl6] at e; exact ⟨_, c, e⟩
          clear r6 b6
          go_wp2_with fail
          exact ⟨⟨q + 1, _, _, by omega, by go_num, rfl, R6, B6.out⟩, by simp [intOf]; omega⟩
        · obtain rfl : q = N2 := by omega
          rw [hnf.out] at hI
          have hbri := Lib.hid (bel_trans HB4.out hbi)
          have hI6 := Lib.hid (hI.out.mono (HB4.out.size))
          have hO6 := Lib.hid (HR.out.own.below hbri.out (Nat.le_refl _))
          have hkl : Hid ((rows.take k).length ≤ 2000000) := Lib.hid (by rw [List.length_take]; omega)
          have hlo : Hid (w3.heap.size ≤ wo.heap.size) := Lib.hid HR.out.off.size
          obtain ⟨k0, k1, k2, k3, k4⟩ := HR.out.here.keep hbri.out
          have hbk := Lib.hid (HR.out.here.keep hbri.out)
          go_wp2_with (at_builtin; refine wpList_pushR rfl (.tmp 45) (.tmp 47) rfl w3.heap.size wo.heap.size _ _ hO6.out hlo.out hkl.out _ nums hI6.out rfl rfl rfl ?_)
          intro v7 w7 o7 b7
          have O7 : Hid (OwnM w7 w3.heap.size w7.heap.size v7 (rows.take (k + 1))) := Lib.hid (by rw [hrt2.out]; exact o7)
          have B7 := Lib.hid b7
          obtain ⟨A7, cap7, hv7, _⟩ := O7.out.formS
          have htk7 : (rows.take (k + 1)).length = k + 1 := by rw [List.length_take, hrlH.out]; omega
          rw [htk7] at hv7
          subst hv7
          clear htk7
          obtain ⟨j0, j1, j2, j3, j4⟩ : Bx2 w7 w1.heap.size (.int .i64 lim) (.slice VA k vcap) := hbk.out.move (b7.block _ HR.out.kl) (by have := Below.size b7; have := hbk.out.2.2.2.2; omega)
          clear o7 b7 k0 k1 k2 k3 k4
          go_wp2_with fail
          exact ⟨⟨k + 1, by omega, by go_num, Lib.hid ⟨_, HR.out.step hbri.out B7.out O7.out⟩⟩, by simp [intOf]; omega⟩
    · obtain rfl : k = N := by omega
      have hfull : rows.take k = rows := List.take_of_length_le (by rw [hrlH.out]; exact Nat.le_refl _)
      rw [hfull] at HR
      have hbr := Lib.hid (HR.out.box br4.out (by omega))
      have hO := Lib.hid HR.out.own
      have hkx := Lib.hid HR.out.here
      have hlo : Hid (w.heap.size < w3.heap.size) := Lib.hid br4.out.2.2.2.2
      clear HR hfull
      obtain ⟨c0, c1, c2, c3, c4⟩ := hkx.out
      go_wp2_with fail
      refine (implText_any lim rows _ _ _ hO.out.rd (Nat.le_refl _)).mono ?_
      rintro e w8 ⟨rfl, hb8⟩
      have bl8 := Lib.hid (bel_trans blr.out hb8)
      have hO8 := Lib.hid (hO.out.below hb8 (Nat.le_refl _))
      have hs8 : wo.heap.size ≤ w8.heap.size := hb8.size
      have hbr8 := Lib.hid (hbr.out.keep hb8)
      have hkx8 := Lib.hid (hkx.out.keep hb8)
      clear c0 c1 c2 c3 c4 hb8
      obtain ⟨r0, r1, r2, r3, r4⟩ := hbr8.out
      obtain ⟨c0, c1, c2, c3, c4⟩ := hkx8.out
      cases hg : saG lim rows
      · have hokF : okP s = false := by rw [hok.out, hg]; rfl
        have HT : ansText lim rows = .tuple #[.string ⟨#[]⟩, .bool false] := by unfold ansText; rw [hg]; rfl
        rw [HT]
        rw [hokF] at hls hms
        have HO := Lib.hid hokF
        clear hg hokF HT
        go_wp2_with fail
        obtain ⟨n0, n1, _⟩ := hbr8.out.set (.int .i64 0) nilS
        refine bodyPost_ret (v := .tuple #[sts 0 nilS, .bool false]) (by simp [results, Tryd.results6, go_sem, n0, n1]) rfl ?_
        rw [hls.out, hms.out, HO.out]
        exact ps_no lim w w8 bl8.out
      · have HT : ansText lim rows = .tuple #[.string (txtK lim rows rows.length), .bool true] := by unfold ansText; rw [hg]; rfl
        rw [HT]
        by_cases ht : txtK lim rows rows.length = s
        · have hokF : okP s = true := by rw [hok.out, hg, ht]; simp
          have hd : ((txtK lim rows rows.length).toList == s.toList) = true := by rw [ht]; simp
          have hd2 : ((txtK lim rows rows.length).toList != s.toList) = false := by rw [ht]; simp
          rw [hokF] at hls hms
          have HO := Lib.hid hokF
          clear hg hokF HT ht
          generalize txtK lim rows rows.length = T at *
          go_wp2_with fail
          have hset := hbr8.out.set (.int .i64 lim) (.slice VA k vcap)
          obtain ⟨n0, n1, _⟩ := hset
          refine bodyPost_ret (v := .tuple #[sts lim (.slice VA k vcap), .bool true]) (by simp [results, Tryd.results6, go_sem, n0, n1]) rfl ?_
          rw [hls.out, hms.out, HO.out]
          refine ⟨_, rfl, ?_, bel_setB bl8.out (Nat.le_refl _) _ _⟩
          rw [setB_size]
          exact (((hO8.out.more hs8 (Nat.le_refl _)).setB hlo.out _ _)).low (Nat.le_of_lt hlo.out)
        · have hokF : okP s = false := by rw [hok.out, hg]; simp [ht]
          have hd : ((txtK lim rows rows.length).toList == s.toList) = false := by
            rw [beq_eq_false_iff_ne]
            intro e
            rw [ByteArray.toList_eq, ByteArray.toList_eq] at e
            exact ht (ba_eq.2 e)
          have hd2 : ((txtK lim rows rows.length).toList != s.toList) = true := by simp [bne, hd]
          rw [hokF] at hls hms
          have HO := Lib.hid hokF
          clear hg hokF HT ht
          generalize txtK lim rows rows.length = T at *
          go_wp2_with fail
          obtain ⟨n0, n1, _⟩ := hbr8.out.set (.int .i64 0) nilS
          refine bodyPost_ret (v := .tuple #[sts 0 nilS, .bool false]) (by simp [results, Tryd.results6, go_sem, n0, n1]) rfl ?_
          rw [hls.out, hms.out, HO.out]
          exact ps_no lim w w8 bl8.out
end Go.Proofs.YtbfgieolehbedaaDoor
