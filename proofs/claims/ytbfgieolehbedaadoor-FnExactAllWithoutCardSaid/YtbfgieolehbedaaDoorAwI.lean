/- AllWithout: the contracts of both functions, and the walk. -/
import Derived.Test.YtbfgieolehbedaaDoorAwS
namespace Go.Proofs.YtbfgieolehbedaaDoor
open Go.ChangeShapes Go.WideShapes Go.ChangeAt Go.RowKit
set_option linter.unusedVariables false
set_option linter.unusedSimpArgs false

def AwT (xs : List ByteArray) (ok : Bool) (w : World) (e : Ending) (w' : World) : Prop :=
  ∃ v, e = .returned (.tuple #[v, .bool ok]) ∧ SRow w' w.heap.size v xs ∧ Below w.heap.size w w'
def okAW (p : ByteArray) (n : Int) : Bool := patG p && (inB n 0 12 && decide ((awL p n.toNat).length ≤ 200))
def ansAW (p : ByteArray) (n : Int) : List ByteArray := if okAW p n then awL p n.toNat else []
theorem ansAW_no {p : ByteArray} {n : Int} (h : okAW p n = false) : ansAW p n = [] := by unfold ansAW; rw [h]; rfl
theorem ansAW_yes {p : ByteArray} {n : Int} (h : okAW p n = true) : ansAW p n = awL p n.toNat := by unfold ansAW; rw [h]; rfl
theorem ansAW_len (p : ByteArray) (n : Int) : (ansAW p n).length ≤ 200 := by
  cases h : okAW p n
  · rw [ansAW_no h]; simp
  · rw [ansAW_yes h]
    unfold okAW at h
    simp only [Bool.and_eq_true, decide_eq_true_eq] at h
    exact h.2.2
theorem awL_len (p : ByteArray) (t : Nat) : (awL p t).length = ((allL t).filter (freeL p.data.toList)).length := by unfold awL; rw [List.length_map]
theorem awL_list (p : ByteArray) (h1 : 1 ≤ p.size) (t : Nat) : (lstL p.data.toList t (⟨#[]⟩ : ByteArray).data.toList).map baT = awL p t := by
  have hP := len_list p
  have hne : p.data.toList ≠ [] := by intro e; rw [e] at hP; simp at hP; omega
  show (lstL p.data.toList t []).map baT = _
  rw [lst_all hne]
  rfl

set_option maxRecDepth 100000 in
set_option maxHeartbeats 3200000 in
theorem specAW_any (p : ByteArray) (n : Int) (w : World) (hp : p.size ≤ maxLen) :
    Calls Tryd.prog 10 #[.string p, .int .i64 n] w (AwT (ansAW p n) (okAW p n) w) := by
  cases h1 : patG p
  · have ho : okAW p n = false := by unfold okAW; rw [h1]; rfl
    rw [ansAW_no ho, ho]
    clear ho
    go_enter Tryd.func10, Tryd.ntmps10
    go_wp2_with fail
    refine (ptGood_any p _ hp).mono ?_
    rintro e w1 ⟨rfl, rfl⟩
    rw [h1]
    go_wp2_with fail
    go_ret2
    exact ⟨_, rfl, SRow.nil _ _, Below.refl _ _⟩
  · cases h2 : inB n 0 12
    · have ho : okAW p n = false := by unfold okAW; rw [h1, h2]; rfl
      rw [ansAW_no ho, ho]
      clear ho
      go_enter Tryd.func10, Tryd.ntmps10
      go_wp2_with fail
      refine (ptGood_any p _ hp).mono ?_
      rintro e w1 ⟨rfl, rfl⟩
      rw [h1]
      go_wp2_with fail
      refine (l1In_any _ _ _ _).mono ?_
      rintro e w2 ⟨rfl, rfl⟩
      rw [h2]
      go_wp2_with fail
      go_ret2
      exact ⟨_, rfl, SRow.nil _ _, Below.refl _ _⟩
    · obtain ⟨n0, n4⟩ := (inB_iff _ _ _).1 h2
      obtain ⟨t, rfl⟩ := Int.eq_ofNat_of_zero_le (show 0 ≤ n by omega)
      have ht : t ≤ 12 := by omega
      obtain ⟨p1, p2, p3⟩ := pat_in h1
      have hwl : Hid (sumJ (cntS p t) p.size = ((awL p t).length : Int)) := Lib.hid (by rw [without_len p p1 t, awL_len])
      have hll : Hid ((lstL p.data.toList t (⟨#[]⟩ : ByteArray).data.toList).map baT = awL p t) := Lib.hid (awL_list p p1 t)
      have ho1 : okAW p (t : Int) = decide ((awL p t).length ≤ 200) := by unfold okAW; rw [h1, h2]; rfl
      clear p3
      by_cases h3 : (awL p t).length ≤ 200
      · have ho : okAW p (t : Int) = true := by rw [ho1]; simpa using h3
        rw [ansAW_yes ho, ho]
        rw [show ((t : Int)).toNat = t from rfl]
        clear ho ho1
        generalize awL p t = R at *
        generalize hL : R.length = L at *
        have hd : decide ((200 : Int) < (L : Int)) = false := by simp; omega
        have hd2 : decide (200 < L) = false := by simp; omega
        have HL := Lib.hid hL
        clear hL
        go_enter Tryd.func10, Tryd.ntmps10
        go_wp2_with fail
        refine (ptGood_any p _ hp).mono ?_
        rintro e w1 ⟨rfl, rfl⟩
        rw [h1]
        go_wp2_with fail
        refine (l1In_any _ _ _ _).mono ?_
        rintro e w2 ⟨rfl, rfl⟩
        rw [h2]
        go_wp2_with fail
        refine (ptWithout_any p t _ p1 p2 (by omega)).mono ?_
        rintro e w3 ⟨rfl, b3⟩
        rw [hwl.out]
        go_wp2_with fail
        refine (ptList_any p p1 p2 t ⟨#[]⟩ _ (by show 0 + t ≤ 12; omega)).mono ?_
        rw [hll.out]
        rintro e w4 ⟨v, rfl, r4, b4⟩
        have R4 := Lib.hid (r4.mono b3.size)
        have B4 := Lib.hid (bel_trans b3 b4)
        clear r4
        go_wp2_with fail
        go_ret2
        exact ⟨_, rfl, R4.out, B4.out⟩
      · have ho : okAW p (t : Int) = false := by rw [ho1]; simpa using h3
        rw [ansAW_no ho, ho]
        clear ho ho1
        generalize awL p t = R at *
        generalize hL : R.length = L at *
        have hd : decide ((200 : Int) < (L : Int)) = true := by simp; omega
        have hd2 : decide (200 < L) = true := by simp; omega
        clear hL
        go_enter Tryd.func10, Tryd.ntmps10
        go_wp2_with fail
        refine (ptGood_any p _ hp).mono ?_
        rintro e w1 ⟨rfl, rfl⟩
        rw [h1]
        go_wp2_with fail
        refine (l1In_any _ _ _ _).mono ?_
        rintro e w2 ⟨rfl, rfl⟩
        rw [h2]
        go_wp2_with fail
        refine (ptWithout_any p t _ p1 p2 (by omega)).mono ?_
        rintro e w3 ⟨rfl, b3⟩
        rw [hwl.out]
        go_wp2_with fail
        go_ret2
        exact ⟨_, rfl, SRow.nil _ _, b3⟩

theorem take_free (P : LB) (LL : List LB) (k : Nat) (hk : k < LL.length) : ((LL.take (k + 1)).filter (freeL P)).map baT = ((LL.take k).filter (freeL P)).map baT ++ (if freeL P (LL.getD k []) then [baT (LL.getD k [])] else []) := by
  rw [List.take_succ_eq_append_getElem hk, List.filter_append, List.map_append, List.getD_eq_getElem?_getD, List.getElem?_eq_getElem hk]
  congr 1
  show (List.filter (freeL P) [LL[k]]).map baT = if freeL P LL[k] then [baT LL[k]] else []
  cases h : freeL P LL[k] <;> simp [h]
theorem allL_mem {t : Nat} {x : LB} (h : x ∈ allL t) : x.length = t := by
  have := (allTx_mem t (baT x) (by rw [allTx_map]; exact List.mem_map_of_mem h)).1
  rw [← len_list, baT_list] at this
  exact this

set_option maxRecDepth 100000 in
set_option maxHeartbeats 6400000 in
theorem implAW_any (p : ByteArray) (n : Int) (w : World) (hM : MLen w) (hp : p.size ≤ maxLen) :
    Calls Tryd.prog 11 #[.string p, .int .i64 n] w (AwT (ansAW p n) (okAW p n) w) := by
  cases h1 : patG p
  · have ho : okAW p n = false := by unfold okAW; rw [h1]; rfl
    rw [ansAW_no ho, ho]
    clear ho
    go_enter Tryd.func11, Tryd.ntmps11
    go_wp2_with fail
    refine (implIsPattern_any p _ hp).mono ?_
    rintro e w1 ⟨rfl, b1⟩
    rw [h1]
    go_wp2_with fail
    go_ret2
    exact ⟨_, rfl, SRow.nil _ _, b1⟩
  · by_cases hn0 : n < 0
    · have ho : okAW p n = false := by
        unfold okAW
        rw [h1, show inB n 0 12 = false from by rw [← Bool.not_eq_true, inB_iff]; omega]
        rfl
      rw [ansAW_no ho, ho]
      clear ho
      go_enter Tryd.func11, Tryd.ntmps11
      go_wp2_with fail
      refine (implIsPattern_any p _ hp).mono ?_
      rintro e w1 ⟨rfl, b1⟩
      rw [h1]
      go_wp2_with fail
      go_ret2
      exact ⟨_, rfl, SRow.nil _ _, b1⟩
    · by_cases hn12 : 12 < n
      · have ho : okAW p n = false := by
          unfold okAW
          rw [h1, show inB n 0 12 = false from by rw [← Bool.not_eq_true, inB_iff]; omega]
          rfl
        have hdn : decide (n < 0) = false := by simpa using hn0
        rw [ansAW_no ho, ho]
        clear ho
        go_enter Tryd.func11, Tryd.ntmps11
        go_wp2_with fail
        refine (implIsPattern_any p _ hp).mono ?_
        rintro e w1 ⟨rfl, b1⟩
        rw [h1]
        go_wp2_with fail
        go_ret2
        exact ⟨_, rfl, SRow.nil _ _, b1⟩
      · obtain ⟨t, rfl⟩ := Int.eq_ofNat_of_zero_le (show 0 ≤ n by omega)
        have ht : t ≤ 12 := by omega
        have hdn : decide ((t : Int) < 0) = false := by simp
        have hd12 : decide ((12 : Int) < (t : Int)) = false := by simp; omega
        have hd12b : decide (12 < t) = false := by simp; omega
        have ho1 : okAW p (t : Int) = decide ((awL p t).length ≤ 200) := by
          unfold okAW
          rw [h1, show inB (t : Int) 0 12 = true from (inB_iff _ _ _).2 ⟨by omega, by omega⟩]
          rfl
        have hans : ansAW p (t : Int) = if (awL p t).length ≤ 200 then awL p t else [] := by
          unfold ansAW
          rw [ho1]
          by_cases h : (awL p t).length ≤ 200
          · rw [if_pos h]; simp [h]
          · rw [if_neg h]; simp [h]
        have HO := Lib.hid ho1
        have HA := Lib.hid hans
        have hmp : allTx t = (allL t).map baT := allTx_map t
        have hxl : Hid (∀ k, k < (allL t).length → ((allL t).getD k []).length ≤ 2000000) := Lib.hid (fun k hk => by
          rw [List.getD_eq_getElem?_getD, List.getElem?_eq_getElem hk]
          have := allL_mem (List.getElem_mem hk)
          show ((allL t)[k]).length ≤ 2000000
          omega)
        have hpos : 0 < (allL t).length := by rw [allL_len]; exact Nat.pow_pos (by omega)
        have hle : (allL t).length ≤ 4096 := by rw [allL_len]; exact pow12 t ht
        have hstep := Lib.hid (take_free p.data.toList (allL t))
        have hfull : Hid ((((allL t).take (allL t).length).filter (freeL p.data.toList)).map baT = awL p t) := Lib.hid (by rw [List.take_length]; rfl)
        have hMH := Lib.hid hM
        have HT := Lib.hid (allTosses_any t)
        rw [hmp] at HT
        clear hn0 hn12 ho1 hans hmp hM
        generalize allL t = LL at *
        generalize awL p t = R at *
        generalize hN : LL.length = N at *
        have HN := Lib.hid hN
        clear hN
        go_enter Tryd.func11, Tryd.ntmps11
        go_wp2_with fail
        refine (implIsPattern_any p _ hp).mono ?_
        rintro e w1 ⟨rfl, b1⟩
        rw [h1]
        have B1 := Lib.hid b1
        clear b1
        go_wp2_with fail
        refine (HT.out _ ht).mono ?_
        rintro e w2 ⟨v2, rfl, r2, b2⟩
        have B2 := Lib.hid (bel_trans B1.out b2)
        obtain ⟨g, cap, rfl, hgl, hlc, hcm, hcells⟩ : ∃ g cap, v2 = .slice (some ⟨g, 0, none⟩) N cap ∧ g < w2.heap.size ∧ N ≤ cap ∧ cap ≤ maxLen ∧ ∀ j, j < N → w2.cell? ⟨g, j, none⟩ = some (.string (baT (LL.getD j []))) := by
          have hl : (LL.map baT).length = N := by rw [List.length_map]; exact HN.out
          rcases r2.form with ⟨hx, _⟩ | ⟨hx, g, cap, e, hbg, hgl, hlc, hcm⟩
          · rw [hx] at hl
            simp at hl
            omega
          · subst e
            rw [hl] at hlc
            refine ⟨g, cap, by rw [hl], hgl, hlc, hcm, fun j hj => ?_⟩
            have q := r2.at_ j (by rw [hl]; exact hj)
            have hj2 : j < LL.length := by rw [HN.out]; exact hj
            rw [q, List.getD_eq_getElem?_getD, List.getElem?_eq_getElem (by rw [hl]; exact hj), List.getElem_map, List.getD_eq_getElem?_getD, List.getElem?_eq_getElem hj2]
            rfl
        unfold maxLen at hcm
        have HC := Lib.hid hcells
        clear r2 b2 hcells
        go_wp2_with fail
        go_loopw [6, 23] (fun v i wr => ∃ (k : Nat) (A : Option Addr) (L c : Nat), k ≤ N ∧ i = .int .i64 k ∧ v = .slice A L c ∧ Hid (SRow wr w2.heap.size (.slice A L c) (((LL.take k).filter (freeL p.data.toList)).map baT)) ∧ Below w2.heap.size w2 wr) (fun _ i _ => N - (intOf i).toNat)
        case atStart => exact ⟨0, none, 0, 0, by omega, rfl, rfl, Lib.hid (SRow.nil _ _), Below.refl _ _⟩
        case round =>
          obtain ⟨k, A, L, c, hk, rfl, rfl, hrow, hbl⟩ := hrel
          have hblw := Lib.hid (bel_trans B2.out hbl)
          by_cases hlt : k < N
          · have hpc := (hbl.cell (p := ⟨g, k, none⟩) hgl).trans (HC.out k hlt)
            have hst := Lib.hid (hstep.out k hlt)
            have zx := Lib.hid (hxl.out k hlt)
            have hlen : Hid ((((LL.take k).filter (freeL p.data.toList)).map baT).length ≤ 4096) := Lib.hid (by
              rw [List.length_map]
              have q1 := List.length_filter_le (freeL p.data.toList) (LL.take k)
              rw [List.length_take] at q1
              omega)
            have Mr := Lib.hid (hMH.out.keep hblw.out)
            generalize LL.getD k [] = x at *
            cases hf : freeL p.data.toList x
            · rw [hf] at hst
              have hst2 : Hid (((LL.take (k + 1)).filter (freeL p.data.toList)).map baT = ((LL.take k).filter (freeL p.data.toList)).map baT) := Lib.hid (by rw [hst.out]; simp)
              have HF := Lib.hid hf
              clear hf
              go_wp2_with fail
              refine (contains_any x p _ Mr.out zx.out).mono ?_
              rw [HF.out]
              rintro e w3 ⟨rfl, rfl⟩
              go_wp2_with fail
              exact ⟨⟨k + 1, A, L, c, by omega, by go_num, rfl, by rw [hst2.out]; exact hrow, hbl⟩, by simp [intOf]; omega⟩
            · rw [hf] at hst
              have hst2 : Hid (((LL.take (k + 1)).filter (freeL p.data.toList)).map baT = ((LL.take k).filter (freeL p.data.toList)).map baT ++ [baT x]) := Lib.hid (by rw [hst.out]; simp)
              have HF := Lib.hid hf
              clear hf
              go_wp2_with fail
              refine (contains_any x p _ Mr.out zx.out).mono ?_
              rw [HF.out]
              rintro e w3 ⟨rfl, rfl⟩
              have hs3 := hbl.size
              go_wp2_with (at_builtin; refine wpList_pushS1 (baT x) rfl (.tmp 31) (.tmp 33) rfl w2.heap.size _ _ hrow.out (by have := hlen.out; omega) hs3 rfl rfl ?_)
              intro v4 w4 r4 b4
              have R4 : Hid (SRow w4 w2.heap.size v4 (((LL.take (k + 1)).filter (freeL p.data.toList)).map baT)) := Lib.hid (by rw [hst2.out]; exact r4)
              have B4 := Lib.hid (hbl.trans b4)
              obtain ⟨A4, L4, c4, rfl⟩ : ∃ A L c, v4 = .slice A L c := by
                rcases r4.form with ⟨_, A, c, e⟩ | ⟨_, g2, c, e, _⟩
                · exact ⟨A, _, c, e⟩
                · exact ⟨_, _, c, e⟩
              clear r4 b4
              go_wp2_with fail
              exact ⟨⟨k + 1, A4, L4, c4, by omega, by go_num, rfl, R4, B4.out⟩, by simp [intOf]; omega⟩
          · obtain rfl : k = N := by omega
            rw [hfull.out] at hrow
            have hrow2 := Lib.hid (hrow.out.mono B2.out.size)
            have hLR : L = R.length := by
              rcases hrow.out.form with ⟨hx, A, c, e⟩ | ⟨hx, g2, c, e, _⟩
              · injection e with _ e2 _
                rw [e2, hx]
                rfl
              · injection e
            subst hLR
            by_cases h3 : R.length ≤ 200
            · have hoT : okAW p (t : Int) = true := by rw [HO.out]; simpa using h3
              have haT : ansAW p (t : Int) = R := by rw [HA.out, if_pos h3]
              have HOT := Lib.hid hoT
              have HAT := Lib.hid haT
              have hd : decide ((200 : Int) < (R.length : Int)) = false := by simp; omega
              have hd2 : decide (200 < R.length) = false := by simp; omega
              clear hoT haT
              go_wp2_with fail
              go_ret2
              refine ⟨_, by rw [HOT.out]; rfl, ?_, hblw.out⟩
              rw [HAT.out]
              exact hrow2.out
            · have hoT : okAW p (t : Int) = false := by rw [HO.out]; simpa using h3
              have haT : ansAW p (t : Int) = [] := by rw [HA.out, if_neg h3]
              have HOT := Lib.hid hoT
              have HAT := Lib.hid haT
              have hd : decide ((200 : Int) < (R.length : Int)) = true := by simp; omega
              have hd2 : decide (200 < R.length) = true := by simp; omega
              clear hoT haT
              go_wp2_with fail
              go_ret2
              refine ⟨_, by rw [HOT.out]; rfl, ?_, hblw.out⟩
              rw [HAT.out]
              exact SRow.nil _ _
end Go.Proofs.YtbfgieolehbedaaDoor
