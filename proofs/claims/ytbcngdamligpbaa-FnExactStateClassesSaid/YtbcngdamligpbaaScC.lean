/- StateClasses: contracts of the program and of its model. -/
import Derived.Test.YtbcngdamligpbaaScP
namespace Go.Proofs.Ytbcngdamligpbaa
set_option linter.unusedSimpArgs false
open Go.ChangeShapes Go.WideShapes Go.ChangeAt Go.RowKit Go.Maps Go.Sort
set_option linter.unusedVariables false

def RowsAns (xs : List (List Int)) (ok : Bool) (w : World) (e : Ending) (w' : World) : Prop :=
  ∃ v, e = .returned (.tuple #[v, .bool ok]) ∧ OwnM w' w.heap.size w'.heap.size v xs ∧ Below w.heap.size w w'
theorem ansCls_no {lim : Int} {m : List (List Int)} (h : saG lim m = false) : ansCls lim m = [] := by simp [ansCls, h]
theorem ansCls_yes {lim : Int} {m : List (List Int)} (h : saG lim m = true) : ansCls lim m = scL m m.length := by simp [ansCls, h]
theorem OwnM.lower {w : World} {lo lo' hi : Nat} {v : Value} {m : List (List Int)} (h : OwnM w lo hi v m) (hl : lo' ≤ lo) : OwnM w lo' hi v m := by
  obtain ⟨h0, vs, h1, h2, h3, h4⟩ := h
  refine ⟨h0, vs, ⟨h1.1, ?_⟩, h2, fun i => ⟨(h3 i).1.mono hl, (h3 i).2⟩, h4⟩
  rcases h1.2 with hn | ⟨g, cap, cur, e, hbg, rest⟩
  · exact .inl hn
  · exact .inr ⟨g, cap, cur, e, Nat.le_trans hl hbg, rest⟩

set_option maxRecDepth 100000 in
set_option maxHeartbeats 3200000 in
theorem specSc_any (lim : Int) (m : List (List Int)) (v : Value) (B : Nat) (w : World) (h : RdM w B v m) (hB : B ≤ w.heap.size) :
    Calls Try.prog 21 #[sts lim v] w (RowsAns (ansCls lim m) (saG lim m) w) := by
  obtain ⟨A, cap, rfl, l0, m0⟩ := h.form
  have hbl := bel_alloc (Below.refl _ w) (.cells #[.int .i64 lim, .slice A m.length cap] 27)
  have H := Lib.hid (h.below hbl hB)
  have hBs := Lib.hid (Nat.le_trans hB hbl.size)
  have bx := Lib.hid (Box2.new w (.int .i64 lim) (.slice A m.length cap) 27)
  clear h
  cases h1 : saG lim m with
  | false =>
    rw [ansCls_no h1]
    have H1 := Lib.hid h1
    clear h1
    go_enter Try.func21, Try.ntmps21
    go_wp2_with fail
    refine (saGood_any lim m _ _ _ H.out hBs.out).mono ?_
    rw [H1.out]
    rintro e w1 ⟨rfl, b1⟩
    go_wp2_with fail
    go_ret2
    exact ⟨_, rfl, OwnM.empty _ (Nat.le_refl _), bel_trans hbl b1⟩
  | true =>
    rw [ansCls_yes h1]
    have H1 := Lib.hid h1
    have hg := Lib.hid (good_of h1)
    have n5 := (good_of h1).five
    clear h1
    go_enter Try.func21, Try.ntmps21
    go_wp2_with fail
    refine (saGood_any lim m _ _ _ H.out hBs.out).mono ?_
    rw [H1.out]
    rintro e w1 ⟨rfl, b1⟩
    have H2 := Lib.hid (H.out.below b1 hBs.out)
    have hB2 := Nat.le_trans hBs.out b1.size
    have bx1 := Lib.hid (bx.out.keep b1)
    obtain ⟨c0, c1, c2⟩ := bx1.out
    have bl1 := bel_trans hbl b1
    clear b1
    go_wp2_with fail
    clear c0 c1 c2
    go_loopw [4, 13] (fun u x wr => ∃ k : Nat, k ≤ m.length ∧ x = .int .i64 k ∧ Hid (OwnM wr w1.heap.size wr.heap.size u (scL m k)) ∧ Below w1.heap.size w1 wr) (fun _ x _ => m.length - (intOf x).toNat)
    case atStart => exact ⟨0, by omega, rfl, Lib.hid (OwnM.empty _ (Nat.le_refl _)), Below.refl _ _⟩
    case round =>
      obtain ⟨k, hk, rfl, hU, hb⟩ := hrel
      obtain ⟨wa, rfl⟩ : ∃ wa : World, wa = wr := ⟨_, rfl⟩
      have hsa := hb.size
      by_cases hlt : k < m.length
      · obtain ⟨hh1, hh2⟩ := cls_head hg.out hlt
        obtain ⟨c0, c1, c2⟩ := bx1.out.keep hb
        have HN := Lib.hid (fun (q : frs m k ≠ k) => scL_no q)
        have HY := Lib.hid (fun (q : frs m k = k) => scL_yes q)
        have hll := scL_len m k
        go_wp2_with fail
        refine (saClass_any lim m _ _ k _ (H2.out.below hb hB2) (Nat.le_trans hB2 hsa) hg.out hlt).mono ?_
        rintro e w3 ⟨u3, rfl, hr3, b3⟩
        generalize selK (clsB m k) m.length = xs at *
        obtain ⟨A3, cap3, rfl, l3, m3⟩ := hr3.rd.form
        obtain ⟨ad, rfl, _, e0⟩ := hr3.rd.at_ (k := 0) hh2
        rw [hh1, show ad.add 0 = ad from rfl] at e0
        have HR3 := Lib.hid hr3
        have hb3 := hb.trans (b3.mono hsa)
        have hs3 := b3.size
        have o3 := (hU.out.below b3 (Nat.le_refl _))
        have O3 := Lib.hid o3
        have z0 : (0 : Int) < (xs.length : Int) := by omega
        clear hr3 o3 hh1
        by_cases hf : frs m k = k
        · rw [hf] at e0
          have HF := Lib.hid (HY.out hf)
          clear hf
          obtain ⟨vs, hms⟩ := (O3.out.below (bel_alloc (Below.refl _ w3) (.cells #[.slice (some ad) xs.length cap3] 25)) hs3).parts
          have HMS := Lib.hid hms
          clear hms
          go_wp2_with (at_builtin; refine wpList_pushR rfl (.tmp 24) (.tmp 26) rfl w1.heap.size _ _ _ vs HMS.out.2.1 (by omega) (by omega) rfl rfl rfl ?_)
          intro v' w6 hI6 hg6 hb6
          have hO6 := OwnMs.snoc HMS.out (World.ownsRow.alloc HR3.out _) hsa hI6 hg6
          rw [← HF.out] at hO6
          have HO6 := Lib.hid hO6
          clear hO6 hI6 hg6
          go_wp2_with fail
          exact ⟨⟨k + 1, by omega, by go_num, HO6, hb3.trans hb6⟩, by simp [intOf]; omega⟩
        · have hd : ((frs m k : Int) == (k : Int)) = false := by simp; omega
          have HF := Lib.hid (HN.out hf)
          generalize frs m k = fr at *
          clear hf
          go_wp2_with fail
          exact ⟨⟨k + 1, by omega, by go_num, by rw [HF.out]; exact Lib.hid (O3.out.more hs3 (Nat.le_refl _)), hb3⟩, by simp [intOf]; omega⟩
      · obtain rfl : k = m.length := by omega
        go_wp2_with fail
        go_ret2
        exact ⟨_, rfl, hU.out.lower bl1.size, bel_trans bl1 hb⟩

set_option maxRecDepth 100000 in
set_option maxHeartbeats 6400000 in
theorem implSc_any (lim : Int) (m : List (List Int)) (v : Value) (B : Nat) (w : World) (h : RdM w B v m) (hB : B ≤ w.heap.size) :
    Calls Try.prog 22 #[sts lim v] w (RowsAns (ansCls lim m) (saG lim m) w) := by
  obtain ⟨A, cap, rfl, l0, m0⟩ := h.form
  have hbl := bel_alloc (Below.refl _ w) (.cells #[.int .i64 lim, .slice A m.length cap] 27)
  have H := Lib.hid (h.below hbl hB)
  have hBs := Lib.hid (Nat.le_trans hB hbl.size)
  obtain ⟨a, b, g, hm, hy⟩ := mvOf_form lim m
  have Hm := Lib.hid hm
  clear h hm
  cases h1 : saG lim m with
  | false =>
    rw [ansCls_no h1]
    have H1 := Lib.hid h1
    clear h1 hy
    go_enter Try.func22, Try.ntmps22
    go_wp2_with fail
    refine (movesOf_any lim m _ _ _ H.out hBs.out).mono ?_
    unfold MvAns
    rw [H1.out, Hm.out]
    rintro e w1 ⟨rfl, b1⟩
    go_wp2_with (first
      | (refine wpList_alloc_row rfl 66 rfl (mvC 0 0 zer) (mv_zero _) ?_)
      | (refine wpList_store_new (k := w1.heap.size) (c' := mvC a b g) rfl 66 (.tmp 4) (.tmp 14) rfl rfl ?_ ?_ mv_info rfl (mvC_one _ _ _) ?_; (· simp [Act.put, Act.eval]); (· simp [Act.put, Act.eval])))
    go_ret2
    exact ⟨_, rfl, OwnM.empty _ (Nat.le_refl _), bel_alloc (bel_trans hbl b1) _⟩
  | true =>
    rw [ansCls_yes h1]
    have H1 := Lib.hid h1
    obtain ⟨rfl, rfl, rfl⟩ := hy h1
    have hg := good_of h1
    have n5 := hg.five
    have g1 : (mvC a m.length (gridM m))[1]? = some (.int .i64 m.length) := rfl
    have HG := Lib.hid hg
    clear h1 hy hg
    go_enter Try.func22, Try.ntmps22
    go_wp2_with fail
    refine (movesOf_any a m _ _ _ H.out hBs.out).mono ?_
    unfold MvAns
    rw [H1.out, Hm.out]
    rintro e w1 ⟨rfl, b1⟩
    have hb1 := bel_trans hbl b1
    go_wp2_with (first
      | (refine wpList_alloc_row rfl 66 rfl (mvC 0 0 zer) (mv_zero _) ?_)
      | (refine wpList_store_new (k := w1.heap.size) (c' := mvC a m.length (gridM m)) rfl 66 (.tmp 4) (.tmp 14) rfl rfl ?_ ?_ mv_info rfl (mvC_one _ _ _) ?_; (· simp [Act.put, Act.eval]); (· simp [Act.put, Act.eval]))
      | (refine wpList_load_row rfl 66 (.tmp 4) rfl w1.heap.size (by simp [Act.put, Act.eval]) _ (mvC a m.length (gridM m)) _ _ (heap_alloc_new _ _) Try.underlying66 rfl mv_info ?_))
    refine (classes_any a m _ HG.out).mono ?_
    rintro e w2 ⟨mb, base, D, rfl, hO2, hC, hmb, hmbb, b2⟩
    have hK1 := Lib.hid (bel_block b2 (by rw [← size1]; omega) (heap_alloc_new w1 (.cells (mvC a m.length (gridM m)) 66)))
    have e1 := (cell_of_row w2 w1.heap.size 1 _ _ _ hK1.out).trans g1
    have hb2 := bel_trans (bel_alloc hb1 _) b2
    have hmw : w.heap.size ≤ mb := Nat.le_trans (bel_alloc hb1 (.cells (mvC a m.length (gridM m)) 66)).size hmb
    have hmlt : mb < w2.heap.size := by obtain ⟨es, clock, q, _⟩ := hO2; exact (Array.getElem?_eq_some_iff.1 q).1
    have HC := Lib.hid hC
    have HO := Lib.hid hO2
    clear hO2 hC b2
    go_wp2_with fail
    clear e1
    go_loopw [7, 22] (fun u x wr => ∃ (k : Nat) (vs : List Value), k ≤ m.length ∧ x = .int .i64 k ∧ Hid (VA w2 mb base m k vs) ∧ Hid (wr.ownsRow w2.heap.size 25 1 u (scL m k).length vs) ∧ Below w2.heap.size w2 wr) (fun _ x _ => m.length - (intOf x).toNat)
    case atStart => exact ⟨0, [], by omega, rfl, Lib.hid rfl, Lib.hid (World.ownsRow_nil _ _ _ _), Below.refl _ _⟩
    case round =>
      obtain ⟨k, vs, hk, rfl, hV, hU, hb⟩ := hrel
      obtain ⟨wa, rfl⟩ : ∃ wa : World, wa = wr := ⟨_, rfl⟩
      have hsa := hb.size
      by_cases hlt : k < m.length
      · have hhas := has_first HG.out HC.out hlt
        have hll := scL_len m k
        have Hblk := Lib.hid (hb.block mb hmlt)
        by_cases hf : frs m k = k
        · have hh : Maps.has D (kI k) = true := by rw [hhas]; simpa using hf
          have HH := Lib.hid hh
          have HF := Lib.hid hf
          clear hhas hf hh
          go_wp2_with (first
            | (at_lookup; refine look_rows HO.out Hblk.out rfl (.tmp 26) (.tmp 27) rfl rfl k (by omega) rfl ?_; intro v3 hv3; rw [HH.out]; obtain ⟨zs, z1, z2, z3⟩ := hv3 HH.out; have hzs : zs = selK (clsB m k) m.length := (grp_of HC.out z1 z2).trans (grp_cls HG.out HF.out _); subst hzs; obtain ⟨A3, cap3, rfl⟩ := irow_slice z2.1; have HV := Lib.hid (hV.out.yes HF.out z3); clear z1 z2 z3 hv3)
            | (at_builtin; refine wpList_pushR rfl (.tmp 32) (.tmp 34) rfl w2.heap.size _ _ _ vs (World.ownsRow.alloc hU.out _) (by omega) hsa rfl rfl rfl ?_; intro v' w6 hI6 hg6 hb6; have HI6 := Lib.hid hI6; clear hI6 hg6))
          have hS := scL_yes HF.out
          have hrow := HI6.out
          exact ⟨⟨k + 1, _, by omega, by go_num, HV, by rw [hS, List.length_append, List.length_singleton]; exact HI6, hb.trans hb6⟩, by simp [intOf]; omega⟩
        · have hh : Maps.has D (kI k) = false := by rw [hhas]; simpa using hf
          have HH := Lib.hid hh
          have HF := Lib.hid hf
          clear hhas hf hh
          go_wp2_with (at_lookup; refine look_rows HO.out Hblk.out rfl (.tmp 26) (.tmp 27) rfl rfl k (by omega) rfl ?_; intro v3 hv3; rw [HH.out]; clear hv3)
          exact ⟨⟨k + 1, _, by omega, by go_num, Lib.hid (hV.out.no HF.out), by rw [scL_no HF.out]; exact hU, hb⟩, by simp [intOf]; omega⟩
      · obtain rfl : k = m.length := by omega
        have hOw := VA.own HO.out hV.out hU.out hb hmw
        go_wp2_with fail
        go_ret2
        exact ⟨_, rfl, hOw, bel_trans hb2 hb⟩
end Go.Proofs.Ytbcngdamligpbaa
