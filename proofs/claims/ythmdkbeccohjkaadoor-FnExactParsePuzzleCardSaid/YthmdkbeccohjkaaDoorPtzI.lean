/- The text of a puzzle: the contracts of both functions. -/
import Derived.Test.YthmdkbeccohjkaaDoorPtzS
namespace Go.Proofs.YthmdkbeccohjkaaDoor
open Go.ChangeShapes Go.WideShapes Go.ChangeAt Go.RowKit
set_option linter.unusedVariables false
set_option linter.unusedSimpArgs false

theorem joinC_any (xs : List ByteArray) (v : Value) (base : Nat) (w : World) (hR : SRow w base v xs) (hl : xs.length ≤ 1000) (h8 : ∀ x ∈ xs, x.size ≤ 11) :
    Calls Tryd.prog 89 #[v, .string ⟨#[44]⟩] w fun e w' => e = .returned (.string (joinC xs)) ∧ Below w.heap.size w w' := by
  rcases hR.form with ⟨hx, A, cap, rfl⟩ | ⟨hx, g, cap, rfl, hbg, hgl, hlc, hcm⟩
  · subst hx
    refine (Any.strings_Join_none Tryd.lays156 jExtra A cap ⟨#[44]⟩ w).mono ?_
    rintro e w' ⟨rfl, rfl⟩
    exact ⟨rfl, Below.refl _ _⟩
  · have hc := inter_len [44] 11 (xs.map (·.data.toList)) (fun y hy => by
      obtain ⟨x, hx1, rfl⟩ := List.mem_map.1 hy
      have := h8 x hx1
      rw [← len_list] at this
      exact this)
    rw [List.length_map] at hc
    simp only [List.length_singleton] at hc
    refine (Any.strings_Join Tryd.lays156 jExtra g 0 cap xs ⟨#[44]⟩ w (fun j x hjx => ?_) hgl (by omega) hlc (by
      show ([44].intercalate (xs.map (·.data.toList))).length ≤ _
      omega)).mono ?_
    · rw [Nat.zero_add]
      obtain ⟨hlt, rfl⟩ := List.getElem?_eq_some_iff.1 hjx
      rw [hR.at_ j hlt, List.getD_eq_getElem?_getD, List.getElem?_eq_getElem hlt]
      rfl
    · rintro e w' ⟨rfl, hb⟩
      exact ⟨rfl, hb⟩

theorem ansPT_yes {o : Int} {ts : List Tri} (h : pzG o ts = true) : ansPT o ts = .tuple #[.string (textP o ts), .bool true] := by unfold ansPT; rw [if_pos h]
theorem ansPT_no {o : Int} {ts : List Tri} (h : pzG o ts = false) : ansPT o ts = .tuple #[.string ⟨#[]⟩, .bool false] := by unfold ansPT; rw [if_neg (by rw [h]; simp)]

set_option maxRecDepth 100000 in
set_option maxHeartbeats 6400000 in
theorem implPT_any (o : Int) (ts : List Tri) (v : Value) (B : Nat) (w : World) (h : RdT w B v ts) (hB : B ≤ w.heap.size) (hT : PT w) :
    Calls Tryd.prog 68 #[pz o v] w fun e w' => e = .returned (ansPT o ts) ∧ Below w.heap.size w w' := by
  obtain ⟨A, cap, rfl, hl, hm⟩ := h.form
  unfold maxLen at hm
  have bl0 := Lib.hid (bel_alloc (Below.refl _ w) (.cells #[.int .i64 o, .slice A ts.length cap] 48))
  have bx0 := Lib.hid (Box2.new w (.int .i64 o) (.slice A ts.length cap) 48)
  have H0 := Lib.hid h
  have H := Lib.hid (h.below bl0.out hB)
  have hB1 := Nat.le_trans hB bl0.out.size
  have HT := Lib.hid hT
  clear h hT
  obtain ⟨c0, c1, hk0⟩ := bx0.out
  cases hg : pzG o ts
  · rw [ansPT_no hg]
    have Hg := Lib.hid hg
    clear hg
    go_enter Tryd.func68, Tryd.ntmps68
    go_wp2_with fail
    refine (implIsPz_any o ts _ B _ H.out hB1).mono ?_
    rw [Hg.out]
    rintro e w1 ⟨rfl, hb1⟩
    have bl1 := bel_trans bl0.out hb1
    go_wp2_with fail
    go_ret2
    exact ⟨rfl, bl1⟩
  · obtain ⟨r1, r2, r3, r4⟩ := pzG_in hg
    rw [ansPT_yes hg]
    obtain ⟨q, rfl⟩ : ∃ q : Nat, o = q := ⟨o.toNat, by omega⟩
    have hq : q ≤ 8 := by omega
    have Hg := Lib.hid hg
    clear hg r1 r2
    have hcs := Lib.hid (clu_texts r4)
    have hlc : (ts.map cluT3).length = ts.length := List.length_map ..
    have hj := Lib.hid (outP_join q (ts.map cluT3) ts.length (by omega))
    have hsz := Lib.hid (outP_size q (ts.map cluT3) (by omega) hcs.out ts.length)
    have ho0 := numS_size3 q (by omega)
    have htk : (ts.map cluT3).take ts.length = ts.map cluT3 := List.take_of_length_le (by omega)
    rw [htk] at hj
    clear htk
    have hsz2 : (numS q ++ ⟨#[58]⟩ ++ joinC (ts.map cluT3)).size ≤ 1000 := by rw [← hj.out]; have := hsz.out; omega
    have hfin : Hid (numS q ++ ⟨#[58]⟩ ++ joinC (ts.map cluT3) = textP q ts) := Lib.hid hj.out.symm
    have z1 : (numS q ++ ⟨#[58]⟩).size = (numS q).size + 1 := by rw [ByteArray.size_append]; rfl
    have z2 : (joinC (ts.map cluT3)).size ≤ 1000 := by rw [ByteArray.size_append] at hsz2; omega
    have hadd1 : ∀ W : World, (Op.stringOp .add (numS q) ⟨#[58]⟩).run Tryd.prog W = .ok (.string (numS q ++ ⟨#[58]⟩)) W := fun W => run_string_add W _ _ (by omega) (by show ((1 : Nat) : Int) ≤ 8388608; omega)
    have hadd2 : ∀ W : World, (Op.stringOp .add (numS q ++ ⟨#[58]⟩) (joinC (ts.map cluT3))).run Tryd.prog W = .ok (.string (numS q ++ ⟨#[58]⟩ ++ joinC (ts.map cluT3))) W := fun W => run_string_add W _ _ (by omega) (by omega)
    clear hj hsz hsz2 z2
    have hat := Lib.hid (cluT_at ts)
    have hall := Lib.hid (fun k (hk : k < ts.length) => clue_nat (List.all_eq_true.1 r4 (ts.getD k tz) (by rw [List.getD_eq_getElem?_getD, List.getElem?_eq_getElem hk]; exact List.getElem_mem _)))
    have hlcs := Lib.hid hlc
    clear hlc
    generalize hN : ts.length = N at *
    have HN := Lib.hid hN
    clear hN r4
    generalize ts.map cluT3 = cs at *
    generalize numS q ++ ⟨#[58]⟩ ++ joinC cs = TT at *
    generalize numS q ++ ⟨#[58]⟩ = T1 at *
    go_enter Tryd.func68, Tryd.ntmps68
    go_wp2_with fail
    refine (implIsPz_any _ ts _ B _ H.out hB1).mono ?_
    rw [Hg.out]
    rintro e w1 ⟨rfl, hb1⟩
    have bl1 := Lib.hid (bel_trans bl0.out hb1)
    obtain ⟨d0, d1, hk1⟩ := bx0.out.keep hb1
    have bx1 := Lib.hid (bx0.out.keep hb1)
    clear hb1 c0 c1 hk0
    go_wp2_with fail
    go_loopw [4, 13] (fun v i wr => ∃ k : Nat, k ≤ N ∧ i = .int .i64 k ∧ Hid (SRow wr w1.heap.size v (cs.take k)) ∧ Below w1.heap.size w1 wr) (fun _ i _ => N - (intOf i).toNat)
    case atStart => exact ⟨0, by omega, rfl, Lib.hid (SRow.nil _ _), Below.refl _ _⟩
    case round =>
      obtain ⟨i, hi, rfl, hrow, hbl⟩ := hrel
      have hblw := Lib.hid (bel_trans bl1.out hbl)
      by_cases hlt : i < N
      · have hkx : i < ts.length := by rw [HN.out]; exact hlt
        obtain ⟨k, a, b, hxe, h1', h2, h3⟩ := hall.out i hlt
        obtain ⟨ad, x, y, z, rfl, hab, hxyz, e0, e1, e2⟩ := (H0.out.below hblw.out hB).at3 hkx
        rw [hxe] at hxyz
        injection hxyz with hx1 hx2
        injection hx2 with hx2 hx3
        subst hx1 hx2 hx3
        have h1 : k ≤ 100 := by omega
        have hct := Lib.hid (hat.out i hlt k a b hxe)
        have htk : Hid (cs.take (i + 1) = cs.take i ++ [cluT k a b]) := by
          refine Lib.hid ?_
          rw [← hct.out, List.take_succ_eq_append_getElem (by rw [hlcs.out]; exact hlt), List.getD_eq_getElem?_getD, List.getElem?_eq_getElem (by rw [hlcs.out]; exact hlt)]
          rfl
        have hlen : Hid ((cs.take i).length ≤ 6) := Lib.hid (by rw [List.length_take]; omega)
        clear hxe hkx hct
        have hb2 := bel_alloc (Below.refl _ wr) (.cells #[.int .i64 k, .int .i64 a, .int .i64 b] 83)
        have HT2 := Lib.hid (HT.out.keep (bel_trans hblw.out hb2))
        have hrow2 := Lib.hid (hrow.out.below hb2)
        have hbl2 := Lib.hid (bel_trans hbl hb2)
        clear hb2
        go_wp2_with fail
        refine (clueText_any k a b _ h1 h2 h3 HT2.out).mono ?_
        rintro e w3 ⟨rfl, hb3⟩
        have hrow3 := Lib.hid (hrow2.out.below hb3)
        have hbl3 := Lib.hid (bel_trans hbl2.out hb3)
        have hs3 : w1.heap.size ≤ w3.heap.size := hbl3.out.size
        clear hb3
        generalize cluT k a b = C at *
        go_wp2_with (at_builtin; refine wpList_pushS1 C rfl (.tmp 17) (.tmp 20) rfl w1.heap.size _ _ hrow3.out (by have := hlen.out; omega) hs3 rfl rfl ?_)
        intro v4 w4 r4 b4
        have R4 := Lib.hid r4
        have b4' := Lib.hid (hbl3.out.trans b4)
        clear r4 b4
        go_wp2_with fail
        exact ⟨⟨i + 1, by omega, by go_num, by rw [htk.out]; exact R4, b4'.out⟩, by simp [intOf]; omega⟩
      · obtain rfl : i = N := by omega
        have hfull : cs.take i = cs := List.take_of_length_le (by rw [hlcs.out]; exact Nat.le_refl _)
        rw [hfull] at hrow
        clear hfull
        obtain ⟨p0, p1, hkp⟩ := bx1.out.keep hbl
        have HTr := Lib.hid (HT.out.keep hblw.out)
        go_wp2_with fail
        refine (itoaT_any q _ (by omega) HTr.out).mono ?_
        rintro e w5 ⟨rfl, hb5⟩
        have hrow5 := Lib.hid (hrow.out.below hb5)
        have bl5 := Lib.hid (bel_trans hblw.out hb5)
        clear hb5
        go_wp2_with fail
        refine (joinC_any cs _ _ _ hrow5.out (by rw [hlcs.out]; omega) hcs.out).mono ?_
        rintro e w6 ⟨rfl, hb6⟩
        have bl6 := bel_trans bl5.out hb6
        go_wp2_with fail
        go_ret2
        exact ⟨by rw [hfin.out]; rfl, bl6⟩
end Go.Proofs.YthmdkbeccohjkaaDoor
