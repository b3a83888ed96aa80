/- The period of a state: the model's contract. -/
import Derived.Test.YtbcngdamligpbaaPerC
namespace Go.Proofs.Ytbcngdamligpbaa
set_option linter.unusedSimpArgs false
open Go.ChangeShapes Go.WideShapes Go.ChangeAt Go.RowKit
set_option linter.unusedVariables false

theorem fold_takeG {α β : Type} (f : β → α → β) (l : List α) (d : α) (k : Nat) (hk : k < l.length) (st : β) : (l.take (k + 1)).foldl f st = f ((l.take k).foldl f st) (l.getD k d) := by
  rw [List.take_succ_eq_append_getElem hk, List.foldl_append, List.getD_eq_getElem?_getD, List.getElem?_eq_getElem hk]
  rfl
theorem sel_at {p : Nat → Bool} {n j : Nat} (h : j < (selK p n).length) : ∃ i, i < n ∧ p i = true ∧ (selK p n).getD j 0 = (i : Int) := by
  have : (selK p n).getD j 0 ∈ selK p n := by
    rw [List.getD_eq_getElem?_getD, List.getElem?_eq_getElem h]
    exact List.getElem_mem h
  exact mem_selK.1 this

set_option maxRecDepth 100000 in
set_option maxHeartbeats 6400000 in
theorem specPer_any (lim : Int) (m : List (List Int)) (v : Value) (B : Nat) (f : Int) (w : World) (h : RdM w B v m) (hB : B ≤ w.heap.size) :
    Calls Try.prog 29 #[sts lim v, .int .i64 f] w fun e w' => e = .returned (ansPer lim m f) ∧ Below w.heap.size w w' := by
  obtain ⟨A, cap, rfl, l0, m0⟩ := h.form
  unfold maxLen at m0
  have hbl := bel_alloc (Below.refl _ w) (.cells #[.int .i64 lim, .slice A m.length cap] 27)
  have H := Lib.hid (h.below hbl hB)
  have hBs := Nat.le_trans hB hbl.size
  have bx := Lib.hid (Box2.new w (.int .i64 lim) (.slice A m.length cap) 27)
  clear h
  cases h1 : ask2 lim m f f with
  | false =>
    rw [show ansPer lim m f = .tuple #[.int .i64 0, .bool false] from by simp [ansPer, h1]]
    have H1 := Lib.hid h1
    clear h1
    go_enter Try.func29, Try.ntmps29
    go_wp2_with fail
    refine (saAsked_any lim m _ _ f f _ H.out hBs).mono ?_
    rw [H1.out]
    rintro e w1 ⟨rfl, b1⟩
    go_wp2_with fail
    go_ret2
    exact ⟨rfl, bel_trans hbl b1⟩
  | true =>
    rw [show ansPer lim m f = .tuple #[.int .i64 (perA m f.toNat (3 * m.length) : Int), .bool (decide (0 < perA m f.toNat (3 * m.length)))] from by simp [ansPer, h1]]
    obtain ⟨hg, i, j, rfl, hij, hi, hj⟩ := ask2_good h1
    clear hij hj j
    rw [show (i : Int).toNat = i from rfl]
    have H1 := Lib.hid h1
    have n5 := hg.five
    have HG := Lib.hid hg
    have hple := perA_le m i (3 * m.length)
    clear h1 hg
    go_enter Try.func29, Try.ntmps29
    go_wp2_with fail
    refine (saAsked_any lim m _ _ i i _ H.out hBs).mono ?_
    rw [H1.out]
    rintro e w1 ⟨rfl, b1⟩
    have bx1 := Lib.hid (bx.out.keep b1)
    obtain ⟨c0, c1, c2⟩ := bx1.out
    go_wp2_with fail
    refine (saFarW_any lim m _ _ i _ (H.out.below b1 hBs) (Nat.le_trans hBs b1.size) HG.out hi).mono ?_
    rintro e w2 ⟨u, far, rfl, hr, ⟨hf1, hf2⟩, b2⟩
    have hper := Lib.hid (per_one HG.out hi hf1 hf2)
    clear c0 c1 c2
    have hB2 := Nat.le_trans (Nat.le_trans hBs b1.size) b2.size
    have bx2 := Lib.hid (bx1.out.keep b2)
    obtain ⟨c0, c1, c2⟩ := bx2.out
    go_wp2_with fail
    refine (saClass_any lim m _ _ i _ ((H.out.below b1 hBs).below b2 (Nat.le_trans hBs b1.size)) hB2 HG.out hi).mono ?_
    rintro e w3 ⟨u3, rfl, hr3, b3⟩
    have hfar3 := (hr.below b3).rd
    have hcls3 := hr3.rd
    have HM3 := Lib.hid (((H.out.below b1 hBs).below b2 (Nat.le_trans hBs b1.size)).below b3 hB2)
    have bx3 := Lib.hid (bx2.out.keep b3)
    have bl3 := bel_trans (bel_trans (bel_trans hbl b1) b2) b3
    have hpB : Hid (perB m far (selK (clsB m i) m.length) = (selK (clsB m i) m.length).foldl (rowB2 m far (selK (clsB m i) m.length)) 0) := Lib.hid rfl
    have hsel := Lib.hid (fun j hj => sel_at (p := clsB m i) (n := m.length) (j := j) hj)
    have hlen := selK_len (clsB m i) m.length
    obtain ⟨Af, capf, rfl, lf1, mf1⟩ := hfar3.form
    obtain ⟨Ac, capc, rfl, lc1, mc1⟩ := hcls3.form
    rw [hf1.1] at lf1 ⊢
    have HF := Lib.hid hfar3
    have HC := Lib.hid hcls3
    have HFl := Lib.hid hf1.1
    have HFb := Lib.hid (fun x hx => (hf1.2 x hx).1)
    clear hr hr3 hfar3 hcls3 hf1 hf2 c0 c1 c2 b1 b2 b3
    generalize selK (clsB m i) m.length = xs at *
    generalize hN : xs.length = N at *
    have HN := Lib.hid hN
    clear hN
    go_wp2_with fail
    go_loopw [6, 26] (fun x y wr => ∃ j : Nat, j ≤ N ∧ y = .int .i64 j ∧ x = .int .i64 (((xs.take j).foldl (rowB2 m far xs) 0 : Nat) : Int) ∧ ∃ n, wr = w3.drewN n) (fun _ y _ => N - (intOf y).toNat)
    case atStart => exact ⟨0, by omega, rfl, rfl, 0, rfl⟩
    case round =>
      obtain ⟨j, hj, rfl, rfl, n, hwr⟩ := hrel
      have HWr := Lib.hid hwr
      by_cases hlt : j < N
      · obtain ⟨ii, hii, _, hxe⟩ := hsel.out j hlt
        obtain ⟨ad, rfl, _, e0⟩ := (show RdI wr _ _ xs by rw [hwr]; exact HC.out).at_ (k := j) (by rw [HN.out]; exact hlt)
        rw [hxe] at e0
        have HT := Lib.hid (fold_takeG (rowB2 m far xs) xs 0 j (by rw [HN.out]; exact hlt) 0)
        have hT2 : Hid ((xs.take (j + 1)).foldl (rowB2 m far xs) 0 = xs.foldl (tellB m far ii) ((xs.take j).foldl (rowB2 m far xs) 0)) := Lib.hid (by rw [HT.out, hxe]; rfl)
        clear HT hxe
        generalize (xs.take j).foldl (rowB2 m far xs) 0 = g0 at *
        generalize hg1 : (xs.take (j + 1)).foldl (rowB2 m far xs) 0 = gg1 at *
        have HXl : Hid (xs.length = N) := HN
        have HG1 := Lib.hid hg1
        clear hwr hg1
        go_wp2_with fail
        clear e0
        go_loopw [6, 32] (fun x y wr => ∃ k : Nat, k ≤ N ∧ y = .int .i64 k ∧ x = .int .i64 (((xs.take k).foldl (tellB m far ii) g0 : Nat) : Int) ∧ ∃ n, wr = w3.drewN n) (fun _ y _ => N - (intOf y).toNat)
        case atStart => exact ⟨0, by omega, rfl, rfl, n, HWr.out⟩
        case round =>
          obtain ⟨k, hk, rfl, rfl, n', hwr⟩ := hrel
          have HWi := Lib.hid hwr
          by_cases hlk : k < N
          · obtain ⟨kk, hkk, _, hye⟩ := hsel.out k hlk
            obtain ⟨ad2, hadd, _, e0⟩ := (show RdI wr _ _ xs by rw [hwr]; exact HC.out).at_ (k := k) (by rw [HN.out]; exact hlk)
            rw [hye] at e0
            have HT := Lib.hid (fold_takeG (tellB m far ii) xs 0 k (by rw [HN.out]; exact hlk) g0)
            rw [hye] at HT
            obtain ⟨d0, d1, d2⟩ := (show Box2 wr w.heap.size _ _ by rw [hwr]; exact bx3.out)
            obtain ⟨adr, A0', c0', rfl, _, er, r0, _, _⟩ := (show RdM wr B _ m by rw [hwr]; exact HM3.out).at_ hii
            have hrow := HG.out.row ii hii
            obtain ⟨ad3, rfl, _, ex⟩ := r0.at_ (k := kk) (by rw [hrow]; exact hkk)
            have hex : (m.getD ii []).getD kk 0 = atM m ii kk := rfl
            rw [hex] at ex
            rw [hrow] at er
            have hfr := (show RdI wr _ _ far by rw [hwr]; exact HF.out)
            obtain ⟨ad4, rfl, _, ef1⟩ := hfr.at_ (k := ii) (by rw [HFl.out]; exact hii)
            obtain ⟨ad5, hadg, _, ef2⟩ := hfr.at_ (k := kk) (by rw [HFl.out]; exact hkk)
            have b1 := HFb.out ii hii
            have b2 := HFb.out kk hkk
            have q1 : (ii : Int) < (m.length : Int) := by omega
            have q2 : (kk : Int) < (m.length : Int) := by omega
            have HTe : ∀ z : Nat, tellB m far ii z (kk : Int) = if edgeB m ii kk then Nat.gcd z (far.getD ii 0 + 1 - far.getD kk 0).natAbs else z := fun z => rfl
            rw [HTe] at HT
            injection hadd with hadd
            injection hadg with hadg
            subst hadd
            subst hadg
            generalize hG : (xs.take k).foldl (tellB m far ii) g0 = gk at *
            have HHG := Lib.hid hG
            generalize far.getD ii 0 = fa at *
            generalize far.getD kk 0 = fb at *
            have hwa : IntKind.i64.wrap (fa + 1) = fa + 1 := IntWalk.i64_in _ (by omega)
            have hwb : IntKind.i64.wrap (fa + 1 - fb) = fa + 1 - fb := IntWalk.i64_in _ (by omega)
            by_cases hz : 0 < atM m ii kk
            · have hT := HT.out
              rw [if_pos (show edgeB m ii kk = true from by unfold edgeB; simpa using hz)] at hT
              have HT3 := Lib.hid hT
              have hzd : decide (0 < atM m ii kk) = true := by simpa using hz
              generalize atM m ii kk = z at *
              have HA := Lib.hid (fun W => (l1Abs_any (fa + 1 - fb) W (by omega) (by omega)).mono (fun e w' q => (⟨q.1, 0, q.2.symm⟩ : e = .returned (.int .i64 ((fa + 1 - fb).natAbs : Int)) ∧ ∃ n, w' = W.drewN n)))
              have HB := Lib.hid (fun W => saCommon_any ((gk : Nat) : Int) (((fa + 1 - fb).natAbs : Nat) : Int) W (by omega) (by omega))
              clear hwr hT HT hz r0 hfr hG hex hrow
              go_wp2_with fail
              go_quiet ((first | (go_at_call 49; exact Calls.quiet_of (HA.out _)) | (go_at_call 48; exact Calls.quiet_of (HB.out _))))
              go_wp2_with fail
              exact ⟨⟨k + 1, by omega, by go_num, by rw [HT3.out]; rfl, _, by rw [HWi.out, World.drewN_drewN]⟩, by simp [intOf]; omega⟩
            · have hT := HT.out
              rw [if_neg (show ¬ edgeB m ii kk = true from by unfold edgeB; simpa using hz)] at hT
              have HT3 := Lib.hid hT
              have hzd : decide (0 < atM m ii kk) = false := by simpa using hz
              generalize atM m ii kk = z at *
              clear hwr hT HT hz r0 hfr hG hex hrow
              go_wp2_with fail
              exact ⟨⟨k + 1, by omega, by go_num, by rw [HT3.out], _, HWi.out⟩, by simp [intOf]; omega⟩
          · obtain rfl : k = N := by omega
            have hfull : xs.take k = xs := List.take_of_length_le (by rw [HN.out]; exact Nat.le_refl _)
            rw [hfull, ← hT2.out]
            clear hwr hfull
            go_wp2_with fail
            exact ⟨⟨j + 1, by omega, by go_num, by rw [HG1.out], _, HWi.out⟩, by simp [intOf]; omega⟩
      · obtain rfl : j = N := by omega
        have hfull : xs.take j = xs := List.take_of_length_le (by rw [HN.out]; exact Nat.le_refl _)
        rw [hfull, ← hpB.out, ← hper.out]
        clear hwr hfull
        have HP := hper
        by_cases hz : perA m i (3 * m.length) = 0
        · have HZ := Lib.hid hz
          rw [hz]
          clear hz
          go_wp2_with fail
          go_ret2
          exact ⟨by rw [HZ.out]; rfl, by rw [HWr.out]; exact bel_drewN bl3 n⟩
        · have hz1 : (((perA m i (3 * m.length) : Nat) : Int) == 0) = false := by simp; omega
          have hz2 : decide (0 < perA m i (3 * m.length)) = true := by simp; omega
          have HZ2 := Lib.hid hz2
          go_wp2_with fail
          go_ret2
          exact ⟨by rw [HZ2.out]; rfl, by rw [HWr.out]; exact bel_drewN bl3 n⟩
end Go.Proofs.Ytbcngdamligpbaa
