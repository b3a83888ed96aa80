/- PlacesOf and FirstPlace: the contracts and the walks. -/
import Derived.Test.YtjckmnbpfmcadaaDoorOvl
namespace Go.Proofs.YtjckmnbpfmcadaaDoor
set_option linter.unusedSimpArgs false
open Go.ChangeShapes Go.WideShapes Go.ChangeAt Go.RowKit
set_option linter.unusedVariables false


set_option maxRecDepth 100000 in
set_option maxHeartbeats 1600000 in
theorem ptPlaces_any (p t : ByteArray) (w : World) (h1 : 1 ≤ p.size) (h8 : p.size ≤ 8) (h40 : t.size ≤ 40) :
    Calls Tryd.prog 47 #[.string p, .string t] w (RowOne (selR (plcB p t) p.size (t.size + 1 - p.size)) w) := by
  go_enter Tryd.func47, Tryd.ntmps47
  go_wp2_with fail
  go_loopw [5, 6] (fun v x wr => ∃ k : Nat, k ≤ t.size + 1 - p.size ∧ x = .int .i64 ((p.size : Int) + k) ∧ Hid (IRow wr w.heap.size v (selR (plcB p t) p.size k)) ∧ Below w.heap.size w wr) (fun _ x _ => t.size + 1 + p.size - (intOf x).toNat)
  case atStart => exact ⟨0, by omega, by simp, IRow.nil _ _, Below.refl _ _⟩
  case round =>
    obtain ⟨k, hk, rfl, hI, hb⟩ := hrel
    obtain ⟨wa, rfl⟩ : ∃ wa : World, wa = wr := ⟨_, rfl⟩
    have hsa := hb.size
    by_cases hlt : k < t.size + 1 - p.size
    · skip
      have hl := selR_len (plcB p t) p.size k
      have hz : (p.size : Int) + (k : Int) ≤ (t.size : Int) := by omega
      have hbe : ((t.extract k (p.size + k)).toList == p.toList) = plcB p t (p.size + k) := by rw [ba_beq]; unfold plcB; rw [Nat.add_sub_cancel_left]
      have hn1 : (((p.size : Int) + (k : Int)) - (p.size : Int)).toNat = k := by omega
      have hn2 : ((p.size : Int) + (k : Int)).toNat = p.size + k := by omega
      cases hq : plcB p t (p.size + k) with
      | true =>
        have hS : Hid (selR (plcB p t) p.size (k + 1) = selR (plcB p t) p.size k ++ [(p.size : Int) + (k : Int)]) := by
          refine Lib.hid ?_
          rw [selR_yes hq]
          simp
        rw [hq] at hbe
        clear hq
        go_wp2_with (at_builtin; refine wpList_push1 rfl (.tmp 24) (.tmp 26) rfl _ _ _ hI.out (by omega) hsa ((p.size : Int) + (k : Int)) rfl rfl ?_)
        intro v' w3 hI3 hb3
        go_wp2_with fail
        exact ⟨⟨k + 1, by omega, by go_num, by rw [hS.out]; exact hI3, hb.trans hb3⟩, by simp [intOf]; omega⟩
      | false =>
        have hS := Lib.hid (selR_no hq)
        rw [hq] at hbe
        clear hq
        go_wp2_with fail
        exact ⟨⟨k + 1, by omega, by go_num, by rw [hS.out]; exact hI, hb⟩, by simp [intOf]; omega⟩
    · have hks : k = t.size + 1 - p.size := by omega
      have hz : ¬ (p.size : Int) + (k : Int) ≤ (t.size : Int) := by omega
      have Hks := Lib.hid hks
      clear hks
      go_wp2_with fail
      go_ret
      exact ⟨_, rfl, by rw [← Hks.out]; exact hI.out, hb⟩

def ansPlc (p t : ByteArray) : List Int := if patG p && tossG t then selR (plcB p t) p.size (t.size + 1 - p.size) else []
theorem toss_in {t : ByteArray} (g : tossG t = true) : t.size ≤ 40 := by
  unfold tossG at g
  simp at g
  exact g.1
theorem ansPlc_len (p t : ByteArray) : (ansPlc p t).length ≤ 1000 := by
  unfold ansPlc
  split
  · rename_i h
    rw [Bool.and_eq_true] at h
    have := selR_len (plcB p t) p.size (t.size + 1 - p.size)
    have := toss_in h.2
    omega
  · simp

set_option maxRecDepth 100000 in
set_option maxHeartbeats 1600000 in
theorem specPlaces_any (p t : ByteArray) (w : World) (hp : p.size ≤ maxLen) (ht : t.size ≤ maxLen) :
    Calls Tryd.prog 26 #[.string p, .string t] w (RowAns (ansPlc p t) (patG p && tossG t) w) := by
  cases h1 : patG p
  · rw [show ansPlc p t = [] from by unfold ansPlc; rw [h1]; rfl]
    go_enter Tryd.func26, Tryd.ntmps26
    go_wp2_with fail
    refine (ptGood_any p _ hp).mono ?_
    rintro e w1 ⟨rfl, rfl⟩
    rw [h1]
    go_wp2_with fail
    go_ret2
    exact ⟨_, rfl, IRow.nil _ _, Below.refl _ _⟩
  · cases h2 : tossG t
    · rw [show ansPlc p t = [] from by unfold ansPlc; rw [h1, h2]; rfl]
      go_enter Tryd.func26, Tryd.ntmps26
      go_wp2_with fail
      refine (ptGood_any p _ hp).mono ?_
      rintro e w1 ⟨rfl, rfl⟩
      rw [h1]
      go_wp2_with fail
      refine (ptTosses_any t _ ht).mono ?_
      rintro e w2 ⟨rfl, rfl⟩
      rw [h2]
      go_wp2_with fail
      go_ret2
      exact ⟨_, rfl, IRow.nil _ _, Below.refl _ _⟩
    · rw [show ansPlc p t = selR (plcB p t) p.size (t.size + 1 - p.size) from by unfold ansPlc; rw [h1, h2]; rfl]
      obtain ⟨p1, p2, p3⟩ := pat_in h1
      have t40 := toss_in h2
      go_enter Tryd.func26, Tryd.ntmps26
      go_wp2_with fail
      refine (ptGood_any p _ hp).mono ?_
      rintro e w1 ⟨rfl, rfl⟩
      rw [h1]
      go_wp2_with fail
      refine (ptTosses_any t _ ht).mono ?_
      rintro e w2 ⟨rfl, rfl⟩
      rw [h2]
      go_wp2_with fail
      refine (ptPlaces_any p t _ p1 p2 t40).mono ?_
      rintro e w3 ⟨v, rfl, r3, b3⟩
      go_wp2_with fail
      go_ret2
      exact ⟨_, rfl, r3, b3⟩

set_option maxRecDepth 100000 in
set_option maxHeartbeats 1600000 in
theorem implPlaces_any (p t : ByteArray) (w : World) (hp : p.size ≤ maxLen) (ht : t.size ≤ maxLen) :
    Calls Tryd.prog 27 #[.string p, .string t] w (RowAns (ansPlc p t) (patG p && tossG t) w) := by
  cases h1 : patG p
  · rw [show ansPlc p t = [] from by unfold ansPlc; rw [h1]; rfl]
    go_enter Tryd.func27, Tryd.ntmps27
    go_wp2_with fail
    refine (implIsPattern_any p _ hp).mono ?_
    rintro e w1 ⟨rfl, b1⟩
    rw [h1]
    go_wp2_with fail
    go_ret2
    exact ⟨_, rfl, IRow.nil _ _, b1⟩
  · cases h2 : tossG t
    · rw [show ansPlc p t = [] from by unfold ansPlc; rw [h1, h2]; rfl]
      go_enter Tryd.func27, Tryd.ntmps27
      go_wp2_with fail
      refine (implIsPattern_any p _ hp).mono ?_
      rintro e w1 ⟨rfl, b1⟩
      rw [h1]
      go_wp2_with fail
      refine (implTosses_any t _ ht).mono ?_
      rintro e w2 ⟨rfl, b2⟩
      rw [h2]
      go_wp2_with fail
      go_ret2
      exact ⟨_, rfl, IRow.nil _ _, bel_trans b1 b2⟩
    · rw [show ansPlc p t = selR (plcB p t) p.size (t.size + 1 - p.size) from by unfold ansPlc; rw [h1, h2]; rfl]
      obtain ⟨p1, p2, p3⟩ := pat_in h1
      have t40 := toss_in h2
      go_enter Tryd.func27, Tryd.ntmps27
      go_wp2_with fail
      refine (implIsPattern_any p _ hp).mono ?_
      rintro e w1 ⟨rfl, b1⟩
      rw [h1]
      go_wp2_with fail
      refine (implTosses_any t _ ht).mono ?_
      rintro e w2 ⟨rfl, b2⟩
      rw [h2]
      go_wp2_with fail
      have hbl := bel_trans b1 b2
      have hbs := hbl.size
      have Hp3 := Lib.hid p3
      have Ht := Lib.hid (show tossG t = true from h2)
      clear h1 h2 p3 b1 b2
      go_loopw [6, 7] (fun v x wr => ∃ k : Nat, k ≤ t.size + 1 - p.size ∧ x = .int .i64 ((p.size : Int) + k) ∧ Hid (IRow wr w.heap.size v (selR (plcB p t) p.size k)) ∧ Below w.heap.size w wr) (fun _ x _ => t.size + 1 + p.size - (intOf x).toNat)
      case atStart => exact ⟨0, by omega, by simp, IRow.nil _ _, hbl⟩
      case round =>
        obtain ⟨k, hk, rfl, hI, hb⟩ := hrel
        obtain ⟨wa, rfl⟩ : ∃ wa : World, wa = wr := ⟨_, rfl⟩
        have hsa := hb.size
        by_cases hlt : k < t.size + 1 - p.size
        · skip
          have hl := selR_len (plcB p t) p.size k
          have hz : (p.size : Int) + (k : Int) ≤ (t.size : Int) := by omega
          have hbe : Lib.hasSuffix (t.extract 0 (p.size + k)).data.toList p.data.toList = plcB p t (p.size + k) := suf_plc p t (p.size + k) (by omega) (by omega)
          have hn2 : ((p.size : Int) + (k : Int)).toNat = p.size + k := by omega
          have hsz : (t.extract 0 (p.size + k)).size ≤ 9223372036854775807 := by rw [ext_size _ _ _ (by omega)]; omega
          have Hsz := Lib.hid hsz
          clear hsz
          cases hq : plcB p t (p.size + k) with
          | true =>
            have hS : Hid (selR (plcB p t) p.size (k + 1) = selR (plcB p t) p.size k ++ [(p.size : Int) + (k : Int)]) := by
              refine Lib.hid ?_
              rw [selR_yes hq]
              simp
            rw [hq] at hbe
            clear hq
            have Hbe := Lib.hid hbe
            clear hbe
            go_wp2_with fail
            refine (suffix_any _ p _ Hsz.out).mono ?_
            rintro e w2 ⟨rfl, rfl⟩
            rw [Hbe.out]
            go_wp2_with (at_builtin; refine wpList_push1 rfl (.tmp 29) (.tmp 31) rfl _ _ _ hI.out (by omega) hsa ((p.size : Int) + (k : Int)) rfl rfl ?_)
            intro v' w3 hI3 hb3
            go_wp2_with fail
            exact ⟨⟨k + 1, by omega, by go_num, by rw [hS.out]; exact hI3, hb.trans hb3⟩, by simp [intOf]; omega⟩
          | false =>
            have hS := Lib.hid (selR_no hq)
            rw [hq] at hbe
            clear hq
            have Hbe := Lib.hid hbe
            clear hbe
            go_wp2_with fail
            refine (suffix_any _ p _ Hsz.out).mono ?_
            rintro e w2 ⟨rfl, rfl⟩
            rw [Hbe.out]
            go_wp2_with fail
            exact ⟨⟨k + 1, by omega, by go_num, by rw [hS.out]; exact hI, hb⟩, by simp [intOf]; omega⟩
        · have hks : k = t.size + 1 - p.size := by omega
          have hz : ¬ (p.size : Int) + (k : Int) ≤ (t.size : Int) := by omega
          have Hks := Lib.hid hks
          clear hks
          go_wp2_with fail
          go_ret2
          exact ⟨_, rfl, by rw [← Hks.out]; exact hI.out, hb⟩

set_option maxHeartbeats 1600000 in
theorem walkExactPlacesOf (s t : ByteArray) (w : World) (hs : s.size ≤ maxLen) (ht : t.size ≤ maxLen) :
    Calls Tryd.prog 8 #[.string s, .string t] w fun e w' => e = .returned (.bool true) ∧ Below w.heap.size w w' := by
  by_cases z : s.size ≤ 1048576
  · by_cases z2 : t.size ≤ 1048576
    · have hlen : (ansPlc s t).length ≤ 1000 := ansPlc_len s t
      generalize hxs : ansPlc s t = xs at *
      have Hxs := Lib.hid hxs
      clear hxs
      generalize hok : (patG s && tossG t) = ok at *
      have Hok := Lib.hid hok
      clear hok
      go_enter Tryd.func8, Tryd.ntmps8
      go_wp2_with fail
      refine (specPlaces_any s t _ hs ht).mono ?_
      rw [Hxs.out, Hok.out]
      rintro e w1 ⟨v0, rfl, r0, bl1⟩
      have R0 := Lib.hid r0
      clear r0
      go_wp2_with fail
      refine (implPlaces_any s t _ hs ht).mono ?_
      rw [Hxs.out, Hok.out]
      rintro e w2 ⟨v1, rfl, r1, hb2⟩
      have R1 := Lib.hid r1
      clear r1
      have R0b := Lib.hid (R0.out.below hb2)
      have bl2 := bel_trans bl1 hb2
      go_wp2_with fail
      refine (eqInt_same xs v1 v0 _ _ _ R1.out R0b.out).mono ?_
      rintro e w3 ⟨rfl, n3, rfl⟩
      go_wp2_with fail
      refine (mark_any xs v1 _ 1 _ (R1.out.drewN n3) (by omega) (by omega)).mono ?_
      rintro e w4 ⟨rfl, r4, hg4⟩
      have R4 := Lib.hid r4
      clear r4
      have bl4 := bel_grown (bel_drewN bl2 n3) hg4 (R1.out.drewN n3) (Nat.le_trans bl1.size (Nat.le_refl _))
      have R0c := Lib.hid ((R0b.out.drewN n3).kept_by hg4 (R1.out.drewN n3) bl1.size (R0.out))
      go_wp2_with fail
      refine (held_any xs v1 _ 1 _ R4.out (by omega) (by omega)).mono ?_
      rintro e w5 ⟨rfl, n5, rfl⟩
      have t1 : decide ((1 : Int) + (xs.length : Int) < 0) = false := by simp; omega
      go_wp2_with fail
      refine (implPlaces_any s t _ hs ht).mono ?_
      rw [Hxs.out, Hok.out]
      rintro e w6 ⟨v2, rfl, r6, hb6⟩
      have R2 := Lib.hid r6
      clear r6
      have hb6b := bel_undrewN hb6
      have R0d := Lib.hid (R0c.out.below hb6b)
      have R1d := Lib.hid (R4.out.below hb6b)
      have bl6 := bel_trans bl4 hb6b
      go_wp2_with fail
      refine (eqInt_same xs v2 v0 _ _ _ R2.out R0d.out).mono ?_
      rintro e w7 ⟨rfl, n7, rfl⟩
      go_wp2_with fail
      refine (held_any xs v1 _ 1 _ (R1d.out.drewN n7) (by omega) (by omega)).mono ?_
      rintro e w8 ⟨rfl, n8, rfl⟩
      go_wp2_with fail
      go_ret
      refine ⟨rfl, ?_⟩
      repeat (first | assumption | with_reducible exact Below.refl _ _ | refine bel_alloc ?_ _ | refine bel_drewN ?_ _ | refine Below.drew ?_ | (refine Below.setCell ?_ (by simp) _) | (refine bel_trans ?_ (by assumption)))
    · go_enter Tryd.func8, Tryd.ntmps8
      go_wp2
      go_ret
      exact ⟨rfl, Below.refl _ _⟩
  · go_enter Tryd.func8, Tryd.ntmps8
    go_wp2
    go_ret
    exact ⟨rfl, Below.refl _ _⟩

end Go.Proofs.YtjckmnbpfmcadaaDoor
