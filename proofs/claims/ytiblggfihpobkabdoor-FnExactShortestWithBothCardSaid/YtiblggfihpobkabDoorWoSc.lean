/- ShortestWithBoth: the contract of the model, and the walk. -/
import Derived.Test.YtiblggfihpobkabDoorWoSb
namespace Go.Proofs.YtiblggfihpobkabDoor
set_option linter.unusedSimpArgs false
open Go.ChangeShapes Go.WideShapes Go.ChangeAt Go.RowKit
set_option linter.unusedVariables false

theorem sel_pos {p t : ByteArray} (h1 : 1 ≤ p.size) (h : conB t p = true) : 0 < (selR (plwB p t) 0 (t.size + 1 - p.size)).length := by
  rw [← con_sel h1] at h
  simpa using h
theorem sel_no {p t : ByteArray} (h1 : 1 ≤ p.size) (h : conB t p = false) : ¬ 0 < (selR (plwB p t) 0 (t.size + 1 - p.size)).length := by
  rw [← con_sel h1] at h
  simpa using h
set_option maxRecDepth 100000 in
set_option maxHeartbeats 1600000 in
theorem specSb_any (a b : ByteArray) (w : World) (ha : a.size ≤ maxLen) (hb : b.size ≤ maxLen) :
    Calls Tryd.prog 11 #[.string a, .string b] w fun e w' => e = .returned (ansSb a b) ∧ Below w.heap.size w w' := by
  cases h1 : woG 26 a
  · rw [show ansSb a b = .tuple #[.string ⟨#[]⟩, .bool false] from by unfold ansSb; rw [h1]; rfl]
    go_enter Tryd.func11, Tryd.ntmps11
    go_wp2_with fail
    refine (woAny_any a _ ha).mono ?_
    rintro e w1 ⟨rfl, rfl⟩
    rw [h1]
    go_wp2_with fail
    go_ret2
    exact ⟨rfl, Below.refl _ _⟩
  · cases h2 : woG 26 b
    · rw [show ansSb a b = .tuple #[.string ⟨#[]⟩, .bool false] from by unfold ansSb; rw [h1, h2]; rfl]
      go_enter Tryd.func11, Tryd.ntmps11
      go_wp2_with fail
      refine (woAny_any a _ ha).mono ?_
      rintro e w1 ⟨rfl, rfl⟩
      rw [h1]
      go_wp2_with fail
      refine (woAny_any b _ hb).mono ?_
      rintro e w2 ⟨rfl, rfl⟩
      rw [h2]
      go_wp2_with fail
      go_ret2
      exact ⟨rfl, Below.refl _ _⟩
    · obtain ⟨p1, p2, p3⟩ := wo_in h1
      obtain ⟨q1, q2, q3⟩ := wo_in h2
      have hl1 := selR_len (plwB a b) 0 (b.size + 1 - a.size)
      have hl2 := selR_len (plwB b a) 0 (a.size + 1 - b.size)
      rw [show ansSb a b = .tuple #[.string (sbW a b), .bool true] from by unfold ansSb; rw [h1, h2]; rfl]
      have HP3 := Lib.hid p3
      have HQ3 := Lib.hid q3
      clear p3 q3
      cases h3 : conB b a
      · have c1 := Lib.hid (sel_no p1 h3)
        cases h4 : conB a b
        · have c2 := Lib.hid (sel_no q1 h4)
          have hsb : sbW a b = pick2 (bh a b (jnC a b (min a.size b.size))) (bh b a (jnC b a (min b.size a.size))) := by unfold sbW; rw [h3, h4]; rfl
          rw [hsb]
          have hxz := bh_size16 a b _ p2 q2 (Nat.le_trans (jnC_le a b (min a.size b.size)) (Nat.min_le_right _ _))
          have hyz := bh_size16 b a _ q2 p2 (Nat.le_trans (jnC_le b a (min b.size a.size)) (Nat.min_le_right _ _))
          obtain ⟨x, hx⟩ : ∃ x, x = bh a b (jnC a b (min a.size b.size)) := ⟨_, rfl⟩
          obtain ⟨y, hy⟩ : ∃ y, y = bh b a (jnC b a (min b.size a.size)) := ⟨_, rfl⟩
          rw [← hx] at hxz
          rw [← hy] at hyz
          rw [← hx, ← hy]
          have Hx := Lib.hid hx
          have Hy := Lib.hid hy
          clear hx hy hsb h3 h4
          have hl := bl_ltb y x
          by_cases g1 : y.size < x.size
          · have gz : (y.size : Int) < (x.size : Int) := by omega
            have hp : Hid (pick2 x y = y) := Lib.hid (bef_yes (by unfold bef; simp [g1]))
            go_enter Tryd.func11, Tryd.ntmps11
            go_wp2_with fail
            refine (woAny_any a _ ha).mono ?_
            rintro e w1 ⟨rfl, rfl⟩
            rw [h1]
            go_wp2_with fail
            refine (woAny_any b _ hb).mono ?_
            rintro e w2 ⟨rfl, rfl⟩
            rw [h2]
            clear h1 h2
            go_wp2_with fail
            refine (woPlaces_any a b _ p1 p2 (by omega)).mono ?_
            rintro e w3 ⟨v, rfl, r3, b3⟩
            rcases r3.form with ⟨hx, A0, cap0, rfl⟩ | ⟨hx, _⟩
            rotate_left
            · exact absurd hx c1.out
            clear hx
            go_wp2_with fail
            refine (woPlaces_any b a _ q1 q2 (by omega)).mono ?_
            rintro e w4 ⟨v4, rfl, r4, b4⟩
            rcases r4.form with ⟨hx, A1, cap1, rfl⟩ | ⟨hx, _⟩
            rotate_left
            · exact absurd hx c2.out
            clear hx
            have hbl := bel_trans b3 b4
            go_wp2_with fail
            refine (woBehind_any a b _ p2 q2).mono ?_
            rintro e w5 ⟨rfl, n5, rfl⟩
            rw [← Hx.out]
            go_wp2_with fail
            refine (woBehind_any b a _ q2 p2).mono ?_
            rintro e w6 ⟨rfl, n6, rfl⟩
            rw [← Hy.out]
            go_wp2_with fail
            go_ret2
            exact ⟨by rw [hp.out]; rfl, bel_drewN hbl _⟩
          · have gz : ¬ (y.size : Int) < (x.size : Int) := by omega
            by_cases g2 : y.size = x.size
            · have gi : ((y.size : Int) == (x.size : Int)) = true := by simp [g2]
              have gn : (y.size == x.size) = true := by simp [g2]
              have hbf : bef y x = ltS y x := by unfold bef; simp [g1, g2]
              cases hq : ltS y x with
              | true =>
                rw [hq] at hl hbf
                have hp : Hid (pick2 x y = y) := Lib.hid (bef_yes hbf)
                clear hbf g2 hq
                go_enter Tryd.func11, Tryd.ntmps11
                go_wp2_with fail
                refine (woAny_any a _ ha).mono ?_
                rintro e w1 ⟨rfl, rfl⟩
                rw [h1]
                go_wp2_with fail
                refine (woAny_any b _ hb).mono ?_
                rintro e w2 ⟨rfl, rfl⟩
                rw [h2]
                clear h1 h2
                go_wp2_with fail
                refine (woPlaces_any a b _ p1 p2 (by omega)).mono ?_
                rintro e w3 ⟨v, rfl, r3, b3⟩
                rcases r3.form with ⟨hx, A0, cap0, rfl⟩ | ⟨hx, _⟩
                rotate_left
                · exact absurd hx c1.out
                clear hx
                go_wp2_with fail
                refine (woPlaces_any b a _ q1 q2 (by omega)).mono ?_
                rintro e w4 ⟨v4, rfl, r4, b4⟩
                rcases r4.form with ⟨hx, A1, cap1, rfl⟩ | ⟨hx, _⟩
                rotate_left
                · exact absurd hx c2.out
                clear hx
                have hbl := bel_trans b3 b4
                go_wp2_with fail
                refine (woBehind_any a b _ p2 q2).mono ?_
                rintro e w5 ⟨rfl, n5, rfl⟩
                rw [← Hx.out]
                go_wp2_with fail
                refine (woBehind_any b a _ q2 p2).mono ?_
                rintro e w6 ⟨rfl, n6, rfl⟩
                rw [← Hy.out]
                go_wp2_with fail
                go_ret2
                exact ⟨by rw [hp.out]; rfl, bel_drewN hbl _⟩
              | false =>
                rw [hq] at hl hbf
                have hp : Hid (pick2 x y = x) := Lib.hid (bef_no hbf)
                clear hbf g2 hq
                go_enter Tryd.func11, Tryd.ntmps11
                go_wp2_with fail
                refine (woAny_any a _ ha).mono ?_
                rintro e w1 ⟨rfl, rfl⟩
                rw [h1]
                go_wp2_with fail
                refine (woAny_any b _ hb).mono ?_
                rintro e w2 ⟨rfl, rfl⟩
                rw [h2]
                clear h1 h2
                go_wp2_with fail
                refine (woPlaces_any a b _ p1 p2 (by omega)).mono ?_
                rintro e w3 ⟨v, rfl, r3, b3⟩
                rcases r3.form with ⟨hx, A0, cap0, rfl⟩ | ⟨hx, _⟩
                rotate_left
                · exact absurd hx c1.out
                clear hx
                go_wp2_with fail
                refine (woPlaces_any b a _ q1 q2 (by omega)).mono ?_
                rintro e w4 ⟨v4, rfl, r4, b4⟩
                rcases r4.form with ⟨hx, A1, cap1, rfl⟩ | ⟨hx, _⟩
                rotate_left
                · exact absurd hx c2.out
                clear hx
                have hbl := bel_trans b3 b4
                go_wp2_with fail
                refine (woBehind_any a b _ p2 q2).mono ?_
                rintro e w5 ⟨rfl, n5, rfl⟩
                rw [← Hx.out]
                go_wp2_with fail
                refine (woBehind_any b a _ q2 p2).mono ?_
                rintro e w6 ⟨rfl, n6, rfl⟩
                rw [← Hy.out]
                go_wp2_with fail
                go_ret2
                exact ⟨by rw [hp.out]; rfl, bel_drewN hbl _⟩
            · have gi : ((y.size : Int) == (x.size : Int)) = false := by simp; omega
              have gj : ¬ (y.size : Int) = (x.size : Int) := by omega
              have gn : (y.size == x.size) = false := by simpa using g2
              have hp : Hid (pick2 x y = x) := Lib.hid (bef_no (by unfold bef; simp [g1, g2]))
              go_enter Tryd.func11, Tryd.ntmps11
              go_wp2_with fail
              refine (woAny_any a _ ha).mono ?_
              rintro e w1 ⟨rfl, rfl⟩
              rw [h1]
              go_wp2_with fail
              refine (woAny_any b _ hb).mono ?_
              rintro e w2 ⟨rfl, rfl⟩
              rw [h2]
              clear h1 h2
              go_wp2_with fail
              refine (woPlaces_any a b _ p1 p2 (by omega)).mono ?_
              rintro e w3 ⟨v, rfl, r3, b3⟩
              rcases r3.form with ⟨hx, A0, cap0, rfl⟩ | ⟨hx, _⟩
              rotate_left
              · exact absurd hx c1.out
              clear hx
              go_wp2_with fail
              refine (woPlaces_any b a _ q1 q2 (by omega)).mono ?_
              rintro e w4 ⟨v4, rfl, r4, b4⟩
              rcases r4.form with ⟨hx, A1, cap1, rfl⟩ | ⟨hx, _⟩
              rotate_left
              · exact absurd hx c2.out
              clear hx
              have hbl := bel_trans b3 b4
              go_wp2_with fail
              refine (woBehind_any a b _ p2 q2).mono ?_
              rintro e w5 ⟨rfl, n5, rfl⟩
              rw [← Hx.out]
              go_wp2_with fail
              refine (woBehind_any b a _ q2 p2).mono ?_
              rintro e w6 ⟨rfl, n6, rfl⟩
              rw [← Hy.out]
              go_wp2_with fail
              go_ret2
              exact ⟨by rw [hp.out]; rfl, bel_drewN hbl _⟩
        · have c2 := Lib.hid (sel_pos q1 h4)
          rw [show sbW a b = a from by unfold sbW; rw [h3, h4]; rfl]
          clear h3 h4
          go_enter Tryd.func11, Tryd.ntmps11
          go_wp2_with fail
          refine (woAny_any a _ ha).mono ?_
          rintro e w1 ⟨rfl, rfl⟩
          rw [h1]
          go_wp2_with fail
          refine (woAny_any b _ hb).mono ?_
          rintro e w2 ⟨rfl, rfl⟩
          rw [h2]
          clear h1 h2
          go_wp2_with fail
          refine (woPlaces_any a b _ p1 p2 (by omega)).mono ?_
          rintro e w3 ⟨v, rfl, r3, b3⟩
          rcases r3.form with ⟨hx, A0, cap0, rfl⟩ | ⟨hx, _⟩
          rotate_left
          · exact absurd hx c1.out
          clear hx
          go_wp2_with fail
          refine (woPlaces_any b a _ q1 q2 (by omega)).mono ?_
          rintro e w4 ⟨v4, rfl, r4, b4⟩
          rcases r4.form with ⟨hx, _⟩ | ⟨hx, g, cap, rfl, hbg, hgl, hlc, hcm⟩
          · have := c2.out
            rw [hx] at this
            simp at this
          generalize (selR (plwB b a) 0 (a.size + 1 - b.size)).length = N at *
          go_wp2_with fail
          go_ret2
          exact ⟨rfl, bel_trans b3 b4⟩
      · have c1 := Lib.hid (sel_pos p1 h3)
        rw [show sbW a b = b from by unfold sbW; rw [h3]; rfl]
        clear h3
        go_enter Tryd.func11, Tryd.ntmps11
        go_wp2_with fail
        refine (woAny_any a _ ha).mono ?_
        rintro e w1 ⟨rfl, rfl⟩
        rw [h1]
        go_wp2_with fail
        refine (woAny_any b _ hb).mono ?_
        rintro e w2 ⟨rfl, rfl⟩
        rw [h2]
        clear h1 h2
        go_wp2_with fail
        refine (woPlaces_any a b _ p1 p2 (by omega)).mono ?_
        rintro e w3 ⟨v, rfl, r3, b3⟩
        rcases r3.form with ⟨hx, _⟩ | ⟨hx, g, cap, rfl, hbg, hgl, hlc, hcm⟩
        · have := c1.out
          rw [hx] at this
          simp at this
        generalize (selR (plwB a b) 0 (b.size + 1 - a.size)).length = N at *
        go_wp2_with fail
        go_ret2
        exact ⟨rfl, b3⟩
theorem ansSb_form (a b : ByteArray) : ∃ (x : ByteArray) (o : Bool), ansSb a b = .tuple #[.string x, .bool o] := by
  unfold ansSb
  split
  · exact ⟨_, _, rfl⟩
  · exact ⟨_, _, rfl⟩
theorem walkExactShortestWithBoth (s t : ByteArray) (w : World) (hM : MLen w) (hs : s.size ≤ maxLen) (ht : t.size ≤ maxLen) :
    Calls Tryd.prog 5 #[.string s, .string t] w fun e w' => e = .returned (.bool true) ∧ Below w.heap.size w w' := by
  by_cases z0 : s.size ≤ 1048576
  rotate_left
  · go_enter Tryd.func5, Tryd.ntmps5
    go_wp2
    go_ret
    exact ⟨rfl, Below.refl _ _⟩
  by_cases z1 : t.size ≤ 1048576
  rotate_left
  · go_enter Tryd.func5, Tryd.ntmps5
    go_wp2
    go_ret
    exact ⟨rfl, Below.refl _ _⟩
  obtain ⟨x, o, hf⟩ := ansSb_form s t
  have Hf := Lib.hid hf
  have HM := Lib.hid hM
  clear hf hM
  go_enter Tryd.func5, Tryd.ntmps5
  go_wp2_with fail
  refine (specSb_any s t _ hs ht).mono ?_
  rw [Hf.out]
  rintro e w1 ⟨rfl, b1⟩
  go_wp2_with fail
  refine (implSb_any s t _ (HM.out.keep b1) hs ht).mono ?_
  rw [Hf.out]
  rintro e w2 ⟨rfl, b2⟩
  go_wp2_with fail
  go_ret
  exact ⟨rfl, bel_trans b1 b2⟩
end Go.Proofs.YtiblggfihpobkabDoor
