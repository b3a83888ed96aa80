/- ParseStakes: the contract of the program, and the walk. -/
import Derived.Test.YtfogipdhipipfabDoorSpW
import Derived.Test.YtfogipdhipipfabDoorMlC
import Derived.Test.YtfogipdhipipfabDoorNmI
import Derived.Test.YtfogipdhipipfabDoorBoxW
namespace Go.Proofs.YtfogipdhipipfabDoor
set_option linter.unusedSimpArgs false
open Go.ChangeShapes Go.WideShapes Go.ChangeAt Go.RowKit
set_option linter.unusedVariables false

set_option maxRecDepth 100000 in
set_option maxHeartbeats 6400000 in
theorem implPSt_any (s : ByteArray) (w : World) (hS : Sent w) (hM : MLen w) (hs : s.size ≤ 1048576) :
    Calls Tryd.prog 21 #[.string s] w fun e w' => e = .returned (ansSt s.data.toList) ∧ Below w.heap.size w w' := by
  have bx0 := Lib.hid (BoxW.new w (.int .i64 0) (.int .i64 0) 27)
  have bl0 := bel_alloc (Below.refl _ w) (.cells #[.int .i64 0, .int .i64 0] 27)
  have hcl := cut2_len s.data.toList [111, 102]
  rw [len_list] at hcl
  have zX : Hid ((baL (Lib.cut s.data.toList [111, 102]).1).size ≤ 2000000) := Lib.hid (by show (Lib.cut s.data.toList [111, 102]).1.toArray.size ≤ _; simp; omega)
  have zY : Hid ((baL (Lib.cut s.data.toList [111, 102]).2.1).size ≤ 2000000) := Lib.hid (by show (Lib.cut s.data.toList [111, 102]).2.1.toArray.size ≤ _; simp; omega)
  clear hcl
  obtain ⟨h, hh⟩ : ∃ h, numI (baL (Lib.cut s.data.toList [111, 102]).1).data.toList = h := ⟨_, rfl⟩
  obtain ⟨o, ho⟩ : ∃ o, numI (baL (Lib.cut s.data.toList [111, 102]).2.1).data.toList = o := ⟨_, rfl⟩
  have hp : prgS s.data.toList = (h, o) := by unfold prgS; rw [← hh, ← ho, baL_toList, baL_toList]
  have HX := Lib.hid hh
  have HY := Lib.hid ho
  clear hh ho
  cases hg : skG h o
  · have hA : ansSt s.data.toList = .tuple #[sk 0 0, .bool false] := by unfold ansSt ansO readS; rw [hp]; simp [hg]
    have HT : Hid (ansSkT h o = .tuple #[.string ⟨#[]⟩, .bool false]) := Lib.hid (by unfold ansSkT; rw [hg]; rfl)
    rw [hA]
    clear hA hp hg
    go_enter Tryd.func21, Tryd.ntmps21
    go_wp2_with fail
    refine (cutOf_any s _ (hM.keep bl0) (by omega)).mono ?_
    rintro e w1 ⟨rfl, n1', rfl⟩
    have bx1 := Lib.hid (bx0.out.drewN n1')
    have bl1 := bel_drewN bl0 n1'
    have s1 := Lib.hid (hS.keep bl1)
    go_wp2_with fail
    refine (numberIn_any _ _ s1.out zX.out).mono ?_
    rintro e w2 ⟨rfl, hb2⟩
    have bx2 := Lib.hid (bx1.out.keep hb2)
    have bl2 := bel_trans bl1 hb2
    have s2 := Lib.hid (hS.keep bl2)
    go_wp2_with fail
    refine (numberIn_any _ _ s2.out zY.out).mono ?_
    rintro e w3 ⟨rfl, hb3⟩
    rw [HX.out, HY.out]
    have bx3 := Lib.hid (bx2.out.keep hb3)
    have bl3 := bel_trans bl2 hb3
    have bc3 := Lib.hid (BoxW.new w3 (.int .i64 h) (.int .i64 o) 27)
    have bx4 := Lib.hid (bx3.out.keep (bel_alloc (Below.refl _ w3) (.cells #[.int .i64 h, .int .i64 o] 27)))
    have bl4 := bel_alloc bl3 (.cells #[.int .i64 h, .int .i64 o] 27)
    obtain ⟨⟨b0, b1, b2⟩, b3, b4⟩ := bc3.out
    go_wp2_with fail
    refine (implSkT_any h o _).mono ?_
    rintro e w5 ⟨rfl, hb5⟩
    rw [HT.out]
    have bx5 := Lib.hid (bx4.out.keep hb5)
    have bc5 := Lib.hid (bc3.out.keep hb5)
    have bl5 := bel_trans bl4 hb5
    clear b0 b1 b2 b3 b4
    obtain ⟨⟨m0, m1, m2⟩, m3, m4⟩ := bx5.out
    obtain ⟨⟨k0, k1, k2⟩, k3, k4⟩ := bc5.out
    go_wp2_with fail
    have hset := Lib.hid (bx5.out.set (.int .i64 (0)) (.int .i64 (0)))
    obtain ⟨⟨n0, n1, n2⟩, n3, n4⟩ := hset.out
    refine bodyPost_ret (v := .tuple #[sk (0) (0), .bool false]) (by simp [results, Tryd.results21, go_sem, n0, n1]) rfl ⟨rfl, ?_⟩
    exact bel_set bl5 (Nat.le_refl _) _ _
  · obtain ⟨a, b, rfl, rfl, la, lb⟩ := sk_nat hg
    have HT : Hid (ansSkT (a : Int) (b : Int) = .tuple #[.string (skT a b), .bool true]) := Lib.hid (by unfold ansSkT; rw [hg]; rfl)
    by_cases he : stL a b = s.data.toList
    · have hA : ansSt s.data.toList = .tuple #[sk a b, .bool true] := by unfold ansSt ansO readS; rw [hp]; simp [hg, he]
      have hq : skT a b = s := by rw [stL_eq a b la lb, he, baL_list]
      have hd : ((skT a b).toList == s.toList) = true := by rw [hq]; simp
      have hd2 : ((skT a b).toList != s.toList) = false := by rw [hq]; simp
      rw [hA]
      clear hA hp hg he hq
      generalize skT a b = T at *
      generalize (a : Int) = h at *
      generalize (b : Int) = o at *
      go_enter Tryd.func21, Tryd.ntmps21
      go_wp2_with fail
      refine (cutOf_any s _ (hM.keep bl0) (by omega)).mono ?_
      rintro e w1 ⟨rfl, n1', rfl⟩
      have bx1 := Lib.hid (bx0.out.drewN n1')
      have bl1 := bel_drewN bl0 n1'
      have s1 := Lib.hid (hS.keep bl1)
      go_wp2_with fail
      refine (numberIn_any _ _ s1.out zX.out).mono ?_
      rintro e w2 ⟨rfl, hb2⟩
      have bx2 := Lib.hid (bx1.out.keep hb2)
      have bl2 := bel_trans bl1 hb2
      have s2 := Lib.hid (hS.keep bl2)
      go_wp2_with fail
      refine (numberIn_any _ _ s2.out zY.out).mono ?_
      rintro e w3 ⟨rfl, hb3⟩
      rw [HX.out, HY.out]
      have bx3 := Lib.hid (bx2.out.keep hb3)
      have bl3 := bel_trans bl2 hb3
      have bc3 := Lib.hid (BoxW.new w3 (.int .i64 h) (.int .i64 o) 27)
      have bx4 := Lib.hid (bx3.out.keep (bel_alloc (Below.refl _ w3) (.cells #[.int .i64 h, .int .i64 o] 27)))
      have bl4 := bel_alloc bl3 (.cells #[.int .i64 h, .int .i64 o] 27)
      obtain ⟨⟨b0, b1, b2⟩, b3, b4⟩ := bc3.out
      go_wp2_with fail
      refine (implSkT_any h o _).mono ?_
      rintro e w5 ⟨rfl, hb5⟩
      rw [HT.out]
      have bx5 := Lib.hid (bx4.out.keep hb5)
      have bc5 := Lib.hid (bc3.out.keep hb5)
      have bl5 := bel_trans bl4 hb5
      clear b0 b1 b2 b3 b4
      obtain ⟨⟨m0, m1, m2⟩, m3, m4⟩ := bx5.out
      obtain ⟨⟨k0, k1, k2⟩, k3, k4⟩ := bc5.out
      go_wp2_with fail
      have hset := Lib.hid (bx5.out.set (.int .i64 (h)) (.int .i64 (o)))
      obtain ⟨⟨n0, n1, n2⟩, n3, n4⟩ := hset.out
      refine bodyPost_ret (v := .tuple #[sk (h) (o), .bool true]) (by simp [results, Tryd.results21, go_sem, n0, n1]) rfl ⟨rfl, ?_⟩
      exact bel_set bl5 (Nat.le_refl _) _ _
    · have hA : ansSt s.data.toList = .tuple #[sk 0 0, .bool false] := by unfold ansSt ansO readS; rw [hp]; simp [hg, he]
      have hq : skT a b ≠ s := fun e => he (by rw [← e, stL_eq a b la lb, baL_toList])
      have hd : ((skT a b).toList == s.toList) = false := by
        simp only [beq_eq_false_iff_ne, ne_eq]
        intro e
        apply hq
        rw [ByteArray.toList_eq, ByteArray.toList_eq] at e
        exact ba_eq.2 e
      have hd2 : ((skT a b).toList != s.toList) = true := by simp only [bne, hd]; rfl
      rw [hA]
      clear hA hp hg he hq
      generalize skT a b = T at *
      generalize (a : Int) = h at *
      generalize (b : Int) = o at *
      go_enter Tryd.func21, Tryd.ntmps21
      go_wp2_with fail
      refine (cutOf_any s _ (hM.keep bl0) (by omega)).mono ?_
      rintro e w1 ⟨rfl, n1', rfl⟩
      have bx1 := Lib.hid (bx0.out.drewN n1')
      have bl1 := bel_drewN bl0 n1'
      have s1 := Lib.hid (hS.keep bl1)
      go_wp2_with fail
      refine (numberIn_any _ _ s1.out zX.out).mono ?_
      rintro e w2 ⟨rfl, hb2⟩
      have bx2 := Lib.hid (bx1.out.keep hb2)
      have bl2 := bel_trans bl1 hb2
      have s2 := Lib.hid (hS.keep bl2)
      go_wp2_with fail
      refine (numberIn_any _ _ s2.out zY.out).mono ?_
      rintro e w3 ⟨rfl, hb3⟩
      rw [HX.out, HY.out]
      have bx3 := Lib.hid (bx2.out.keep hb3)
      have bl3 := bel_trans bl2 hb3
      have bc3 := Lib.hid (BoxW.new w3 (.int .i64 h) (.int .i64 o) 27)
      have bx4 := Lib.hid (bx3.out.keep (bel_alloc (Below.refl _ w3) (.cells #[.int .i64 h, .int .i64 o] 27)))
      have bl4 := bel_alloc bl3 (.cells #[.int .i64 h, .int .i64 o] 27)
      obtain ⟨⟨b0, b1, b2⟩, b3, b4⟩ := bc3.out
      go_wp2_with fail
      refine (implSkT_any h o _).mono ?_
      rintro e w5 ⟨rfl, hb5⟩
      rw [HT.out]
      have bx5 := Lib.hid (bx4.out.keep hb5)
      have bc5 := Lib.hid (bc3.out.keep hb5)
      have bl5 := bel_trans bl4 hb5
      clear b0 b1 b2 b3 b4
      obtain ⟨⟨m0, m1, m2⟩, m3, m4⟩ := bx5.out
      obtain ⟨⟨k0, k1, k2⟩, k3, k4⟩ := bc5.out
      go_wp2_with fail
      have hset := Lib.hid (bx5.out.set (.int .i64 (0)) (.int .i64 (0)))
      obtain ⟨⟨n0, n1, n2⟩, n3, n4⟩ := hset.out
      refine bodyPost_ret (v := .tuple #[sk (0) (0), .bool false]) (by simp [results, Tryd.results21, go_sem, n0, n1]) rfl ⟨rfl, ?_⟩
      exact bel_set bl5 (Nat.le_refl _) _ _

theorem eqStk_same (x y : Int) (w : World) :
    Calls Tryd.prog 22 #[sk x y, sk x y] w fun e w' => e = .returned (.bool true) ∧ Below w.heap.size w w' := by
  go_enter Tryd.func22, Tryd.ntmps22
  go_wp2
  go_ret
  exact ⟨rfl, bel_alloc (bel_alloc (Below.refl _ _) _) _⟩

set_option maxHeartbeats 1600000 in
theorem walkExactParseStakes (s : ByteArray) (w : World) (hS : Sent w) (hM : MLen w) (hs : s.size ≤ maxLen) :
    Calls Tryd.prog 6 #[.string s] w fun e w' => e = .returned (.bool true) ∧ Below w.heap.size w w' := by
  by_cases z : s.size ≤ 1048576
  · obtain ⟨x, y, ok, hv⟩ := ansSt_form s.data.toList
    have Hv := Lib.hid hv
    clear hv
    go_enter Tryd.func6, Tryd.ntmps6
    go_wp2_with fail
    refine (specPSt_any s _ z).mono ?_
    rintro e w1 ⟨rfl, hb1⟩
    rw [Hv.out]
    have bx2 := Lib.hid (Box2.new w1 (.int .i64 x) (.int .i64 y) 27)
    have bl2 := bel_alloc hb1 (.cells #[.int .i64 x, .int .i64 y] 27)
    have s2 := Lib.hid (hS.keep bl2)
    go_wp2_with fail
    refine (implPSt_any s _ s2.out (hM.keep bl2) z).mono ?_
    rintro e w3 ⟨rfl, hb3⟩
    rw [Hv.out]
    have bx3 := Lib.hid (bx2.out.keep hb3)
    have bl3 := bel_trans bl2 hb3
    have bx4 := Lib.hid (bx3.out.keep (bel_alloc (Below.refl _ w3) (.cells #[.int .i64 x, .int .i64 y] 27)))
    have by4 := Lib.hid (Box2.new w3 (.int .i64 x) (.int .i64 y) 27)
    have bl4 := bel_alloc bl3 (.cells #[.int .i64 x, .int .i64 y] 27)
    obtain ⟨m0, m1, m2⟩ := bx4.out
    obtain ⟨k0, k1, k2⟩ := by4.out
    go_wp2_with fail
    refine (eqStk_same x y _).mono ?_
    rintro e w5 ⟨rfl, hb5⟩
    go_wp2_with fail
    go_ret
    exact ⟨rfl, bel_trans bl4 hb5⟩
  · go_enter Tryd.func6, Tryd.ntmps6
    go_wp2
    go_ret
    exact ⟨rfl, Below.refl _ _⟩
end Go.Proofs.YtfogipdhipipfabDoor
