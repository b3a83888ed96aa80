/- ParseChain: the contract of the program, and the walk. -/
import Derived.Test.YtjfcpbedmdnjcabDoorPhW
namespace Go.Proofs.YtjfcpbedmdnjcabDoor
set_option linter.unusedSimpArgs false
open Go.ChangeShapes Go.WideShapes Go.ChangeAt Go.RowKit
set_option linter.unusedVariables false

set_option maxRecDepth 100000 in
set_option maxHeartbeats 6400000 in
theorem implPH_any (s : ByteArray) (w : World) (hS : Sent w) (hs : s.size ≤ 1048576) :
    Calls Tryd.prog 32 #[.string s] w fun e w' => e = .returned (ansPH s.data.toList) ∧ Below w.heap.size w w' := by
  have bx0 := Lib.hid (Box3W.new w (.int .i64 0) (.int .i64 0) (.int .i64 0) 28)
  have bl0 := bel_alloc (Below.refl _ w) (.cells #[.int .i64 0, .int .i64 0, .int .i64 0] 28)
  obtain ⟨X, hX⟩ : ∃ X, baL (Lib.cut s.data.toList [45]).1 = X := ⟨_, rfl⟩
  obtain ⟨R, hR⟩ : ∃ R, baL (Lib.cut s.data.toList [45]).2.1 = R := ⟨_, rfl⟩
  obtain ⟨Y, hY⟩ : ∃ Y, baL (Lib.cut R.data.toList [47]).1 = Y := ⟨_, rfl⟩
  obtain ⟨Z, hZ⟩ : ∃ Z, baL (Lib.cut R.data.toList [47]).2.1 = Z := ⟨_, rfl⟩
  have hc1 := cut_len s.data.toList 45
  have hc2 := cut_len R.data.toList 47
  rw [len_list] at hc1 hc2
  have hRl : R.size = (Lib.cut s.data.toList [45]).2.1.length := by rw [← hR]; show (Lib.cut s.data.toList [45]).2.1.toArray.size = _; simp
  have zX : Hid (X.size ≤ 2000000) := Lib.hid (by rw [← hX]; show (Lib.cut s.data.toList [45]).1.toArray.size ≤ _; simp; omega)
  have zR : Hid (R.size ≤ 2000000) := Lib.hid (by omega)
  have zY : Hid (Y.size ≤ 2000000) := Lib.hid (by rw [← hY]; show (Lib.cut R.data.toList [47]).1.toArray.size ≤ _; simp; omega)
  have zZ : Hid (Z.size ≤ 2000000) := Lib.hid (by rw [← hZ]; show (Lib.cut R.data.toList [47]).2.1.toArray.size ≤ _; simp; omega)
  clear hc1 hc2 hRl
  obtain ⟨a, ha⟩ : ∃ a, numI X.data.toList = a := ⟨_, rfl⟩
  obtain ⟨b, hb⟩ : ∃ b, numI Y.data.toList = b := ⟨_, rfl⟩
  obtain ⟨c, hc⟩ : ∃ c, numI Z.data.toList = c := ⟨_, rfl⟩
  have hp : prgH s.data.toList = (a, b, c) := by
    unfold prgH
    rw [← ha, ← hb, ← hc, ← hX, ← hY, ← hZ, ← hR]
    simp only [baL_toList]
  have EX := Lib.hid hX
  have ER := Lib.hid hR
  have EY := Lib.hid hY
  have EZ := Lib.hid hZ
  have HX := Lib.hid ha
  have HY := Lib.hid hb
  have HZ := Lib.hid hc
  clear hX hR hY hZ ha hb hc
  cases hg : good a b c
  · have hA : ansPH s.data.toList = .tuple #[chn 0 0 0, .bool false] := by unfold ansPH readH; rw [hp]; simp [hg]
    have HT : Hid (ansChT a b c = .tuple #[.string ⟨#[]⟩, .bool false]) := Lib.hid (by unfold ansChT; rw [hg]; rfl)
    rw [hA]
    clear hA hp hg
    go_enter Tryd.func32, Tryd.ntmps32
    go_wp2_with fail
    refine (cut_any s 45 _ (by omega)).mono ?_
    rintro e w0 ⟨rfl, n1', rfl⟩
    rw [EX.out, ER.out]
    have bx1 := Lib.hid (bx0.out.drewN n1')
    have bl1 := bel_drewN bl0 n1'
    go_wp2_with fail
    refine (cut_any R 47 _ zR.out).mono ?_
    rintro e w1 ⟨rfl, n2', rfl⟩
    rw [EY.out, EZ.out]
    go_wp2_with fail
    have bx2 := Lib.hid (bx0.out.drewN (n1' + n2'))
    have bl2 := bel_drewN bl0 (n1' + n2')
    have s1 := Lib.hid (hS.keep bl2)
    refine (numberIn_any _ _ s1.out zX.out).mono ?_
    rintro e w2 ⟨rfl, hb2⟩
    have bx3 := Lib.hid (bx2.out.keep hb2)
    have bl3 := bel_trans bl2 hb2
    have s2 := Lib.hid (hS.keep bl3)
    go_wp2_with fail
    refine (numberIn_any _ _ s2.out zY.out).mono ?_
    rintro e w3 ⟨rfl, hb3⟩
    have bx3' := Lib.hid (bx3.out.keep hb3)
    have bl3' := bel_trans bl3 hb3
    have s3 := Lib.hid (hS.keep bl3')
    go_wp2_with fail
    refine (numberIn_any _ _ s3.out zZ.out).mono ?_
    rintro e w4 ⟨rfl, hb4⟩
    rw [HX.out, HY.out, HZ.out]
    have bx4 := Lib.hid (bx3'.out.keep hb4)
    have bl4 := bel_trans bl3' hb4
    have bc4 := Lib.hid (Box3W.new w4 (.int .i64 a) (.int .i64 b) (.int .i64 c) 28)
    have bx4' := Lib.hid (bx4.out.keep (bel_alloc (Below.refl _ w4) (.cells #[.int .i64 a, .int .i64 b, .int .i64 c] 28)))
    have bl4' := bel_alloc bl4 (.cells #[.int .i64 a, .int .i64 b, .int .i64 c] 28)
    obtain ⟨⟨b0, b1, b2, b3⟩, b4, b5, b6⟩ := bc4.out
    go_wp2_with fail
    refine (implChT_any a b c _).mono ?_
    rintro e w5 ⟨rfl, hb5⟩
    rw [HT.out]
    have bx5 := Lib.hid (bx4'.out.keep hb5)
    have bc5 := Lib.hid (bc4.out.keep hb5)
    have bl5 := bel_trans bl4' hb5
    clear b0 b1 b2 b3 b4 b5 b6
    obtain ⟨⟨m0, m1, m2, m3⟩, m4, m5, m6⟩ := bx5.out
    obtain ⟨⟨k0, k1, k2, k3⟩, k4, k5, k6⟩ := bc5.out
    go_wp2_with fail
    have hset := Lib.hid (bx5.out.set (.int .i64 (0)) (.int .i64 (0)) (.int .i64 (0)))
    obtain ⟨⟨n0, n1, n2, n3⟩, n4, n5, n6⟩ := hset.out
    refine bodyPost_ret (v := .tuple #[chn (0) (0) (0), .bool false]) (by simp [results, Tryd.results32, go_sem, n0, n1, n2]) rfl ⟨rfl, ?_⟩
    exact bel_set3 bl5 (Nat.le_refl _) _ _ _
  · obtain ⟨x, y, z, rfl, rfl, rfl, la, lb, lc⟩ := chain_nat hg
    have HT : Hid (ansChT (x : Int) (y : Int) (z : Int) = .tuple #[.string (chainT x y z), .bool true]) := Lib.hid (by unfold ansChT; rw [hg]; rfl)
    by_cases he : chainL x y z = s.data.toList
    · have hA : ansPH s.data.toList = .tuple #[chn x y z, .bool true] := by unfold ansPH readH; rw [hp]; simp [hg, he]
      have hq : chainT x y z = s := by rw [chainL_eq x y z la lb lc, he, baL_list]
      have hd : ((chainT x y z).toList == s.toList) = true := by rw [hq]; simp
      have hd2 : ((chainT x y z).toList != s.toList) = false := by rw [hq]; simp
      rw [hA]
      clear hA hp hg he hq
      generalize chainT x y z = T at *
      generalize (x : Int) = a at *
      generalize (y : Int) = b at *
      generalize (z : Int) = c at *
      go_enter Tryd.func32, Tryd.ntmps32
      go_wp2_with fail
      refine (cut_any s 45 _ (by omega)).mono ?_
      rintro e w0 ⟨rfl, n1', rfl⟩
      rw [EX.out, ER.out]
      have bx1 := Lib.hid (bx0.out.drewN n1')
      have bl1 := bel_drewN bl0 n1'
      go_wp2_with fail
      refine (cut_any R 47 _ zR.out).mono ?_
      rintro e w1 ⟨rfl, n2', rfl⟩
      rw [EY.out, EZ.out]
      go_wp2_with fail
      have bx2 := Lib.hid (bx0.out.drewN (n1' + n2'))
      have bl2 := bel_drewN bl0 (n1' + n2')
      have s1 := Lib.hid (hS.keep bl2)
      refine (numberIn_any _ _ s1.out zX.out).mono ?_
      rintro e w2 ⟨rfl, hb2⟩
      have bx3 := Lib.hid (bx2.out.keep hb2)
      have bl3 := bel_trans bl2 hb2
      have s2 := Lib.hid (hS.keep bl3)
      go_wp2_with fail
      refine (numberIn_any _ _ s2.out zY.out).mono ?_
      rintro e w3 ⟨rfl, hb3⟩
      have bx3' := Lib.hid (bx3.out.keep hb3)
      have bl3' := bel_trans bl3 hb3
      have s3 := Lib.hid (hS.keep bl3')
      go_wp2_with fail
      refine (numberIn_any _ _ s3.out zZ.out).mono ?_
      rintro e w4 ⟨rfl, hb4⟩
      rw [HX.out, HY.out, HZ.out]
      have bx4 := Lib.hid (bx3'.out.keep hb4)
      have bl4 := bel_trans bl3' hb4
      have bc4 := Lib.hid (Box3W.new w4 (.int .i64 a) (.int .i64 b) (.int .i64 c) 28)
      have bx4' := Lib.hid (bx4.out.keep (bel_alloc (Below.refl _ w4) (.cells #[.int .i64 a, .int .i64 b, .int .i64 c] 28)))
      have bl4' := bel_alloc bl4 (.cells #[.int .i64 a, .int .i64 b, .int .i64 c] 28)
      obtain ⟨⟨b0, b1, b2, b3⟩, b4, b5, b6⟩ := bc4.out
      go_wp2_with fail
      refine (implChT_any a b c _).mono ?_
      rintro e w5 ⟨rfl, hb5⟩
      rw [HT.out]
      have bx5 := Lib.hid (bx4'.out.keep hb5)
      have bc5 := Lib.hid (bc4.out.keep hb5)
      have bl5 := bel_trans bl4' hb5
      clear b0 b1 b2 b3 b4 b5 b6
      obtain ⟨⟨m0, m1, m2, m3⟩, m4, m5, m6⟩ := bx5.out
      obtain ⟨⟨k0, k1, k2, k3⟩, k4, k5, k6⟩ := bc5.out
      go_wp2_with fail
      have hset := Lib.hid (bx5.out.set (.int .i64 (a)) (.int .i64 (b)) (.int .i64 (c)))
      obtain ⟨⟨n0, n1, n2, n3⟩, n4, n5, n6⟩ := hset.out
      refine bodyPost_ret (v := .tuple #[chn (a) (b) (c), .bool true]) (by simp [results, Tryd.results32, go_sem, n0, n1, n2]) rfl ⟨rfl, ?_⟩
      exact bel_set3 bl5 (Nat.le_refl _) _ _ _
    · have hA : ansPH s.data.toList = .tuple #[chn 0 0 0, .bool false] := by unfold ansPH readH; rw [hp]; simp [hg, he]
      have hq : chainT x y z ≠ s := fun e => he (by rw [← e, chainL_eq x y z la lb lc, baL_toList])
      have hd : ((chainT x y z).toList == s.toList) = false := by
        simp only [beq_eq_false_iff_ne, ne_eq]
        intro e
        apply hq
        rw [ByteArray.toList_eq, ByteArray.toList_eq] at e
        exact ba_eq.2 e
      have hd2 : ((chainT x y z).toList != s.toList) = true := by simp only [bne, hd]; rfl
      rw [hA]
      clear hA hp hg he hq
      generalize chainT x y z = T at *
      generalize (x : Int) = a at *
      generalize (y : Int) = b at *
      generalize (z : Int) = c at *
      go_enter Tryd.func32, Tryd.ntmps32
      go_wp2_with fail
      refine (cut_any s 45 _ (by omega)).mono ?_
      rintro e w0 ⟨rfl, n1', rfl⟩
      rw [EX.out, ER.out]
      have bx1 := Lib.hid (bx0.out.drewN n1')
      have bl1 := bel_drewN bl0 n1'
      go_wp2_with fail
      refine (cut_any R 47 _ zR.out).mono ?_
      rintro e w1 ⟨rfl, n2', rfl⟩
      rw [EY.out, EZ.out]
      go_wp2_with fail
      have bx2 := Lib.hid (bx0.out.drewN (n1' + n2'))
      have bl2 := bel_drewN bl0 (n1' + n2')
      have s1 := Lib.hid (hS.keep bl2)
      refine (numberIn_any _ _ s1.out zX.out).mono ?_
      rintro e w2 ⟨rfl, hb2⟩
      have bx3 := Lib.hid (bx2.out.keep hb2)
      have bl3 := bel_trans bl2 hb2
      have s2 := Lib.hid (hS.keep bl3)
      go_wp2_with fail
      refine (numberIn_any _ _ s2.out zY.out).mono ?_
      rintro e w3 ⟨rfl, hb3⟩
      have bx3' := Lib.hid (bx3.out.keep hb3)
      have bl3' := bel_trans bl3 hb3
      have s3 := Lib.hid (hS.keep bl3')
      go_wp2_with fail
      refine (numberIn_any _ _ s3.out zZ.out).mono ?_
      rintro e w4 ⟨rfl, hb4⟩
      rw [HX.out, HY.out, HZ.out]
      have bx4 := Lib.hid (bx3'.out.keep hb4)
      have bl4 := bel_trans bl3' hb4
      have bc4 := Lib.hid (Box3W.new w4 (.int .i64 a) (.int .i64 b) (.int .i64 c) 28)
      have bx4' := Lib.hid (bx4.out.keep (bel_alloc (Below.refl _ w4) (.cells #[.int .i64 a, .int .i64 b, .int .i64 c] 28)))
      have bl4' := bel_alloc bl4 (.cells #[.int .i64 a, .int .i64 b, .int .i64 c] 28)
      obtain ⟨⟨b0, b1, b2, b3⟩, b4, b5, b6⟩ := bc4.out
      go_wp2_with fail
      refine (implChT_any a b c _).mono ?_
      rintro e w5 ⟨rfl, hb5⟩
      rw [HT.out]
      have bx5 := Lib.hid (bx4'.out.keep hb5)
      have bc5 := Lib.hid (bc4.out.keep hb5)
      have bl5 := bel_trans bl4' hb5
      clear b0 b1 b2 b3 b4 b5 b6
      obtain ⟨⟨m0, m1, m2, m3⟩, m4, m5, m6⟩ := bx5.out
      obtain ⟨⟨k0, k1, k2, k3⟩, k4, k5, k6⟩ := bc5.out
      go_wp2_with fail
      have hset := Lib.hid (bx5.out.set (.int .i64 (0)) (.int .i64 (0)) (.int .i64 (0)))
      obtain ⟨⟨n0, n1, n2, n3⟩, n4, n5, n6⟩ := hset.out
      refine bodyPost_ret (v := .tuple #[chn (0) (0) (0), .bool false]) (by simp [results, Tryd.results32, go_sem, n0, n1, n2]) rfl ⟨rfl, ?_⟩
      exact bel_set3 bl5 (Nat.le_refl _) _ _ _

theorem eqChain_same (x y z : Int) (w : World) :
    Calls Tryd.prog 34 #[chn x y z, chn x y z] w fun e w' => e = .returned (.bool true) ∧ Below w.heap.size w w' := by
  go_enter Tryd.func34, Tryd.ntmps34
  go_wp2
  go_ret
  exact ⟨rfl, bel_alloc (bel_alloc (Below.refl _ _) _) _⟩

end Go.Proofs.YtjfcpbedmdnjcabDoor
