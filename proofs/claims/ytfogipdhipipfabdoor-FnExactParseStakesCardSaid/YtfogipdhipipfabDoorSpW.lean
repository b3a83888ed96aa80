/- ParseStakes: the contract of the model. -/
import Derived.Test.YtfogipdhipipfabDoorSpP
import Derived.Test.YtfogipdhipipfabDoorRdC
import Derived.Test.YtfogipdhipipfabDoorBoxW
import Derived.Deep.RegionHeld3
namespace Go.Proofs.YtfogipdhipipfabDoor
set_option linter.unusedSimpArgs false
open Go.ChangeShapes Go.WideShapes Go.ChangeAt Go.RowKit
set_option linter.unusedVariables false

theorem bel_set {w W : World} {k : Nat} (h : Below w.heap.size w W) (hk : w.heap.size ≤ k) (a b : Value) : Below w.heap.size w ((W.setCell ⟨k, 0, none⟩ a).setCell ⟨k, 1, none⟩ b) :=
  (h.setCell (p := ⟨k, 0, none⟩) hk a).setCell (p := ⟨k, 1, none⟩) hk b
theorem mdF_end {l : List UInt8} {r i : Nat} (h : ¬ (i + 1 < l.length ∧ i < 3)) : mdF l (r + 1) i = none := by rw [mdF, if_neg h]
theorem mdF_hit {l : List UInt8} {r i : Nat} (h : i + 1 < l.length ∧ i < 3) (h2 : (ofS l i && okS l i) = true) : mdF l (r + 1) i = some (parS l i) := by rw [mdF, if_pos h, if_pos h2]
theorem mdF_next {l : List UInt8} {r i : Nat} (h : i + 1 < l.length ∧ i < 3) (h2 : (ofS l i && okS l i) = false) : mdF l (r + 1) i = mdF l r (i + 1) := by rw [mdF, if_pos h, h2]; rfl
theorem mdF_none (l : List UInt8) (r : Nat) {i : Nat} (h : ¬ (i + 1 < l.length ∧ i < 3)) : mdF l r i = none := by
  cases r with
  | zero => rfl
  | succ r => exact mdF_end h

set_option maxRecDepth 100000 in
set_option maxHeartbeats 6400000 in
theorem specPSt_any (s : ByteArray) (w : World) (hs : s.size ≤ 1048576) :
    Calls Tryd.prog 20 #[.string s] w fun e w' => e = .returned (ansSt s.data.toList) ∧ Below w.heap.size w w' := by
  have bx0 := Lib.hid (BoxW.new w (.int .i64 0) (.int .i64 0) 27)
  have bl0 := Lib.hid (bel_alloc (Below.refl _ w) (.cells #[.int .i64 0, .int .i64 0] 27))
  have hR0 : Hid (ansSt s.data.toList = ansO (mdF s.data.toList (4 - 0) 0)) := Lib.hid (by unfold ansSt; rw [← mdlS_eq]; rfl)
  obtain ⟨R, hRR⟩ : ∃ R, ansSt s.data.toList = R := ⟨_, rfl⟩
  rw [hRR] at hR0 ⊢
  clear hRR
  go_enter Tryd.func20, Tryd.ntmps20
  go_wp2_with fail
  go_loopw [4] (fun i wr => ∃ k : Nat, k ≤ 3 ∧ i = .int .i64 k ∧ Hid (R = ansO (mdF s.data.toList (4 - k) k)) ∧ Hid (BoxW wr w.heap.size (.int .i64 0) (.int .i64 0)) ∧ Hid (Below w.heap.size w wr)) (fun i _ => 4 - (intOf i).toNat)
  case atStart => exact ⟨0, by omega, rfl, hR0, bx0, bl0⟩
  case round =>
    obtain ⟨k, hk, rfl, hR, hB, hb⟩ := hrel
    have hl : s.data.toList.length = s.size := len_list s
    have hwk : IntKind.i64.wrap ((k : Int) + 1) = (k : Int) + 1 := IntWalk.i64_in _ (by omega)
    have hwk2 : IntKind.i64.wrap ((k : Int) + 2) = (k : Int) + 2 := IntWalk.i64_in _ (by omega)
    by_cases hc1 : k + 1 < s.size
    · have hi1 : (k : Int) + 1 < (s.size : Int) := by omega
      by_cases hc2 : k < 3
      · have hi2 : (k : Int) < 3 := by omega
        have hcc : k + 1 < s.data.toList.length ∧ k < 3 := ⟨by omega, hc2⟩
        have hn : ((k : Int) + 2).toNat = k + 2 := by omega
        have hn0 : 0 ≤ (k : Int) + 2 := by omega
        have hn1 : (k : Int) + 2 ≤ (s.size : Int) := by omega
        have hn2 : k + 2 ≤ s.size := by omega
        have hn3 : (k : Int) ≤ (k : Int) + 2 := by omega
        have hn4 : k ≤ k + 2 := by omega
        have hn5 : (k : Int) ≤ (s.size : Int) := by omega
        have hn6 : k ≤ s.size := by omega
        have hF : Hid (4 - k = (4 - (k + 1)) + 1) := Lib.hid (by omega)
        have HC := Lib.hid hcc
        clear hcc hl
        cases ho : ofS s.data.toList k
        · have hq : Hid (R = ansO (mdF s.data.toList (4 - (k + 1)) (k + 1))) := Lib.hid (by rw [hR.out, hF.out, mdF_next HC.out (by rw [ho]; rfl)])
          have hd : ((s.extract k (k + 2)).toList == [111, 102]) = false := by
            unfold ofS at ho
            rw [decide_eq_false_iff_not] at ho
            simp only [beq_eq_false_iff_ne, ne_eq]
            intro e
            apply ho
            rw [ByteArray.toList_eq, ext_baL, baL_toList] at e
            exact e
          clear ho hR hF
          go_wp2_with fail
          exact ⟨⟨k + 1, by omega, by go_num, hq, hB, hb⟩, by simp [intOf]; omega⟩
        · have hd : ((s.extract k (k + 2)).toList == [111, 102]) = true := by
            have ho2 := ho
            unfold ofS at ho2
            rw [decide_eq_true_eq] at ho2
            simp only [beq_iff_eq]
            rw [ByteArray.toList_eq, ext_baL, baL_toList]
            exact ho2
          have zx : Hid ((s.extract 0 k).size ≤ maxLen) := Lib.hid (by unfold maxLen; rw [ByteArray.size_extract]; omega)
          have zy : Hid ((s.extract (k + 2) s.size).size ≤ maxLen) := Lib.hid (by unfold maxLen; rw [ByteArray.size_extract]; omega)
          obtain ⟨p, ep⟩ : ∃ p, (parS s.data.toList k).1 = p := ⟨_, rfl⟩
          obtain ⟨g, eg⟩ : ∃ g, (parS s.data.toList k).2 = g := ⟨_, rfl⟩
          have ex : Hid (rdN (s.extract 0 k).data.toList = p) := Lib.hid (by rw [ext_baL, baL_toList, List.drop_zero]; exact ep)
          have ey : Hid (rdN (s.extract (k + 2) s.size).data.toList = g) := Lib.hid (by rw [ext_baL, baL_toList, List.take_of_length_le (by simp)]; exact eg)
          cases hg : skG p g
          · have hq : Hid (R = ansO (mdF s.data.toList (4 - (k + 1)) (k + 1))) := Lib.hid (by rw [hR.out, hF.out, mdF_next HC.out (by unfold okS; rw [ep, eg, hg]; simp)])
            clear hR hF ho ep eg
            go_wp2_with fail
            obtain ⟨⟨b0, b1, b2⟩, b3, b4⟩ := hB.out
            go_region_held3 (fun w' => w'.cell? ⟨w.heap.size, 0, none⟩ = some (.int .i64 0) ∧ w'.cell? ⟨w.heap.size, 1, none⟩ = some (.int .i64 0) ∧ w.heap.size < w'.heap.size ∧ Below w.heap.size w w')
              (first | exact held2_start hB.out.1 hb.out | exact held2_start (hB.out.1.keep (bel_alloc (Below.refl _ _) _)) (bel_alloc hb.out _) | exact held2_drewN (by assumption) _ | exact held2_keep (by assumption) (bel_alloc (Below.refl _ _) _) | exact held2_keep (held2_drewN (by assumption) _) (bel_alloc (Below.refl _ _) _) | assumption | go_keep)
              (first | (go_at_call_of 46 (Value.string (s.extract 0 k)); refine (l1Read_any _ _ zx.out).mono ?_; rw [ex.out]; rintro e w2 ⟨rfl, rfl⟩) | (go_at_call 46; refine (l1Read_any _ _ zy.out).mono ?_; rw [ey.out]; rintro e w3 ⟨rfl, rfl⟩))
            all_goals
              have bxc := Lib.hid ((BoxW.new wr (.int .i64 p) (.int .i64 g) 27).drewN 1)
              have by2 := Lib.hid ((hB.out.keep (bel_alloc (Below.refl _ wr) (.cells #[.int .i64 p, .int .i64 g] 27))).drewN 1)
              have bl2 := bel_drewN (bel_alloc hb.out (.cells #[.int .i64 p, .int .i64 g] 27)) 1
              change Hid (BoxW (wr.alloc (.cells #[.int .i64 p, .int .i64 g] 27)).drew _ _ _) at bxc
              change Hid (BoxW (wr.alloc (.cells #[.int .i64 p, .int .i64 g] 27)).drew _ _ _) at by2
              change Below w.heap.size w (wr.alloc (.cells #[.int .i64 p, .int .i64 g] 27)).drew at bl2
              generalize (wr.alloc (.cells #[.int .i64 p, .int .i64 g] 27)).drew = w2 at *
              clear b0 b1 b2 b3 b4
              obtain ⟨⟨k0, k1, k2⟩, k3, k4⟩ := bxc.out
              go_wp2_with fail
              refine (skGood_any _ _ _).mono ?_
              rintro e w3 ⟨rfl, hb3⟩
              rw [hg]
              have bxc3 := Lib.hid (bxc.out.keep hb3)
              have by3 := Lib.hid (by2.out.keep hb3)
              have bl3 := Lib.hid (bel_trans bl2 hb3)
              clear k0 k1 k2 k3 k4 hb3 bl2
              obtain ⟨⟨k0, k1, k2⟩, k3, k4⟩ := bxc3.out
              go_wp2_with fail
              exact ⟨⟨k + 1, by omega, by go_num, hq, by3, bl3⟩, by simp [intOf]; omega⟩
          · obtain ⟨a, b, rfl, rfl, la, lb⟩ := sk_nat hg
            by_cases he : stL a b = s.data.toList
            · have hR : Hid (R = .tuple #[sk a b, .bool true]) := Lib.hid (by rw [hR.out, hF.out, mdF_hit HC.out (by rw [ho]; unfold okS; rw [ep, eg, hg, Int.toNat_natCast, Int.toNat_natCast, he]; simp)]; show Value.tuple #[sk _ _, .bool true] = _; rw [ep, eg])
              have hq : skT a b = s := by rw [stL_eq a b la lb, he, baL_list]
              have HT : Hid (skT a b = s) := Lib.hid hq
              have hsd : (s.toList == s.toList) = true := by simp
              clear hF ho ep eg he hq
              go_wp2_with fail
              obtain ⟨⟨b0, b1, b2⟩, b3, b4⟩ := hB.out
              go_region_held3 (fun w' => w'.cell? ⟨w.heap.size, 0, none⟩ = some (.int .i64 0) ∧ w'.cell? ⟨w.heap.size, 1, none⟩ = some (.int .i64 0) ∧ w.heap.size < w'.heap.size ∧ Below w.heap.size w w')
                (first | exact held2_start hB.out.1 hb.out | exact held2_start (hB.out.1.keep (bel_alloc (Below.refl _ _) _)) (bel_alloc hb.out _) | exact held2_drewN (by assumption) _ | exact held2_keep (by assumption) (bel_alloc (Below.refl _ _) _) | exact held2_keep (held2_drewN (by assumption) _) (bel_alloc (Below.refl _ _) _) | assumption | go_keep)
                (first | (go_at_call_of 46 (Value.string (s.extract 0 k)); refine (l1Read_any _ _ zx.out).mono ?_; rw [ex.out]; rintro e w2 ⟨rfl, rfl⟩) | (go_at_call 46; refine (l1Read_any _ _ zy.out).mono ?_; rw [ey.out]; rintro e w3 ⟨rfl, rfl⟩))
              all_goals
                have bxc := Lib.hid ((BoxW.new wr (.int .i64 a) (.int .i64 b) 27).drewN 1)
                have by2 := Lib.hid ((hB.out.keep (bel_alloc (Below.refl _ wr) (.cells #[.int .i64 a, .int .i64 b] 27))).drewN 1)
                have bl2 := bel_drewN (bel_alloc hb.out (.cells #[.int .i64 a, .int .i64 b] 27)) 1
                change Hid (BoxW (wr.alloc (.cells #[.int .i64 a, .int .i64 b] 27)).drew _ _ _) at bxc
                change Hid (BoxW (wr.alloc (.cells #[.int .i64 a, .int .i64 b] 27)).drew _ _ _) at by2
                change Below w.heap.size w (wr.alloc (.cells #[.int .i64 a, .int .i64 b] 27)).drew at bl2
                generalize (wr.alloc (.cells #[.int .i64 a, .int .i64 b] 27)).drew = w2 at *
                clear b0 b1 b2 b3 b4
                obtain ⟨⟨k0, k1, k2⟩, k3, k4⟩ := bxc.out
                go_wp2_with fail
                refine (skGood_any _ _ _).mono ?_
                rintro e w3 ⟨rfl, hb3⟩
                rw [hg]
                have bxc3 := Lib.hid (bxc.out.keep hb3)
                have by3 := Lib.hid (by2.out.keep hb3)
                have bl3 := Lib.hid (bel_trans bl2 hb3)
                clear k0 k1 k2 k3 k4 hb3 bl2
                obtain ⟨⟨k0, k1, k2⟩, k3, k4⟩ := bxc3.out
                go_wp2_with fail
                refine (skText_any a b _ la lb).mono ?_
                rintro e w4 ⟨rfl, hb4⟩
                rw [HT.out]
                have bxc4 := Lib.hid (bxc3.out.keep hb4)
                have by4 := Lib.hid (by3.out.keep hb4)
                have bl4 := bel_trans bl3.out hb4
                clear k0 k1 k2 k3 k4
                obtain ⟨⟨l0, l1, l2⟩, l3, l4⟩ := bxc4.out
                obtain ⟨⟨m0, m1, m2⟩, m3, m4⟩ := by4.out
                go_wp2_with fail
                have hset := Lib.hid (by4.out.set (.int .i64 (a)) (.int .i64 (b)))
                obtain ⟨⟨n0, n1, n2⟩, n3, n4⟩ := hset.out
                refine bodyPost_ret (v := .tuple #[sk (a) (b), .bool true]) (by simp [results, Tryd.results20, go_sem, n0, n1]) rfl ⟨by rw [hR.out], ?_⟩
                exact bel_set bl4 (Nat.le_refl _) _ _
            · have hq : Hid (R = ansO (mdF s.data.toList (4 - (k + 1)) (k + 1))) := Lib.hid (by rw [hR.out, hF.out, mdF_next HC.out (by unfold okS; rw [ep, eg, Int.toNat_natCast, Int.toNat_natCast]; simp [he])])
              have hqn : skT a b ≠ s := fun e => he (by rw [← e, stL_eq a b la lb, baL_toList])
              have hdt : ((skT a b).toList == s.toList) = false := by
                simp only [beq_eq_false_iff_ne, ne_eq]
                intro e
                apply hqn
                rw [ByteArray.toList_eq, ByteArray.toList_eq] at e
                exact ba_eq.2 e
              clear hR hF ho ep eg he hqn
              obtain ⟨T, hT⟩ : ∃ T, skT a b = T := ⟨_, rfl⟩
              rw [hT] at hdt
              have HT := Lib.hid hT
              clear hT
              go_wp2_with fail
              obtain ⟨⟨b0, b1, b2⟩, b3, b4⟩ := hB.out
              go_region_held3 (fun w' => w'.cell? ⟨w.heap.size, 0, none⟩ = some (.int .i64 0) ∧ w'.cell? ⟨w.heap.size, 1, none⟩ = some (.int .i64 0) ∧ w.heap.size < w'.heap.size ∧ Below w.heap.size w w')
                (first | exact held2_start hB.out.1 hb.out | exact held2_start (hB.out.1.keep (bel_alloc (Below.refl _ _) _)) (bel_alloc hb.out _) | exact held2_drewN (by assumption) _ | exact held2_keep (by assumption) (bel_alloc (Below.refl _ _) _) | exact held2_keep (held2_drewN (by assumption) _) (bel_alloc (Below.refl _ _) _) | assumption | go_keep)
                (first | (go_at_call_of 46 (Value.string (s.extract 0 k)); refine (l1Read_any _ _ zx.out).mono ?_; rw [ex.out]; rintro e w2 ⟨rfl, rfl⟩) | (go_at_call 46; refine (l1Read_any _ _ zy.out).mono ?_; rw [ey.out]; rintro e w3 ⟨rfl, rfl⟩))
              all_goals
                have bxc := Lib.hid ((BoxW.new wr (.int .i64 a) (.int .i64 b) 27).drewN 1)
                have by2 := Lib.hid ((hB.out.keep (bel_alloc (Below.refl _ wr) (.cells #[.int .i64 a, .int .i64 b] 27))).drewN 1)
                have bl2 := bel_drewN (bel_alloc hb.out (.cells #[.int .i64 a, .int .i64 b] 27)) 1
                change Hid (BoxW (wr.alloc (.cells #[.int .i64 a, .int .i64 b] 27)).drew _ _ _) at bxc
                change Hid (BoxW (wr.alloc (.cells #[.int .i64 a, .int .i64 b] 27)).drew _ _ _) at by2
                change Below w.heap.size w (wr.alloc (.cells #[.int .i64 a, .int .i64 b] 27)).drew at bl2
                generalize (wr.alloc (.cells #[.int .i64 a, .int .i64 b] 27)).drew = w2 at *
                clear b0 b1 b2 b3 b4
                obtain ⟨⟨k0, k1, k2⟩, k3, k4⟩ := bxc.out
                go_wp2_with fail
                refine (skGood_any _ _ _).mono ?_
                rintro e w3 ⟨rfl, hb3⟩
                rw [hg]
                have bxc3 := Lib.hid (bxc.out.keep hb3)
                have by3 := Lib.hid (by2.out.keep hb3)
                have bl3 := Lib.hid (bel_trans bl2 hb3)
                clear k0 k1 k2 k3 k4 hb3 bl2
                obtain ⟨⟨k0, k1, k2⟩, k3, k4⟩ := bxc3.out
                go_wp2_with fail
                refine (skText_any a b _ la lb).mono ?_
                rintro e w4 ⟨rfl, hb4⟩
                rw [HT.out]
                have by4 := Lib.hid (by3.out.keep hb4)
                have bl4 := Lib.hid (bel_trans bl3.out hb4)
                clear k0 k1 k2 k3 k4 hb4
                go_wp2_with fail
                exact ⟨⟨k + 1, by omega, by go_num, hq, by4, bl4⟩, by simp [intOf]; omega⟩
      · have hi2 : ¬ (k : Int) < 3 := by omega
        have hR : Hid (R = .tuple #[sk 0 0, .bool false]) := Lib.hid (by rw [hR.out, mdF_none _ _ (by omega)]; rfl)
        obtain ⟨⟨m0, m1, m2⟩, m3, m4⟩ := hB.out
        go_wp2_with fail
        have hset := Lib.hid (hB.out.set (.int .i64 (0)) (.int .i64 (0)))
        obtain ⟨⟨n0, n1, n2⟩, n3, n4⟩ := hset.out
        refine bodyPost_ret (v := .tuple #[sk (0) (0), .bool false]) (by simp [results, Tryd.results20, go_sem, n0, n1]) rfl ⟨by rw [hR.out], ?_⟩
        exact bel_set hb.out (Nat.le_refl _) _ _
    · have hi1 : ¬ (k : Int) + 1 < (s.size : Int) := by omega
      have hR : Hid (R = .tuple #[sk 0 0, .bool false]) := Lib.hid (by rw [hR.out, mdF_none _ _ (by omega)]; rfl)
      obtain ⟨⟨m0, m1, m2⟩, m3, m4⟩ := hB.out
      go_wp2_with fail
      have hset := Lib.hid (hB.out.set (.int .i64 (0)) (.int .i64 (0)))
      obtain ⟨⟨n0, n1, n2⟩, n3, n4⟩ := hset.out
      refine bodyPost_ret (v := .tuple #[sk (0) (0), .bool false]) (by simp [results, Tryd.results20, go_sem, n0, n1]) rfl ⟨by rw [hR.out], ?_⟩
      exact bel_set hb.out (Nat.le_refl _) _ _
end Go.Proofs.YtfogipdhipipfabDoor
