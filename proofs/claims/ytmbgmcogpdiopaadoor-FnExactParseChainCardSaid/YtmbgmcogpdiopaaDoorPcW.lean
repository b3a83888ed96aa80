/- ParseCoin: the contracts of the program and of its model, and the walk. -/
import Derived.Test.YtmbgmcogpdiopaaDoorPcP
import Derived.Test.YtmbgmcogpdiopaaDoorNmI
import Derived.Test.YtmbgmcogpdiopaaDoorBoxW
import Derived.Deep.RegionHeld3
namespace Go.Proofs.YtmbgmcogpdiopaaDoor
open Go.ChangeShapes Go.WideShapes Go.ChangeAt Go.RowKit
set_option linter.unusedVariables false

theorem SRow.two {w : World} {b : Nat} {v : Value} {x y : ByteArray} (h : SRow w b v [x, y]) : ∃ g cap, v = .slice (some ⟨g, 0, none⟩) 2 cap ∧ w.cell? ⟨g, 0, none⟩ = some (.string x) ∧ w.cell? ⟨g, 1, none⟩ = some (.string y) ∧ g < w.heap.size ∧ b ≤ g ∧ 2 ≤ cap ∧ cap ≤ maxLen := by
  rcases h.form with ⟨hx, _⟩ | ⟨_, g, cap, rfl, hb, hg, h1, h2⟩
  · cases hx
  · refine ⟨g, cap, rfl, ?_, ?_, hg, hb, h1, h2⟩
    · exact h.at_ 0 (by simp)
    · exact h.at_ 1 (by simp)

/-- Written into a box of the call's own: nothing of the caller's has turned. -/
theorem bel_set {w W : World} {k : Nat} (h : Below w.heap.size w W) (hk : w.heap.size ≤ k) (a b : Value) : Below w.heap.size w ((W.setCell ⟨k, 0, none⟩ a).setCell ⟨k, 1, none⟩ b) :=
  (h.setCell (p := ⟨k, 0, none⟩) hk a).setCell (p := ⟨k, 1, none⟩) hk b
theorem two_keep {w W W' : World} {g : Nat} {x y u v : Value} (h : W.cell? ⟨g, 0, none⟩ = some x ∧ W.cell? ⟨g, 1, none⟩ = some y ∧ g < W.heap.size ∧ W.cell? ⟨w.heap.size, 0, none⟩ = some u ∧ W.cell? ⟨w.heap.size, 1, none⟩ = some v ∧ w.heap.size < W.heap.size ∧ Below w.heap.size w W) (hb : Below W.heap.size W W') : W'.cell? ⟨g, 0, none⟩ = some x ∧ W'.cell? ⟨g, 1, none⟩ = some y ∧ g < W'.heap.size ∧ W'.cell? ⟨w.heap.size, 0, none⟩ = some u ∧ W'.cell? ⟨w.heap.size, 1, none⟩ = some v ∧ w.heap.size < W'.heap.size ∧ Below w.heap.size w W' :=
  ⟨(hb.cell (p := ⟨g, 0, none⟩) h.2.2.1).trans h.1, (hb.cell (p := ⟨g, 1, none⟩) h.2.2.1).trans h.2.1, Nat.lt_of_lt_of_le h.2.2.1 hb.size, (hb.cell (p := ⟨w.heap.size, 0, none⟩) h.2.2.2.2.2.1).trans h.2.2.2.1, (hb.cell (p := ⟨w.heap.size, 1, none⟩) h.2.2.2.2.2.1).trans h.2.2.2.2.1, Nat.lt_of_lt_of_le h.2.2.2.2.2.1 hb.size, bel_trans h.2.2.2.2.2.2 hb⟩
theorem two_alloc {w W : World} {g : Nat} {x y u v : Value} (h : W.cell? ⟨g, 0, none⟩ = some x ∧ W.cell? ⟨g, 1, none⟩ = some y ∧ g < W.heap.size ∧ W.cell? ⟨w.heap.size, 0, none⟩ = some u ∧ W.cell? ⟨w.heap.size, 1, none⟩ = some v ∧ w.heap.size < W.heap.size ∧ Below w.heap.size w W) (o : Obj) : let V := (W.alloc o).drew
    V.cell? ⟨g, 0, none⟩ = some x ∧ V.cell? ⟨g, 1, none⟩ = some y ∧ g < V.heap.size ∧ V.cell? ⟨w.heap.size, 0, none⟩ = some u ∧ V.cell? ⟨w.heap.size, 1, none⟩ = some v ∧ w.heap.size < V.heap.size ∧ Below w.heap.size w V := two_keep (W' := (W.alloc o).drew) h (bel_alloc (Below.refl _ W) o).drew
theorem two_alloc0 {w W : World} {g : Nat} {x y u v : Value} (h : W.cell? ⟨g, 0, none⟩ = some x ∧ W.cell? ⟨g, 1, none⟩ = some y ∧ g < W.heap.size ∧ W.cell? ⟨w.heap.size, 0, none⟩ = some u ∧ W.cell? ⟨w.heap.size, 1, none⟩ = some v ∧ w.heap.size < W.heap.size ∧ Below w.heap.size w W) (o : Obj) : let V := W.alloc o
    V.cell? ⟨g, 0, none⟩ = some x ∧ V.cell? ⟨g, 1, none⟩ = some y ∧ g < V.heap.size ∧ V.cell? ⟨w.heap.size, 0, none⟩ = some u ∧ V.cell? ⟨w.heap.size, 1, none⟩ = some v ∧ w.heap.size < V.heap.size ∧ Below w.heap.size w V := two_keep (W' := W.alloc o) h (bel_alloc (Below.refl _ W) o)
set_option maxRecDepth 100000 in
set_option maxHeartbeats 6400000 in
theorem ptParse_any (s : ByteArray) (w : World) (hs : s.size ≤ 1048576) :
    Calls Tryd.prog 17 #[.string s] w fun e w' => e = .returned (ansPC s.data.toList) ∧ Below w.heap.size w w' := by
  have bx0 := Lib.hid (BoxW.new w (.int .i64 0) (.int .i64 0) 23)
  have bl0 := bel_alloc (Below.refl _ w) (.cells #[.int .i64 0, .int .i64 0] 23)
  have hA : ansPC s.data.toList = match mdlC s.data.toList with | some c => .tuple #[cn c.1 c.2, .bool true] | none => .tuple #[cn 0 0, .bool false] := by rw [mdlC_eq]; rfl
  by_cases h5 : s.size ≤ 5
  · by_cases h2 : (prtL s.data.toList 47).length = 2
    · obtain ⟨x, y, hp⟩ : ∃ x y, prtL s.data.toList 47 = [x, y] := by
        match h : prtL s.data.toList 47, h2 with
        | [x, y], _ => exact ⟨x, y, rfl⟩
      have hl := prtL_two hp
      have hsz : x.length ≤ 5 ∧ y.length ≤ 5 := by
        have := congrArg List.length hl
        rw [len_list] at this
        simp at this
        omega
      have zx : (baL x).size ≤ maxLen := by unfold maxLen; show x.toArray.size ≤ _; simp; omega
      have zy : (baL y).size ≤ maxLen := by unfold maxLen; show y.toArray.size ≤ _; simp; omega
      have HA : Hid (ansPC s.data.toList = if coinG (rdN x) (rdN y) then .tuple #[cn (rdN x) (rdN y), .bool true] else .tuple #[cn 0 0, .bool false]) := by
        refine Lib.hid ?_
        rw [hA]
        unfold mdlC
        rw [hp]
        simp only [len_list, h5, decide_true, Bool.true_and]
        cases coinG (rdN x) (rdN y) <;> rfl
      have z5 : ¬ (5 : Int) < (s.size : Int) := by omega
      have z6 : decide ((5 : Int) < (s.size : Int)) = false := by simp; omega
      have HP := Lib.hid hp
      have ex : Hid ((baL x).data.toList = x) := Lib.hid (baL_toList x)
      have ey : Hid ((baL y).data.toList = y) := Lib.hid (baL_toList y)
      clear hA h5 h2 hp hl hsz
      cases hg : coinG (rdN x) (rdN y)
      · rw [show ansPC s.data.toList = .tuple #[cn 0 0, .bool false] from by rw [HA.out, hg]; rfl]
        go_enter Tryd.func17, Tryd.ntmps17
        go_wp2_with fail
        refine (l1Split_any s 47 _ hs).mono ?_
        rintro e w1 ⟨v, rfl, hR, hb1⟩
        rw [HP.out] at hR
        obtain ⟨g, cap, rfl, c0, c1, hgs, hge, hc2, hcm⟩ := SRow.two hR
        have bx1 := Lib.hid (bx0.out.keep hb1)
        have bl1 := bel_trans bl0 hb1
        go_wp2_with fail
        obtain ⟨⟨b0, b1, b2⟩, b3, b4⟩ := bx1.out
        go_region_held3 (fun w' => w'.cell? ⟨g, 0, none⟩ = some (.string (baL x)) ∧ w'.cell? ⟨g, 1, none⟩ = some (.string (baL y)) ∧ g < w'.heap.size ∧ w'.cell? ⟨w.heap.size, 0, none⟩ = some (.int .i64 0) ∧ w'.cell? ⟨w.heap.size, 1, none⟩ = some (.int .i64 0) ∧ w.heap.size < w'.heap.size ∧ Below w.heap.size w w')
          (first | exact ⟨c0, c1, hgs, b0, b1, b2, bl1.drew⟩ | exact two_alloc ⟨c0, c1, hgs, b0, b1, b2, bl1⟩ _ | exact two_alloc0 (by assumption) _ | exact two_alloc0 ⟨c0, c1, hgs, b0, b1, b2, bl1.drew⟩ _ | assumption | go_keep)
          (first | (go_at_call_of 30 (Value.string (baL x)); refine (l1Read_any _ _ zx).mono ?_; rintro e w2 ⟨rfl, rfl⟩) | (go_at_call_of 30 (Value.string (baL y)); refine (l1Read_any _ _ zy).mono ?_; rintro e w3 ⟨rfl, rfl⟩))
        all_goals
          have bxc := Lib.hid ((BoxW.new w1 (.int .i64 (rdN x)) (.int .i64 (rdN y)) 23).drewN 1)
          have by2 := Lib.hid ((bx1.out.keep (bel_alloc (Below.refl _ w1) (.cells #[.int .i64 (rdN x), .int .i64 (rdN y)] 23))).drewN 1)
          have bl2 := bel_drewN (bel_alloc bl1 (.cells #[.int .i64 (rdN x), .int .i64 (rdN y)] 23)) 1
          change Hid (BoxW (w1.alloc (.cells #[.int .i64 (rdN x), .int .i64 (rdN y)] 23)).drew _ _ _) at bxc
          change Hid (BoxW (w1.alloc (.cells #[.int .i64 (rdN x), .int .i64 (rdN y)] 23)).drew _ _ _) at by2
          change Below w.heap.size w (w1.alloc (.cells #[.int .i64 (rdN x), .int .i64 (rdN y)] 23)).drew at bl2
          rw [ex.out, ey.out]
          generalize (w1.alloc (.cells #[.int .i64 (rdN x), .int .i64 (rdN y)] 23)).drew = w2 at *
          clear c0 c1 b0 b1 b3 b4
          obtain ⟨⟨k0, k1, k2⟩, k3, k4⟩ := bxc.out
          go_wp2_with fail
          refine (ptCoin_any _ _ _).mono ?_
          rintro e w3 ⟨rfl, hb3⟩
          rw [hg]
          have bxc3 := Lib.hid (bxc.out.keep hb3)
          have by3 := Lib.hid (by2.out.keep hb3)
          have bl3 := bel_trans bl2 hb3
          clear k0 k1 k2 k3 k4
          obtain ⟨⟨l0, l1, l2⟩, l3, l4⟩ := bxc3.out
          obtain ⟨⟨m0, m1, m2⟩, m3, m4⟩ := by3.out
          go_wp2_with fail
          have hset := Lib.hid (by3.out.set (.int .i64 (0)) (.int .i64 (0)))
          obtain ⟨⟨n0, n1, n2⟩, n3, n4⟩ := hset.out
          refine bodyPost_ret (v := .tuple #[cn (0) (0), .bool false]) (by simp [results, Tryd.results17, go_sem, n0, n1]) rfl ⟨rfl, ?_⟩
          exact bel_set bl3 (Nat.le_refl _) _ _
      · rw [show ansPC s.data.toList = .tuple #[cn (rdN x) (rdN y), .bool true] from by rw [HA.out, hg]; rfl]
        go_enter Tryd.func17, Tryd.ntmps17
        go_wp2_with fail
        refine (l1Split_any s 47 _ hs).mono ?_
        rintro e w1 ⟨v, rfl, hR, hb1⟩
        rw [HP.out] at hR
        obtain ⟨g, cap, rfl, c0, c1, hgs, hge, hc2, hcm⟩ := SRow.two hR
        have bx1 := Lib.hid (bx0.out.keep hb1)
        have bl1 := bel_trans bl0 hb1
        go_wp2_with fail
        obtain ⟨⟨b0, b1, b2⟩, b3, b4⟩ := bx1.out
        go_region_held3 (fun w' => w'.cell? ⟨g, 0, none⟩ = some (.string (baL x)) ∧ w'.cell? ⟨g, 1, none⟩ = some (.string (baL y)) ∧ g < w'.heap.size ∧ w'.cell? ⟨w.heap.size, 0, none⟩ = some (.int .i64 0) ∧ w'.cell? ⟨w.heap.size, 1, none⟩ = some (.int .i64 0) ∧ w.heap.size < w'.heap.size ∧ Below w.heap.size w w')
          (first | exact ⟨c0, c1, hgs, b0, b1, b2, bl1.drew⟩ | exact two_alloc ⟨c0, c1, hgs, b0, b1, b2, bl1⟩ _ | exact two_alloc0 (by assumption) _ | exact two_alloc0 ⟨c0, c1, hgs, b0, b1, b2, bl1.drew⟩ _ | assumption | go_keep)
          (first | (go_at_call_of 30 (Value.string (baL x)); refine (l1Read_any _ _ zx).mono ?_; rintro e w2 ⟨rfl, rfl⟩) | (go_at_call_of 30 (Value.string (baL y)); refine (l1Read_any _ _ zy).mono ?_; rintro e w3 ⟨rfl, rfl⟩))
        all_goals
          have bxc := Lib.hid ((BoxW.new w1 (.int .i64 (rdN x)) (.int .i64 (rdN y)) 23).drewN 1)
          have by2 := Lib.hid ((bx1.out.keep (bel_alloc (Below.refl _ w1) (.cells #[.int .i64 (rdN x), .int .i64 (rdN y)] 23))).drewN 1)
          have bl2 := bel_drewN (bel_alloc bl1 (.cells #[.int .i64 (rdN x), .int .i64 (rdN y)] 23)) 1
          change Hid (BoxW (w1.alloc (.cells #[.int .i64 (rdN x), .int .i64 (rdN y)] 23)).drew _ _ _) at bxc
          change Hid (BoxW (w1.alloc (.cells #[.int .i64 (rdN x), .int .i64 (rdN y)] 23)).drew _ _ _) at by2
          change Below w.heap.size w (w1.alloc (.cells #[.int .i64 (rdN x), .int .i64 (rdN y)] 23)).drew at bl2
          rw [ex.out, ey.out]
          generalize (w1.alloc (.cells #[.int .i64 (rdN x), .int .i64 (rdN y)] 23)).drew = w2 at *
          clear c0 c1 b0 b1 b3 b4
          obtain ⟨⟨k0, k1, k2⟩, k3, k4⟩ := bxc.out
          go_wp2_with fail
          refine (ptCoin_any _ _ _).mono ?_
          rintro e w3 ⟨rfl, hb3⟩
          rw [hg]
          have bxc3 := Lib.hid (bxc.out.keep hb3)
          have by3 := Lib.hid (by2.out.keep hb3)
          have bl3 := bel_trans bl2 hb3
          clear k0 k1 k2 k3 k4
          obtain ⟨⟨l0, l1, l2⟩, l3, l4⟩ := bxc3.out
          obtain ⟨⟨m0, m1, m2⟩, m3, m4⟩ := by3.out
          go_wp2_with fail
          have hset := Lib.hid (by3.out.set (.int .i64 (rdN x)) (.int .i64 (rdN y)))
          obtain ⟨⟨n0, n1, n2⟩, n3, n4⟩ := hset.out
          refine bodyPost_ret (v := .tuple #[cn (rdN x) (rdN y), .bool true]) (by simp [results, Tryd.results17, go_sem, n0, n1]) rfl ⟨rfl, ?_⟩
          exact bel_set bl3 (Nat.le_refl _) _ _
    · have hm : mdlC s.data.toList = none := by
        unfold mdlC
        split
        · rename_i x y hp; rw [hp] at h2; exact absurd rfl h2
        · rfl
      rw [show ansPC s.data.toList = .tuple #[cn 0 0, .bool false] from by rw [hA, hm]]
      have z5 : ¬ (5 : Int) < (s.size : Int) := by omega
      have z6 : decide ((5 : Int) < (s.size : Int)) = false := by simp; omega
      have hn : ((prtL s.data.toList 47).map baL).length ≠ 2 := by rw [List.length_map]; exact h2
      have HN := Lib.hid hn
      clear hA hm hn h2
      go_enter Tryd.func17, Tryd.ntmps17
      go_wp2_with fail
      refine (l1Split_any s 47 _ hs).mono ?_
      rintro e w1 ⟨v, rfl, hR, hb1⟩
      obtain ⟨n, A, cap, rfl, hn2⟩ : ∃ n A cap, v = .slice A n cap ∧ n ≠ 2 := by
        rcases hR.form with ⟨hx, A, cap, rfl⟩ | ⟨_, g, cap, rfl, _⟩
        · exact ⟨0, A, cap, rfl, by decide⟩
        · exact ⟨_, _, _, rfl, HN.out⟩
      have hd : ((n : Int) != 2) = true := by simp; omega
      have bx1 := Lib.hid (bx0.out.keep hb1)
      have bl1 := bel_trans bl0 hb1
      obtain ⟨⟨m0, m1, m2⟩, m3, m4⟩ := bx1.out
      go_wp2_with fail
      have hset := Lib.hid (bx1.out.set (.int .i64 (0)) (.int .i64 (0)))
      obtain ⟨⟨n0, n1, n2⟩, n3, n4⟩ := hset.out
      refine bodyPost_ret (v := .tuple #[cn (0) (0), .bool false]) (by simp [results, Tryd.results17, go_sem, n0, n1]) rfl ⟨rfl, ?_⟩
      exact bel_set bl1 (Nat.le_refl _) _ _
  · have hm : mdlC s.data.toList = none := by
      unfold mdlC
      split
      · rw [if_neg]
        rw [len_list]
        simp [h5]
      · rfl
    rw [show ansPC s.data.toList = .tuple #[cn 0 0, .bool false] from by rw [hA, hm]]
    have z5 : (5 : Int) < (s.size : Int) := by omega
    clear hA hm
    go_enter Tryd.func17, Tryd.ntmps17
    go_wp2_with fail
    refine (l1Split_any s 47 _ hs).mono ?_
    rintro e w1 ⟨v, rfl, hR, hb1⟩
    have bx1 := Lib.hid (bx0.out.keep hb1)
    have bl1 := bel_trans bl0 hb1
    obtain ⟨⟨m0, m1, m2⟩, m3, m4⟩ := bx1.out
    go_wp2_with fail
    have hset := Lib.hid (bx1.out.set (.int .i64 (0)) (.int .i64 (0)))
    obtain ⟨⟨n0, n1, n2⟩, n3, n4⟩ := hset.out
    refine bodyPost_ret (v := .tuple #[cn (0) (0), .bool false]) (by simp [results, Tryd.results17, go_sem, n0, n1]) rfl ⟨rfl, ?_⟩
    exact bel_set bl1 (Nat.le_refl _) _ _

theorem specPC_any (s : ByteArray) (w : World) (hs : s.size ≤ 1048576) :
    Calls Tryd.prog 6 #[.string s] w fun e w' => e = .returned (ansPC s.data.toList) ∧ Below w.heap.size w w' := by
  obtain ⟨x, y, ok, hv⟩ := ansPC_form s.data.toList
  have Hv := Lib.hid hv
  clear hv
  have bx0 := Lib.hid (BoxW.new w (.int .i64 0) (.int .i64 0) 23)
  have bl0 := bel_alloc (Below.refl _ w) (.cells #[.int .i64 0, .int .i64 0] 23)
  go_enter Tryd.func6, Tryd.ntmps6
  go_wp2_with fail
  refine (ptParse_any s _ hs).mono ?_
  rintro e w1 ⟨rfl, hb1⟩
  rw [Hv.out]
  have bx1 := Lib.hid (bx0.out.keep hb1)
  have bl1 := bel_trans bl0 hb1
  obtain ⟨⟨m0, m1, m2⟩, m3, m4⟩ := bx1.out
  go_wp2_with fail
  have hset := Lib.hid (bx1.out.set (.int .i64 x) (.int .i64 y))
  obtain ⟨⟨n0, n1, n2⟩, n3, n4⟩ := hset.out
  refine bodyPost_ret (v := .tuple #[cn x y, .bool ok]) (by simp [results, Tryd.results6, go_sem, n0, n1]) rfl ⟨by rw [Hv.out], ?_⟩
  exact bel_set bl1 (Nat.le_refl _) _ _
end Go.Proofs.YtmbgmcogpdiopaaDoor
