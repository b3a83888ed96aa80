/- ParseChain: the contract of the model. -/
import Derived.Test.YtjfcpbedmdnjcabDoorPhP
import Derived.Test.YtjfcpbedmdnjcabDoorNmI
import Derived.Test.YtjfcpbedmdnjcabDoorPcW
import Derived.Test.YtjfcpbedmdnjcabDoorBox3W
import Derived.Deep.RegionHeld3
namespace Go.Proofs.YtjfcpbedmdnjcabDoor
set_option linter.unusedSimpArgs false
open Go.ChangeShapes Go.WideShapes Go.ChangeAt Go.RowKit
set_option linter.unusedVariables false

theorem tre_keep {w W V : World} {g q : Nat} {x y z : Value} (h : W.cell? ⟨g, 0, none⟩ = some x ∧ W.cell? ⟨g, 1, none⟩ = some y ∧ W.cell? ⟨q, 1, none⟩ = some z ∧ g < W.heap.size ∧ q < W.heap.size ∧ Below w.heap.size w W) (hb : Below W.heap.size W V) : V.cell? ⟨g, 0, none⟩ = some x ∧ V.cell? ⟨g, 1, none⟩ = some y ∧ V.cell? ⟨q, 1, none⟩ = some z ∧ g < V.heap.size ∧ q < V.heap.size ∧ Below w.heap.size w V :=
  ⟨(hb.cell (p := ⟨g, 0, none⟩) h.2.2.2.1).trans h.1, (hb.cell (p := ⟨g, 1, none⟩) h.2.2.2.1).trans h.2.1, (hb.cell (p := ⟨q, 1, none⟩) h.2.2.2.2.1).trans h.2.2.1, Nat.lt_of_lt_of_le h.2.2.2.1 hb.size, Nat.lt_of_lt_of_le h.2.2.2.2.1 hb.size, bel_trans h.2.2.2.2.2 hb⟩
theorem tre_alloc {w W : World} {g q : Nat} {x y z : Value} (h : W.cell? ⟨g, 0, none⟩ = some x ∧ W.cell? ⟨g, 1, none⟩ = some y ∧ W.cell? ⟨q, 1, none⟩ = some z ∧ g < W.heap.size ∧ q < W.heap.size ∧ Below w.heap.size w W) (o : Obj) : let V := (W.alloc o).drew
    V.cell? ⟨g, 0, none⟩ = some x ∧ V.cell? ⟨g, 1, none⟩ = some y ∧ V.cell? ⟨q, 1, none⟩ = some z ∧ g < V.heap.size ∧ q < V.heap.size ∧ Below w.heap.size w V := tre_keep (V := (W.alloc o).drew) h (bel_alloc (Below.refl _ W) o).drew
theorem tre_alloc0 {w W : World} {g q : Nat} {x y z : Value} (h : W.cell? ⟨g, 0, none⟩ = some x ∧ W.cell? ⟨g, 1, none⟩ = some y ∧ W.cell? ⟨q, 1, none⟩ = some z ∧ g < W.heap.size ∧ q < W.heap.size ∧ Below w.heap.size w W) (o : Obj) : let V := W.alloc o
    V.cell? ⟨g, 0, none⟩ = some x ∧ V.cell? ⟨g, 1, none⟩ = some y ∧ V.cell? ⟨q, 1, none⟩ = some z ∧ g < V.heap.size ∧ q < V.heap.size ∧ Below w.heap.size w V := tre_keep (V := W.alloc o) h (bel_alloc (Below.refl _ W) o)
theorem mapbal2 (l : List (List UInt8)) (h : ∃ x y, l = [x, y]) : l.length = 2 := by obtain ⟨x, y, rfl⟩ := h; rfl
theorem two_of {l : List (List UInt8)} (h : l.length = 2) : ∃ x y, l = [x, y] := by
  match l, h with
  | [x, y], _ => exact ⟨x, y, rfl⟩

set_option maxRecDepth 100000 in
set_option maxHeartbeats 6400000 in
theorem cnParse_any (s : ByteArray) (w : World) (hs : s.size ≤ 1048576) :
    Calls Tryd.prog 54 #[.string s] w fun e w' => e = .returned (ansPH s.data.toList) ∧ Below w.heap.size w w' := by
  have bx0 := Lib.hid (Box3W.new w (.int .i64 0) (.int .i64 0) (.int .i64 0) 28)
  have bl0 := bel_alloc (Below.refl _ w) (.cells #[.int .i64 0, .int .i64 0, .int .i64 0] 28)
  have hA : ansPH s.data.toList = match mdlH s.data.toList with | some c => .tuple #[chn c.1 c.2.1 c.2.2, .bool true] | none => .tuple #[chn 0 0 0, .bool false] := by rw [mdlH_eq]; rfl
  by_cases h5 : s.size ≤ 8
  · have z5 : ¬ (8 : Int) < (s.size : Int) := by omega
    have z6 : decide ((8 : Int) < (s.size : Int)) = false := by simp; omega
    by_cases h2 : (prtL s.data.toList 47).length = 2
    · obtain ⟨p, q, hp⟩ := two_of h2
      have hl := prtL_two hp
      have hsz : p.length ≤ 8 ∧ q.length ≤ 8 := by
        have := congrArg List.length hl
        rw [len_list] at this
        simp at this
        omega
      have zp : (baL p).size ≤ 1048576 := by show p.toArray.size ≤ _; simp; omega
      have zq : (baL q).size ≤ maxLen := by unfold maxLen; show q.toArray.size ≤ _; simp; omega
      have HP := Lib.hid hp
      have ep : Hid ((baL p).data.toList = p) := Lib.hid (baL_toList p)
      have eq : Hid ((baL q).data.toList = q) := Lib.hid (baL_toList q)
      by_cases h3 : (prtL p 45).length = 2
      · obtain ⟨x, y, hp2⟩ := two_of h3
        have hsz2 : x.length ≤ 8 ∧ y.length ≤ 8 := by
          have := congrArg List.length (prtL_two hp2)
          simp at this
          omega
        have zx : (baL x).size ≤ maxLen := by unfold maxLen; show x.toArray.size ≤ _; simp; omega
        have zy : (baL y).size ≤ maxLen := by unfold maxLen; show y.toArray.size ≤ _; simp; omega
        have HP2 := Lib.hid hp2
        have ex : Hid ((baL x).data.toList = x) := Lib.hid (baL_toList x)
        have ey : Hid ((baL y).data.toList = y) := Lib.hid (baL_toList y)
        have hmm : mdlH s.data.toList = if good (rdN x) (rdN y) (rdN q) then some (rdN x, rdN y, rdN q) else none := by
          unfold mdlH
          rw [hp]
          simp only [len_list, h5, if_true]
          rw [hp2]
        rw [hmm] at hA
        clear h5 h2 hp hl hsz h3 hp2 hsz2 hmm
        cases hg : good (rdN x) (rdN y) (rdN q)
        · rw [show ansPH s.data.toList = .tuple #[chn 0 0 0, .bool false] from by rw [hA, hg]; rfl]
          clear hA
          go_enter Tryd.func54, Tryd.ntmps54
          go_wp2_with fail
          refine (l1Split_any s 47 _ hs).mono ?_
          rintro e w1 ⟨v, rfl, hR, hb1⟩
          rw [HP.out] at hR
          obtain ⟨q0, cap0, rfl, d0, d1, hq0, _, hc0, hm0⟩ := SRow.two hR
          have bx1 := Lib.hid (bx0.out.keep hb1)
          have bl1 := bel_trans bl0 hb1
          go_wp2_with fail
          refine (l1Split_any (baL p) 45 _ zp).mono ?_
          rintro e w2 ⟨v2, rfl, hR2, hb2⟩
          rw [ep.out] at hR2
          have d2 : w2.cell? ⟨q0, 1, none⟩ = some (.string (baL q)) := (hb2.cell (p := ⟨q0, 1, none⟩) hq0).trans d1
          have hq2 : q0 < w2.heap.size := Nat.lt_of_lt_of_le hq0 hb2.size
          have bx2 := Lib.hid (bx1.out.keep hb2)
          have bl2 := bel_trans bl1 hb2
          clear d0 d1
          rw [HP2.out] at hR2
          obtain ⟨g, cap, rfl, c0, c1, hgs, hge, hc2, hcm⟩ := SRow.two hR2
          go_wp2_with fail
          go_region_held3 (fun w' => w'.cell? ⟨g, 0, none⟩ = some (.string (baL x)) ∧ w'.cell? ⟨g, 1, none⟩ = some (.string (baL y)) ∧ w'.cell? ⟨q0, 1, none⟩ = some (.string (baL q)) ∧ g < w'.heap.size ∧ q0 < w'.heap.size ∧ Below w.heap.size w w')
            (first | exact ⟨c0, c1, d2, hgs, hq2, bl2.drew⟩ | exact tre_alloc ⟨c0, c1, d2, hgs, hq2, bl2⟩ _ | exact tre_alloc0 (by assumption) _ | exact tre_alloc0 ⟨c0, c1, d2, hgs, hq2, bl2.drew⟩ _ | assumption | go_keep)
            (first | (go_at_call_of 70 (Value.string (baL x)); refine (l1Read_any _ _ zx).mono ?_; rintro e w3 ⟨rfl, rfl⟩) | (go_at_call_of 70 (Value.string (baL y)); refine (l1Read_any _ _ zy).mono ?_; rintro e w4 ⟨rfl, rfl⟩) | (go_at_call_of 70 (Value.string (baL q)); refine (l1Read_any _ _ zq).mono ?_; rintro e w5 ⟨rfl, rfl⟩))
          all_goals
            have bxc := Lib.hid ((Box3W.new w2 (.int .i64 (rdN x)) (.int .i64 (rdN y)) (.int .i64 (rdN q)) 28).drewN 1)
            have by2 := Lib.hid ((bx2.out.keep (bel_alloc (Below.refl _ w2) (.cells #[.int .i64 (rdN x), .int .i64 (rdN y), .int .i64 (rdN q)] 28))).drewN 1)
            have bl3 := bel_drewN (bel_alloc bl2 (.cells #[.int .i64 (rdN x), .int .i64 (rdN y), .int .i64 (rdN q)] 28)) 1
            change Hid (Box3W (w2.alloc (.cells #[.int .i64 (rdN x), .int .i64 (rdN y), .int .i64 (rdN q)] 28)).drew _ _ _ _) at bxc
            change Hid (Box3W (w2.alloc (.cells #[.int .i64 (rdN x), .int .i64 (rdN y), .int .i64 (rdN q)] 28)).drew _ _ _ _) at by2
            change Below w.heap.size w (w2.alloc (.cells #[.int .i64 (rdN x), .int .i64 (rdN y), .int .i64 (rdN q)] 28)).drew at bl3
            rw [ex.out, ey.out, eq.out]
            generalize (w2.alloc (.cells #[.int .i64 (rdN x), .int .i64 (rdN y), .int .i64 (rdN q)] 28)).drew = w6 at *
            clear c0 c1 d2
            obtain ⟨⟨k0, k1, k2, k3⟩, k4, k5, k6⟩ := bxc.out
            go_wp2_with fail
            refine (cnGood_any _ _ _ _).mono ?_
            rintro e w7 ⟨rfl, hb7⟩
            rw [hg]
            have bxc7 := Lib.hid (bxc.out.keep hb7)
            have by7 := Lib.hid (by2.out.keep hb7)
            have bl7 := bel_trans bl3 hb7
            clear k0 k1 k2 k3 k4 k5 k6
            obtain ⟨⟨l0, l1, l2, l3⟩, l4, l5, l6⟩ := bxc7.out
            obtain ⟨⟨m0, m1, m2, m3⟩, m4, m5, m6⟩ := by7.out
            go_wp2_with fail
            have hset := Lib.hid (by7.out.set (.int .i64 (0)) (.int .i64 (0)) (.int .i64 (0)))
            obtain ⟨⟨n0, n1, n2, n3⟩, n4, n5, n6⟩ := hset.out
            refine bodyPost_ret (v := .tuple #[chn (0) (0) (0), .bool false]) (by simp [results, Tryd.results54, go_sem, n0, n1, n2]) rfl ⟨rfl, ?_⟩
            exact bel_set3 bl7 (Nat.le_refl _) _ _ _
        · rw [show ansPH s.data.toList = .tuple #[chn (rdN x) (rdN y) (rdN q), .bool true] from by rw [hA, hg]; rfl]
          clear hA
          go_enter Tryd.func54, Tryd.ntmps54
          go_wp2_with fail
          refine (l1Split_any s 47 _ hs).mono ?_
          rintro e w1 ⟨v, rfl, hR, hb1⟩
          rw [HP.out] at hR
          obtain ⟨q0, cap0, rfl, d0, d1, hq0, _, hc0, hm0⟩ := SRow.two hR
          have bx1 := Lib.hid (bx0.out.keep hb1)
          have bl1 := bel_trans bl0 hb1
          go_wp2_with fail
          refine (l1Split_any (baL p) 45 _ zp).mono ?_
          rintro e w2 ⟨v2, rfl, hR2, hb2⟩
          rw [ep.out] at hR2
          have d2 : w2.cell? ⟨q0, 1, none⟩ = some (.string (baL q)) := (hb2.cell (p := ⟨q0, 1, none⟩) hq0).trans d1
          have hq2 : q0 < w2.heap.size := Nat.lt_of_lt_of_le hq0 hb2.size
          have bx2 := Lib.hid (bx1.out.keep hb2)
          have bl2 := bel_trans bl1 hb2
          clear d0 d1
          rw [HP2.out] at hR2
          obtain ⟨g, cap, rfl, c0, c1, hgs, hge, hc2, hcm⟩ := SRow.two hR2
          go_wp2_with fail
          go_region_held3 (fun w' => w'.cell? ⟨g, 0, none⟩ = some (.string (baL x)) ∧ w'.cell? ⟨g, 1, none⟩ = some (.string (baL y)) ∧ w'.cell? ⟨q0, 1, none⟩ = some (.string (baL q)) ∧ g < w'.heap.size ∧ q0 < w'.heap.size ∧ Below w.heap.size w w')
            (first | exact ⟨c0, c1, d2, hgs, hq2, bl2.drew⟩ | exact tre_alloc ⟨c0, c1, d2, hgs, hq2, bl2⟩ _ | exact tre_alloc0 (by assumption) _ | exact tre_alloc0 ⟨c0, c1, d2, hgs, hq2, bl2.drew⟩ _ | assumption | go_keep)
            (first | (go_at_call_of 70 (Value.string (baL x)); refine (l1Read_any _ _ zx).mono ?_; rintro e w3 ⟨rfl, rfl⟩) | (go_at_call_of 70 (Value.string (baL y)); refine (l1Read_any _ _ zy).mono ?_; rintro e w4 ⟨rfl, rfl⟩) | (go_at_call_of 70 (Value.string (baL q)); refine (l1Read_any _ _ zq).mono ?_; rintro e w5 ⟨rfl, rfl⟩))
          all_goals
            have bxc := Lib.hid ((Box3W.new w2 (.int .i64 (rdN x)) (.int .i64 (rdN y)) (.int .i64 (rdN q)) 28).drewN 1)
            have by2 := Lib.hid ((bx2.out.keep (bel_alloc (Below.refl _ w2) (.cells #[.int .i64 (rdN x), .int .i64 (rdN y), .int .i64 (rdN q)] 28))).drewN 1)
            have bl3 := bel_drewN (bel_alloc bl2 (.cells #[.int .i64 (rdN x), .int .i64 (rdN y), .int .i64 (rdN q)] 28)) 1
            change Hid (Box3W (w2.alloc (.cells #[.int .i64 (rdN x), .int .i64 (rdN y), .int .i64 (rdN q)] 28)).drew _ _ _ _) at bxc
            change Hid (Box3W (w2.alloc (.cells #[.int .i64 (rdN x), .int .i64 (rdN y), .int .i64 (rdN q)] 28)).drew _ _ _ _) at by2
            change Below w.heap.size w (w2.alloc (.cells #[.int .i64 (rdN x), .int .i64 (rdN y), .int .i64 (rdN q)] 28)).drew at bl3
            rw [ex.out, ey.out, eq.out]
            generalize (w2.alloc (.cells #[.int .i64 (rdN x), .int .i64 (rdN y), .int .i64 (rdN q)] 28)).drew = w6 at *
            clear c0 c1 d2
            obtain ⟨⟨k0, k1, k2, k3⟩, k4, k5, k6⟩ := bxc.out
            go_wp2_with fail
            refine (cnGood_any _ _ _ _).mono ?_
            rintro e w7 ⟨rfl, hb7⟩
            rw [hg]
            have bxc7 := Lib.hid (bxc.out.keep hb7)
            have by7 := Lib.hid (by2.out.keep hb7)
            have bl7 := bel_trans bl3 hb7
            clear k0 k1 k2 k3 k4 k5 k6
            obtain ⟨⟨l0, l1, l2, l3⟩, l4, l5, l6⟩ := bxc7.out
            obtain ⟨⟨m0, m1, m2, m3⟩, m4, m5, m6⟩ := by7.out
            go_wp2_with fail
            have hset := Lib.hid (by7.out.set (.int .i64 (rdN x)) (.int .i64 (rdN y)) (.int .i64 (rdN q)))
            obtain ⟨⟨n0, n1, n2, n3⟩, n4, n5, n6⟩ := hset.out
            refine bodyPost_ret (v := .tuple #[chn (rdN x) (rdN y) (rdN q), .bool true]) (by simp [results, Tryd.results54, go_sem, n0, n1, n2]) rfl ⟨rfl, ?_⟩
            exact bel_set3 bl7 (Nat.le_refl _) _ _ _
      · have hm : mdlH s.data.toList = none := by
          unfold mdlH
          rw [hp]
          simp only [len_list, h5, if_true]
          split
          · rename_i x y hp2; rw [hp2] at h3; exact absurd rfl h3
          · rfl
        rw [show ansPH s.data.toList = .tuple #[chn 0 0 0, .bool false] from by rw [hA, hm]]
        have hn : ((prtL p 45).map baL).length ≠ 2 := by rw [List.length_map]; exact h3
        have HN := Lib.hid hn
        clear hA hm hn h2 h3 hp hl hsz h5
        go_enter Tryd.func54, Tryd.ntmps54
        go_wp2_with fail
        refine (l1Split_any s 47 _ hs).mono ?_
        rintro e w1 ⟨v, rfl, hR, hb1⟩
        rw [HP.out] at hR
        obtain ⟨q0, cap0, rfl, d0, d1, hq0, _, hc0, hm0⟩ := SRow.two hR
        have bx1 := Lib.hid (bx0.out.keep hb1)
        have bl1 := bel_trans bl0 hb1
        go_wp2_with fail
        refine (l1Split_any (baL p) 45 _ zp).mono ?_
        rintro e w2 ⟨v2, rfl, hR2, hb2⟩
        rw [ep.out] at hR2
        have d2 : w2.cell? ⟨q0, 1, none⟩ = some (.string (baL q)) := (hb2.cell (p := ⟨q0, 1, none⟩) hq0).trans d1
        have hq2 : q0 < w2.heap.size := Nat.lt_of_lt_of_le hq0 hb2.size
        have bx2 := Lib.hid (bx1.out.keep hb2)
        have bl2 := bel_trans bl1 hb2
        clear d0 d1
        obtain ⟨n, A, cap, rfl, hn2⟩ : ∃ n A cap, v2 = .slice A n cap ∧ n ≠ 2 := by
          rcases hR2.form with ⟨hx, A, cap, rfl⟩ | ⟨_, g, cap, rfl, _⟩
          · exact ⟨0, A, cap, rfl, by decide⟩
          · exact ⟨_, _, _, rfl, HN.out⟩
        have hd : ((n : Int) != 2) = true := by simp; omega
        obtain ⟨⟨m0, m1, m2, m3⟩, m4, m5, m6⟩ := bx2.out
        go_wp2_with fail
        have hset := Lib.hid (bx2.out.set (.int .i64 (0)) (.int .i64 (0)) (.int .i64 (0)))
        obtain ⟨⟨n0, n1, n2, n3⟩, n4, n5, n6⟩ := hset.out
        refine bodyPost_ret (v := .tuple #[chn (0) (0) (0), .bool false]) (by simp [results, Tryd.results54, go_sem, n0, n1, n2]) rfl ⟨rfl, ?_⟩
        exact bel_set3 bl2 (Nat.le_refl _) _ _ _
    · have hm : mdlH s.data.toList = none := by
        unfold mdlH
        split
        · rename_i x y hp; rw [hp] at h2; exact absurd rfl h2
        · rfl
      rw [show ansPH s.data.toList = .tuple #[chn 0 0 0, .bool false] from by rw [hA, hm]]
      have hn : ((prtL s.data.toList 47).map baL).length ≠ 2 := by rw [List.length_map]; exact h2
      have HN := Lib.hid hn
      clear hA hm hn h2
      go_enter Tryd.func54, Tryd.ntmps54
      go_wp2_with fail
      refine (l1Split_any s 47 _ hs).mono ?_
      rintro e w1 ⟨v, rfl, hR, hb1⟩
      obtain ⟨n, A, cap, rfl, hn2⟩ : ∃ n A cap, v = .slice A n cap ∧ n ≠ 2 := by
        rcases hR.form with ⟨hx, A, cap, rfl⟩ | ⟨_, g, cap, rfl, _⟩
        · exact ⟨0, A, cap, rfl, by decide⟩
        · exact ⟨_, _, _, rfl, HN.out⟩
      have hd : ((n : Int) != 2) = true := by simp; omega
      have bx1 := Lib.hid (bx0.out.keep hb1)
      have bl1 := bel_trans bl0 hb1
      obtain ⟨⟨m0, m1, m2, m3⟩, m4, m5, m6⟩ := bx1.out
      go_wp2_with fail
      have hset := Lib.hid (bx1.out.set (.int .i64 (0)) (.int .i64 (0)) (.int .i64 (0)))
      obtain ⟨⟨n0, n1, n2, n3⟩, n4, n5, n6⟩ := hset.out
      refine bodyPost_ret (v := .tuple #[chn (0) (0) (0), .bool false]) (by simp [results, Tryd.results54, go_sem, n0, n1, n2]) rfl ⟨rfl, ?_⟩
      exact bel_set3 bl1 (Nat.le_refl _) _ _ _
  · have hm : mdlH s.data.toList = none := by
      unfold mdlH
      split
      · rw [if_neg]
        rw [len_list]
        exact h5
      · rfl
    rw [show ansPH s.data.toList = .tuple #[chn 0 0 0, .bool false] from by rw [hA, hm]]
    have z5 : (8 : Int) < (s.size : Int) := by omega
    clear hA hm
    go_enter Tryd.func54, Tryd.ntmps54
    go_wp2_with fail
    refine (l1Split_any s 47 _ hs).mono ?_
    rintro e w1 ⟨v, rfl, hR, hb1⟩
    have bx1 := Lib.hid (bx0.out.keep hb1)
    have bl1 := bel_trans bl0 hb1
    obtain ⟨⟨m0, m1, m2, m3⟩, m4, m5, m6⟩ := bx1.out
    go_wp2_with fail
    have hset := Lib.hid (bx1.out.set (.int .i64 (0)) (.int .i64 (0)) (.int .i64 (0)))
    obtain ⟨⟨n0, n1, n2, n3⟩, n4, n5, n6⟩ := hset.out
    refine bodyPost_ret (v := .tuple #[chn (0) (0) (0), .bool false]) (by simp [results, Tryd.results54, go_sem, n0, n1, n2]) rfl ⟨rfl, ?_⟩
    exact bel_set3 bl1 (Nat.le_refl _) _ _ _

end Go.Proofs.YtjfcpbedmdnjcabDoor
