/- ChanceOfGoal, ChanceOfRuin: the contracts of the program and of its model, and the walks. -/
import Derived.Test.YtfogipdhipipfaaSkH
import Derived.Test.YtfogipdhipipfaaSkB
namespace Go.Proofs.Ytfogipdhipipfaa
set_option linter.unusedSimpArgs false
open Go.ChangeShapes Go.WideShapes Go.ChangeAt Go.RowKit
set_option linter.unusedVariables false

def s1 (h o p g : Int) : Int := sg1 h.toNat (o - h).toNat g.toNat p.toNat
def s2 (h o p g : Int) : Int := sg2 h.toNat (o - h).toNat g.toNat p.toNat
theorem s1_nat {H T G P : Nat} {o : Int} (hT : o - (H : Int) = (T : Int)) : s1 H o P G = sg1 H T G P := by unfold s1; rw [hT]; simp
theorem s2_nat {H T G P : Nat} {o : Int} (hT : o - (H : Int) = (T : Int)) : s2 H o P G = sg2 H T G P := by unfold s2; rw [hT]; simp
def ansCG (h o p g : Int) : Value := if csG h o p g then .tuple #[.int .i64 (s1 h o p g), .int .i64 (s2 h o p g), .bool true] else failV
theorem ansCG_form (h o p g : Int) : ∃ (x y : Int) (ok : Bool), ansCG h o p g = .tuple #[.int .i64 x, .int .i64 y, .bool ok] := if_form _ ⟨_, _, true, rfl⟩ failV_form
theorem ansCG_no {h o p g : Int} (a : csG h o p g = false) : ansCG h o p g = .tuple #[.int .i64 0, .int .i64 0, .bool false] := by unfold ansCG; rw [a]; rfl
theorem ansCG_yes {H T G P : Nat} {o : Int} (a : csG H o P G = true) (hT : o - (H : Int) = (T : Int)) : ansCG H o P G = .tuple #[.int .i64 (sg1 H T G P), .int .i64 (sg2 H T G P), .bool true] := by
  unfold ansCG
  rw [a, s1_nat hT, s2_nat hT]
  rfl
def ansCR (h o p g : Int) : Value := if csG h o p g then .tuple #[.int .i64 (s2 h o p g - s1 h o p g), .int .i64 (s2 h o p g), .bool true] else failV
theorem ansCR_form (h o p g : Int) : ∃ (x y : Int) (ok : Bool), ansCR h o p g = .tuple #[.int .i64 x, .int .i64 y, .bool ok] := if_form _ ⟨_, _, true, rfl⟩ failV_form
theorem ansCR_no {h o p g : Int} (a : csG h o p g = false) : ansCR h o p g = .tuple #[.int .i64 0, .int .i64 0, .bool false] := by unfold ansCR; rw [a]; rfl
theorem ansCR_yes {H T G P : Nat} {o : Int} (a : csG H o P G = true) (hT : o - (H : Int) = (T : Int)) : ansCR H o P G = .tuple #[.int .i64 (sg2 H T G P - sg1 H T G P), .int .i64 (sg2 H T G P), .bool true] := by
  unfold ansCR
  rw [a, s1_nat hT, s2_nat hT]
  rfl
set_option maxRecDepth 100000 in
set_option maxHeartbeats 3200000 in
theorem specCG_any (h o p g : Int) (w : World) :
    Calls Try.prog 18 #[cn h o, sk p g] w fun e w' => e = .returned (ansCG h o p g) ∧ Below w.heap.size w w' := by
  cases hc : csG h o p g
  · rw [ansCG_no hc]
    have bc0 := Lib.hid ((Box2.new w (.int .i64 h) (.int .i64 o) 32).keep (bel_alloc (Below.refl _ (w.alloc (.cells #[.int .i64 h, .int .i64 o] 32))) (.cells #[.int .i64 p, .int .i64 g] 25)))
    have bs0 := Lib.hid (Box2.new (w.alloc (.cells #[.int .i64 h, .int .i64 o] 32)) (.int .i64 p) (.int .i64 g) 25)
    have bl0 := Lib.hid (bel_trans (bel_alloc (Below.refl _ w) (.cells #[.int .i64 h, .int .i64 o] 32)) (bel_alloc (Below.refl _ (w.alloc (.cells #[.int .i64 h, .int .i64 o] 32))) (.cells #[.int .i64 p, .int .i64 g] 25)))
    rw [← size1] at bs0
    obtain ⟨cc0, cd0, ck0⟩ := bc0.out
    obtain ⟨cs0, ct0, cl0⟩ := bs0.out
    go_enter Try.func18, Try.ntmps18
    go_wp2_with fail
    refine (skAsked_any _ _ _ _ _).mono ?_
    rintro e w1 ⟨rfl, hb1⟩
    rw [hc]
    go_wp2_with fail
    go_ret3
    exact ⟨rfl, bel_trans bl0.out hb1⟩
  · skip
    obtain ⟨H, T, G, P, rfl, hT, rfl, rfl, h1, t1, ht, g1, g16, hP⟩ := cs_nat hc
    rw [ansCG_yes hc hT]
    have bc0 := Lib.hid ((Box2.new w (.int .i64 (H : Int)) (.int .i64 o) 32).keep (bel_alloc (Below.refl _ (w.alloc (.cells #[.int .i64 (H : Int), .int .i64 o] 32))) (.cells #[.int .i64 (P : Int), .int .i64 (G : Int)] 25)))
    have bs0 := Lib.hid (Box2.new (w.alloc (.cells #[.int .i64 (H : Int), .int .i64 o] 32)) (.int .i64 (P : Int)) (.int .i64 (G : Int)) 25)
    have bl0 := Lib.hid (bel_trans (bel_alloc (Below.refl _ w) (.cells #[.int .i64 (H : Int), .int .i64 o] 32)) (bel_alloc (Below.refl _ (w.alloc (.cells #[.int .i64 (H : Int), .int .i64 o] 32))) (.cells #[.int .i64 (P : Int), .int .i64 (G : Int)] 25)))
    rw [← size1] at bs0
    obtain ⟨cc0, cd0, ck0⟩ := bc0.out
    obtain ⟨cs0, ct0, cl0⟩ := bs0.out
    have hgo := Lib.hid (fun W => skGoal_any H T G P o W hT h1 t1 ht g1 g16 hP)
    obtain ⟨k1, k2, k3, k4, k5, k6, k7, k8, k9, k10, k11⟩ := chkG_at h1 t1 ht g1 g16 hP
    generalize sg1 H T G P = n at *
    generalize sg2 H T G P = d at *
    clear k1 k2 k3 k4 k8 hT
    go_enter Try.func18, Try.ntmps18
    go_wp2_with fail
    refine (skAsked_any _ _ _ _ _).mono ?_
    rintro e w1 ⟨rfl, hb1⟩
    rw [hc]
    have bc1 := Lib.hid (bc0.out.keep hb1)
    have bs1 := Lib.hid (bs0.out.keep hb1)
    have bl1 := Lib.hid (bel_trans bl0.out hb1)
    clear hb1
    obtain ⟨cc1, cd1, ck1⟩ := bc1.out
    obtain ⟨cs1, ct1, cl1⟩ := bs1.out
    go_wp2_with fail
    refine (hgo.out _).mono ?_
    rintro e w2 ⟨rfl, hb2⟩
    go_wp2_with fail
    go_ret3
    exact ⟨rfl, bel_trans bl1.out hb2⟩

set_option maxRecDepth 100000 in
set_option maxHeartbeats 3200000 in
theorem specCR_any (h o p g : Int) (w : World) :
    Calls Try.prog 21 #[cn h o, sk p g] w fun e w' => e = .returned (ansCR h o p g) ∧ Below w.heap.size w w' := by
  cases hc : csG h o p g
  · rw [ansCR_no hc]
    have bc0 := Lib.hid ((Box2.new w (.int .i64 h) (.int .i64 o) 32).keep (bel_alloc (Below.refl _ (w.alloc (.cells #[.int .i64 h, .int .i64 o] 32))) (.cells #[.int .i64 p, .int .i64 g] 25)))
    have bs0 := Lib.hid (Box2.new (w.alloc (.cells #[.int .i64 h, .int .i64 o] 32)) (.int .i64 p) (.int .i64 g) 25)
    have bl0 := Lib.hid (bel_trans (bel_alloc (Below.refl _ w) (.cells #[.int .i64 h, .int .i64 o] 32)) (bel_alloc (Below.refl _ (w.alloc (.cells #[.int .i64 h, .int .i64 o] 32))) (.cells #[.int .i64 p, .int .i64 g] 25)))
    rw [← size1] at bs0
    obtain ⟨cc0, cd0, ck0⟩ := bc0.out
    obtain ⟨cs0, ct0, cl0⟩ := bs0.out
    go_enter Try.func21, Try.ntmps21
    go_wp2_with fail
    refine (skAsked_any _ _ _ _ _).mono ?_
    rintro e w1 ⟨rfl, hb1⟩
    rw [hc]
    go_wp2_with fail
    go_ret3
    exact ⟨rfl, bel_trans bl0.out hb1⟩
  · skip
    obtain ⟨H, T, G, P, rfl, hT, rfl, rfl, h1, t1, ht, g1, g16, hP⟩ := cs_nat hc
    rw [ansCR_yes hc hT]
    have bc0 := Lib.hid ((Box2.new w (.int .i64 (H : Int)) (.int .i64 o) 32).keep (bel_alloc (Below.refl _ (w.alloc (.cells #[.int .i64 (H : Int), .int .i64 o] 32))) (.cells #[.int .i64 (P : Int), .int .i64 (G : Int)] 25)))
    have bs0 := Lib.hid (Box2.new (w.alloc (.cells #[.int .i64 (H : Int), .int .i64 o] 32)) (.int .i64 (P : Int)) (.int .i64 (G : Int)) 25)
    have bl0 := Lib.hid (bel_trans (bel_alloc (Below.refl _ w) (.cells #[.int .i64 (H : Int), .int .i64 o] 32)) (bel_alloc (Below.refl _ (w.alloc (.cells #[.int .i64 (H : Int), .int .i64 o] 32))) (.cells #[.int .i64 (P : Int), .int .i64 (G : Int)] 25)))
    rw [← size1] at bs0
    obtain ⟨cc0, cd0, ck0⟩ := bc0.out
    obtain ⟨cs0, ct0, cl0⟩ := bs0.out
    have hgo := Lib.hid (fun W => skGoal_any H T G P o W hT h1 t1 ht g1 g16 hP)
    obtain ⟨k1, k2, k3, k4, k5, k6, k7, k8, k9, k10, k11⟩ := chkG_at h1 t1 ht g1 g16 hP
    generalize sg1 H T G P = n at *
    generalize sg2 H T G P = d at *
    clear k1 k2 k3 k4 k8 hT
    go_enter Try.func21, Try.ntmps21
    go_wp2_with fail
    refine (skAsked_any _ _ _ _ _).mono ?_
    rintro e w1 ⟨rfl, hb1⟩
    rw [hc]
    have bc1 := Lib.hid (bc0.out.keep hb1)
    have bs1 := Lib.hid (bs0.out.keep hb1)
    have bl1 := Lib.hid (bel_trans bl0.out hb1)
    clear hb1
    obtain ⟨cc1, cd1, ck1⟩ := bc1.out
    obtain ⟨cs1, ct1, cl1⟩ := bs1.out
    go_wp2_with fail
    refine (hgo.out _).mono ?_
    rintro e w2 ⟨rfl, hb2⟩
    have hw : IntKind.i64.wrap (d - n) = d - n := IntWalk.i64_in _ (by omega)
    have hlw := Lib.hid (fun W => cnLow_big (d - n) d W (by omega) (by omega) (by omega) (by omega))
    rw [k6, k7] at hlw
    clear k6 k7
    go_wp2_with fail
    refine (hlw.out _).mono ?_
    rintro e w3 ⟨rfl, n3, rfl⟩
    go_wp2_with fail
    go_ret3
    exact ⟨rfl, bel_drewN (bel_trans bl1.out hb2) n3⟩

set_option maxRecDepth 100000 in
set_option maxHeartbeats 3200000 in
theorem implCG_any (h o p g : Int) (w : World) :
    Calls Try.prog 20 #[cn h o, sk p g] w fun e w' => e = .returned (ansCG h o p g) ∧ Below w.heap.size w w' := by
  cases hc : csG h o p g
  · rw [ansCG_no hc]
    have bc0 := Lib.hid ((Box2.new w (.int .i64 h) (.int .i64 o) 32).keep (bel_alloc (Below.refl _ (w.alloc (.cells #[.int .i64 h, .int .i64 o] 32))) (.cells #[.int .i64 p, .int .i64 g] 25)))
    have bs0 := Lib.hid (Box2.new (w.alloc (.cells #[.int .i64 h, .int .i64 o] 32)) (.int .i64 p) (.int .i64 g) 25)
    have bl0 := Lib.hid (bel_trans (bel_alloc (Below.refl _ w) (.cells #[.int .i64 h, .int .i64 o] 32)) (bel_alloc (Below.refl _ (w.alloc (.cells #[.int .i64 h, .int .i64 o] 32))) (.cells #[.int .i64 p, .int .i64 g] 25)))
    rw [← size1] at bs0
    obtain ⟨cc0, cd0, ck0⟩ := bc0.out
    obtain ⟨cs0, ct0, cl0⟩ := bs0.out
    cases h1 : coinG h o
    · go_enter Try.func20, Try.ntmps20
      go_wp2_with fail
      refine (implIsCoin_any _ _ _).mono ?_
      rintro e w1 ⟨rfl, hb1⟩
      rw [h1]
      go_wp2_with fail
      go_ret3
      exact ⟨rfl, bel_trans bl0.out hb1⟩
    · have h2 : skG p g = false := by unfold csG at hc; rw [h1] at hc; exact hc
      go_enter Try.func20, Try.ntmps20
      go_wp2_with fail
      refine (implIsCoin_any _ _ _).mono ?_
      rintro e w1 ⟨rfl, hb1⟩
      rw [h1]
      have bc1 := Lib.hid (bc0.out.keep hb1)
      have bs1 := Lib.hid (bs0.out.keep hb1)
      have bl1 := Lib.hid (bel_trans bl0.out hb1)
      clear hb1
      obtain ⟨cc1, cd1, ck1⟩ := bc1.out
      obtain ⟨cs1, ct1, cl1⟩ := bs1.out
      go_wp2_with fail
      refine (implAreStakes_any _ _ _).mono ?_
      rintro e w2 ⟨rfl, hb2⟩
      rw [h2]
      go_wp2_with fail
      go_ret3
      exact ⟨rfl, bel_trans bl1.out hb2⟩
  · have hc1 : coinG h o = true := by unfold csG at hc; rw [Bool.and_eq_true] at hc; exact hc.1
    have hc2 : skG p g = true := by unfold csG at hc; rw [Bool.and_eq_true] at hc; exact hc.2
    obtain ⟨H, T, G, P, rfl, hT, rfl, rfl, h1, t1, ht, g1, g16, hP⟩ := cs_nat hc
    rw [ansCG_yes hc hT]
    have bc0 := Lib.hid ((Box2.new w (.int .i64 (H : Int)) (.int .i64 o) 32).keep (bel_alloc (Below.refl _ (w.alloc (.cells #[.int .i64 (H : Int), .int .i64 o] 32))) (.cells #[.int .i64 (P : Int), .int .i64 (G : Int)] 25)))
    have bs0 := Lib.hid (Box2.new (w.alloc (.cells #[.int .i64 (H : Int), .int .i64 o] 32)) (.int .i64 (P : Int)) (.int .i64 (G : Int)) 25)
    have bl0 := Lib.hid (bel_trans (bel_alloc (Below.refl _ w) (.cells #[.int .i64 (H : Int), .int .i64 o] 32)) (bel_alloc (Below.refl _ (w.alloc (.cells #[.int .i64 (H : Int), .int .i64 o] 32))) (.cells #[.int .i64 (P : Int), .int .i64 (G : Int)] 25)))
    rw [← size1] at bs0
    obtain ⟨cc0, cd0, ck0⟩ := bc0.out
    obtain ⟨cs0, ct0, cl0⟩ := bs0.out
    have hgp := Lib.hid (fun W => goalParts_any H T G o W hc1 hT g1 g16)
    obtain ⟨k1, k2, k3, k4, k5, k6, k7, k8, k9, k10, k11⟩ := chkG_at h1 t1 ht g1 g16 hP
    obtain ⟨q1, q2⟩ := gsI_in h1 t1 ht g1 g16 P hP
    obtain ⟨q3, q4⟩ := gsI_in h1 t1 ht g1 g16 G (Nat.le_refl _)
    have htl := Lib.hid (fun W => told_big (gsI H T G P) (gsI H T G G) W q1 k2 (by omega) (by omega))
    rw [← k3, ← k4] at htl
    have hF1 := Lib.hid (gpA_at H T G G P hP)
    have hF2 := Lib.hid (gpA_at H T G G G (Nat.le_refl _))
    clear k1 k2 k3 k4 k5 k6 k7 k8 k9 k10 k11 q1 q2 q3 q4
    generalize gpA H T G G = F at *
    generalize gsI H T G P = x1 at *
    generalize gsI H T G G = x2 at *
    have b17 : (P : Int) < 17 := by omega
    have b18 : (G : Int) < 17 := by omega
    clear hT
    go_enter Try.func20, Try.ntmps20
    go_wp2_with fail
    refine (implIsCoin_any _ _ _).mono ?_
    rintro e w1 ⟨rfl, hb1⟩
    rw [hc1]
    have bc1 := Lib.hid (bc0.out.keep hb1)
    have bs1 := Lib.hid (bs0.out.keep hb1)
    have bl1 := Lib.hid (bel_trans bl0.out hb1)
    clear hb1
    obtain ⟨cc1, cd1, ck1⟩ := bc1.out
    obtain ⟨cs1, ct1, cl1⟩ := bs1.out
    go_wp2_with fail
    refine (implAreStakes_any _ _ _).mono ?_
    rintro e w2 ⟨rfl, hb2⟩
    rw [hc2]
    have bc2 := Lib.hid (bc1.out.keep hb2)
    have bs2 := Lib.hid (bs1.out.keep hb2)
    have bl2 := Lib.hid (bel_trans bl1.out hb2)
    clear hb2
    obtain ⟨cc2, cd2, ck2⟩ := bc2.out
    obtain ⟨cs2, ct2, cl2⟩ := bs2.out
    go_wp2_with fail
    refine (hgp.out _).mono ?_
    rintro e w3 ⟨rfl, hb3⟩
    have hal := bel_alloc (Below.refl _ w3) (.cells (iN 17 F) 51)
    have bc3 := Lib.hid (bc2.out.keep hb3)
    have bs3 := Lib.hid (bs2.out.keep hb3)
    have bl3 := Lib.hid (bel_trans bl2.out hb3)
    clear hb3
    have bc4 := Lib.hid (bc3.out.keep hal)
    have bs4 := Lib.hid (bs3.out.keep hal)
    have bl4 := Lib.hid (bel_trans bl3.out hal)
    clear hal
    obtain ⟨cc4, cd4, ck4⟩ := bc4.out
    obtain ⟨cs4, ct4, cl4⟩ := bs4.out
    have hr := heap_alloc_new w3 (.cells (iN 17 F) 51)
    have y1 := cell_heap hr (iN_get 17 F P (by omega))
    have y2 := cell_heap hr (iN_get 17 F G (by omega))
    rw [hF1.out] at y1
    rw [hF2.out] at y2
    clear hr
    go_wp2_with (first
      | (refine wpList_alloc_row rfl 51 rfl (iN 17 noI) (pu_zero _) ?_)
      | (refine wpList_store_new (k := w3.heap.size) (c' := iN 17 F) rfl 51 (.tmp 7) (.tmp 19) rfl rfl ?_ ?_ (by rw [iN_size]; exact pu_info) (by rw [iN_size, iN_size]) (iN_one _ _) ?_; (· simp [Act.put, Act.eval]); (· simp [Act.put, Act.eval])))
    go_quiet ((go_at_call 47; exact Calls.quiet_of (htl.out _)))
    go_wp2_with fail
    go_ret3
    exact ⟨rfl, bel_drewN bl4.out _⟩

set_option maxRecDepth 100000 in
set_option maxHeartbeats 3200000 in
theorem implCR_any (h o p g : Int) (w : World) :
    Calls Try.prog 22 #[cn h o, sk p g] w fun e w' => e = .returned (ansCR h o p g) ∧ Below w.heap.size w w' := by
  have hcg := Lib.hid (fun W => implCG_any h o p g W)
  cases hc : csG h o p g
  · rw [ansCR_no hc]
    rw [ansCG_no hc] at hcg
    have bc0 := Lib.hid ((Box2.new w (.int .i64 h) (.int .i64 o) 32).keep (bel_alloc (Below.refl _ (w.alloc (.cells #[.int .i64 h, .int .i64 o] 32))) (.cells #[.int .i64 p, .int .i64 g] 25)))
    have bs0 := Lib.hid (Box2.new (w.alloc (.cells #[.int .i64 h, .int .i64 o] 32)) (.int .i64 p) (.int .i64 g) 25)
    have bl0 := Lib.hid (bel_trans (bel_alloc (Below.refl _ w) (.cells #[.int .i64 h, .int .i64 o] 32)) (bel_alloc (Below.refl _ (w.alloc (.cells #[.int .i64 h, .int .i64 o] 32))) (.cells #[.int .i64 p, .int .i64 g] 25)))
    rw [← size1] at bs0
    obtain ⟨cc0, cd0, ck0⟩ := bc0.out
    obtain ⟨cs0, ct0, cl0⟩ := bs0.out
    go_enter Try.func22, Try.ntmps22
    go_wp2_with fail
    refine (hcg.out _).mono ?_
    rintro e w1 ⟨rfl, hb1⟩
    go_wp2_with fail
    go_ret3
    exact ⟨rfl, bel_trans bl0.out hb1⟩
  · skip
    obtain ⟨H, T, G, P, rfl, hT, rfl, rfl, h1, t1, ht, g1, g16, hP⟩ := cs_nat hc
    rw [ansCR_yes hc hT]
    rw [ansCG_yes hc hT] at hcg
    have bc0 := Lib.hid ((Box2.new w (.int .i64 (H : Int)) (.int .i64 o) 32).keep (bel_alloc (Below.refl _ (w.alloc (.cells #[.int .i64 (H : Int), .int .i64 o] 32))) (.cells #[.int .i64 (P : Int), .int .i64 (G : Int)] 25)))
    have bs0 := Lib.hid (Box2.new (w.alloc (.cells #[.int .i64 (H : Int), .int .i64 o] 32)) (.int .i64 (P : Int)) (.int .i64 (G : Int)) 25)
    have bl0 := Lib.hid (bel_trans (bel_alloc (Below.refl _ w) (.cells #[.int .i64 (H : Int), .int .i64 o] 32)) (bel_alloc (Below.refl _ (w.alloc (.cells #[.int .i64 (H : Int), .int .i64 o] 32))) (.cells #[.int .i64 (P : Int), .int .i64 (G : Int)] 25)))
    rw [← size1] at bs0
    obtain ⟨cc0, cd0, ck0⟩ := bc0.out
    obtain ⟨cs0, ct0, cl0⟩ := bs0.out
    obtain ⟨k1, k2, k3, k4, k5, k6, k7, k8, k9, k10, k11⟩ := chkG_at h1 t1 ht g1 g16 hP
    generalize sg1 H T G P = n at *
    generalize sg2 H T G P = d at *
    have hw : IntKind.i64.wrap (d - n) = d - n := IntWalk.i64_in _ (by omega)
    clear k1 k2 k3 k4 k8 hT k6 k7
    go_enter Try.func22, Try.ntmps22
    go_wp2_with fail
    refine (hcg.out _).mono ?_
    rintro e w1 ⟨rfl, hb1⟩
    go_wp2_with fail
    go_ret3
    exact ⟨rfl, bel_trans bl0.out hb1⟩

set_option maxRecDepth 100000 in
set_option maxHeartbeats 3200000 in
theorem walkExactChanceOfGoal (h o p g : Int) (w : World) (zh : (Lit.int .i64 h).wf = true) (zo : (Lit.int .i64 o).wf = true) (zp : (Lit.int .i64 p).wf = true) (zg : (Lit.int .i64 g).wf = true) :
    Calls Try.prog 4 #[cn h o, sk p g] w fun e w' => e = .returned (.bool true) ∧ Below w.heap.size w w' := by
  clear zh zo zp zg
  obtain ⟨x, y, ok, hv⟩ := ansCG_form h o p g
  have Hv := Lib.hid hv
  clear hv
  have hbA0 := bel_alloc (Below.refl _ w) (.cells #[.int .i64 h, .int .i64 o] 29)
  have bc_0 := Lib.hid (Box2.new w (.int .i64 h) (.int .i64 o) 29)
  have hbA1 := bel_alloc (Below.refl _ (w.alloc (.cells #[.int .i64 h, .int .i64 o] 29))) (.cells #[.int .i64 p, .int .i64 g] 23)
  have bs_0 := Lib.hid (Box2.new (w.alloc (.cells #[.int .i64 h, .int .i64 o] 29)) (.int .i64 p) (.int .i64 g) 23)
  have bc_0 := Lib.hid (bc_0.out.keep hbA1)
  rw [← size1] at bs_0
  have bl_0 := Lib.hid (bel_trans hbA0 hbA1)
  clear hbA0 hbA1
  go_enter Try.func4, Try.ntmps4
  obtain ⟨cc0, cd0, ck0⟩ := bc_0.out
  obtain ⟨cs0, ct0, cl0⟩ := bs_0.out
  go_wp2_with fail
  go_region_held3 (fun w' => w'.cell? ⟨w.heap.size, 0, none⟩ = some (.int .i64 h) ∧ w'.cell? ⟨w.heap.size, 1, none⟩ = some (.int .i64 o) ∧ w.heap.size < w'.heap.size ∧ w'.cell? ⟨w.heap.size + 1, 0, none⟩ = some (.int .i64 p) ∧ w'.cell? ⟨w.heap.size + 1, 1, none⟩ = some (.int .i64 g) ∧ w.heap.size + 1 < w'.heap.size ∧ Below w.heap.size w w')
    (first | exact h22_start bc_0.out bs_0.out bl_0.out | exact h22_keep (by assumption) hb1 | exact h22_keep (by assumption) hb2 | exact h22_keep (by assumption) hb3 | exact h22_drewN (by assumption) _ | assumption | go_keep)
    (first | (go_at_call 19; refine (toCoin_any _ _ _).mono ?_; rintro e w1 ⟨rfl, hb1⟩) | (go_at_call 16; refine (toStakes_any _ _ _).mono ?_; rintro e w2 ⟨rfl, hb2⟩) | (go_at_call 18; refine (specCG_any h o p g _).mono ?_; rw [Hv.out]; rintro e w3 ⟨rfl, hb3⟩))
  all_goals
    obtain ⟨hbc, hbs, hbl⟩ := h22_below (by assumption)
    have bc_1 := Lib.hid hbc
    have bs_1 := Lib.hid hbs
    have bl_1 := Lib.hid hbl
    clear hbc hbs hbl
    obtain ⟨cc1, cd1, ck1⟩ := bc_1.out
    obtain ⟨cs1, ct1, cl1⟩ := bs_1.out
    go_wp2_with fail
    go_region_held3 (fun w' => w'.cell? ⟨w.heap.size, 0, none⟩ = some (.int .i64 h) ∧ w'.cell? ⟨w.heap.size, 1, none⟩ = some (.int .i64 o) ∧ w.heap.size < w'.heap.size ∧ w'.cell? ⟨w.heap.size + 1, 0, none⟩ = some (.int .i64 p) ∧ w'.cell? ⟨w.heap.size + 1, 1, none⟩ = some (.int .i64 g) ∧ w.heap.size + 1 < w'.heap.size ∧ Below w.heap.size w w')
      (first | exact h22_start bc_1.out bs_1.out bl_1.out | exact h22_keep (by assumption) hb4 | exact h22_keep (by assumption) hb5 | exact h22_keep (by assumption) hb6 | exact h22_drewN (by assumption) _ | assumption | go_keep)
      (first | (go_at_call 19; refine (toCoin_any _ _ _).mono ?_; rintro e w4 ⟨rfl, hb4⟩) | (go_at_call 16; refine (toStakes_any _ _ _).mono ?_; rintro e w5 ⟨rfl, hb5⟩) | (go_at_call 20; refine (implCG_any h o p g _).mono ?_; rw [Hv.out]; rintro e w6 ⟨rfl, hb6⟩))
    all_goals
      obtain ⟨hbc, hbs, hbl⟩ := h22_below (by assumption)
      have bc_2 := Lib.hid hbc
      have bs_2 := Lib.hid hbs
      have bl_2 := Lib.hid hbl
      clear hbc hbs hbl
      obtain ⟨cc2, cd2, ck2⟩ := bc_2.out
      obtain ⟨cs2, ct2, cl2⟩ := bs_2.out
      go_wp2_with fail
      go_ret
      exact ⟨rfl, bl_2.out⟩

set_option maxRecDepth 100000 in
set_option maxHeartbeats 3200000 in
theorem walkExactChanceOfRuin (h o p g : Int) (w : World) (zh : (Lit.int .i64 h).wf = true) (zo : (Lit.int .i64 o).wf = true) (zp : (Lit.int .i64 p).wf = true) (zg : (Lit.int .i64 g).wf = true) :
    Calls Try.prog 5 #[cn h o, sk p g] w fun e w' => e = .returned (.bool true) ∧ Below w.heap.size w w' := by
  clear zh zo zp zg
  obtain ⟨x, y, ok, hv⟩ := ansCR_form h o p g
  have Hv := Lib.hid hv
  clear hv
  have hbA0 := bel_alloc (Below.refl _ w) (.cells #[.int .i64 h, .int .i64 o] 29)
  have bc_0 := Lib.hid (Box2.new w (.int .i64 h) (.int .i64 o) 29)
  have hbA1 := bel_alloc (Below.refl _ (w.alloc (.cells #[.int .i64 h, .int .i64 o] 29))) (.cells #[.int .i64 p, .int .i64 g] 23)
  have bs_0 := Lib.hid (Box2.new (w.alloc (.cells #[.int .i64 h, .int .i64 o] 29)) (.int .i64 p) (.int .i64 g) 23)
  have bc_0 := Lib.hid (bc_0.out.keep hbA1)
  rw [← size1] at bs_0
  have bl_0 := Lib.hid (bel_trans hbA0 hbA1)
  clear hbA0 hbA1
  go_enter Try.func5, Try.ntmps5
  obtain ⟨cc0, cd0, ck0⟩ := bc_0.out
  obtain ⟨cs0, ct0, cl0⟩ := bs_0.out
  go_wp2_with fail
  go_region_held3 (fun w' => w'.cell? ⟨w.heap.size, 0, none⟩ = some (.int .i64 h) ∧ w'.cell? ⟨w.heap.size, 1, none⟩ = some (.int .i64 o) ∧ w.heap.size < w'.heap.size ∧ w'.cell? ⟨w.heap.size + 1, 0, none⟩ = some (.int .i64 p) ∧ w'.cell? ⟨w.heap.size + 1, 1, none⟩ = some (.int .i64 g) ∧ w.heap.size + 1 < w'.heap.size ∧ Below w.heap.size w w')
    (first | exact h22_start bc_0.out bs_0.out bl_0.out | exact h22_keep (by assumption) hb1 | exact h22_keep (by assumption) hb2 | exact h22_keep (by assumption) hb3 | exact h22_drewN (by assumption) _ | assumption | go_keep)
    (first | (go_at_call 19; refine (toCoin_any _ _ _).mono ?_; rintro e w1 ⟨rfl, hb1⟩) | (go_at_call 16; refine (toStakes_any _ _ _).mono ?_; rintro e w2 ⟨rfl, hb2⟩) | (go_at_call 21; refine (specCR_any h o p g _).mono ?_; rw [Hv.out]; rintro e w3 ⟨rfl, hb3⟩))
  all_goals
    obtain ⟨hbc, hbs, hbl⟩ := h22_below (by assumption)
    have bc_1 := Lib.hid hbc
    have bs_1 := Lib.hid hbs
    have bl_1 := Lib.hid hbl
    clear hbc hbs hbl
    obtain ⟨cc1, cd1, ck1⟩ := bc_1.out
    obtain ⟨cs1, ct1, cl1⟩ := bs_1.out
    go_wp2_with fail
    go_region_held3 (fun w' => w'.cell? ⟨w.heap.size, 0, none⟩ = some (.int .i64 h) ∧ w'.cell? ⟨w.heap.size, 1, none⟩ = some (.int .i64 o) ∧ w.heap.size < w'.heap.size ∧ w'.cell? ⟨w.heap.size + 1, 0, none⟩ = some (.int .i64 p) ∧ w'.cell? ⟨w.heap.size + 1, 1, none⟩ = some (.int .i64 g) ∧ w.heap.size + 1 < w'.heap.size ∧ Below w.heap.size w w')
      (first | exact h22_start bc_1.out bs_1.out bl_1.out | exact h22_keep (by assumption) hb4 | exact h22_keep (by assumption) hb5 | exact h22_keep (by assumption) hb6 | exact h22_drewN (by assumption) _ | assumption | go_keep)
      (first | (go_at_call 19; refine (toCoin_any _ _ _).mono ?_; rintro e w4 ⟨rfl, hb4⟩) | (go_at_call 16; refine (toStakes_any _ _ _).mono ?_; rintro e w5 ⟨rfl, hb5⟩) | (go_at_call 22; refine (implCR_any h o p g _).mono ?_; rw [Hv.out]; rintro e w6 ⟨rfl, hb6⟩))
    all_goals
      obtain ⟨hbc, hbs, hbl⟩ := h22_below (by assumption)
      have bc_2 := Lib.hid hbc
      have bs_2 := Lib.hid hbs
      have bl_2 := Lib.hid hbl
      clear hbc hbs hbl
      obtain ⟨cc2, cd2, ck2⟩ := bc_2.out
      obtain ⟨cs2, ct2, cl2⟩ := bs_2.out
      go_wp2_with fail
      go_ret
      exact ⟨rfl, bl_2.out⟩

end Go.Proofs.Ytfogipdhipipfaa
