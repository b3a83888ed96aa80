/- ChanceOfGoal, ChanceOfRuin: the contracts of the program and of its model, and the walks. -/
import Derived.Test.YtfogipdhipipfabSkG
namespace Go.Proofs.Ytfogipdhipipfab
set_option linter.unusedSimpArgs false
open Go.ChangeShapes Go.WideShapes Go.ChangeAt Go.RowKit
set_option linter.unusedVariables false

def csG (h o p g : Int) : Bool := coinG h o && skG p g
theorem skAsked_any (h o p g : Int) (w : World) :
    Calls Try.prog 75 #[cn h o, sk p g] w fun e w' => e = .returned (.bool (csG h o p g)) ∧ Below w.heap.size w w' := by
  have bc0 := Lib.hid ((Box2.new w (.int .i64 h) (.int .i64 o) 32).keep (bel_alloc (Below.refl _ (w.alloc (.cells #[.int .i64 h, .int .i64 o] 32))) (.cells #[.int .i64 p, .int .i64 g] 26)))
  have bs0 := Lib.hid (Box2.new (w.alloc (.cells #[.int .i64 h, .int .i64 o] 32)) (.int .i64 p) (.int .i64 g) 26)
  have bl0 := Lib.hid (bel_trans (bel_alloc (Below.refl _ w) (.cells #[.int .i64 h, .int .i64 o] 32)) (bel_alloc (Below.refl _ (w.alloc (.cells #[.int .i64 h, .int .i64 o] 32))) (.cells #[.int .i64 p, .int .i64 g] 26)))
  rw [← size1] at bs0
  obtain ⟨cc0, cd0, ck0⟩ := bc0.out
  obtain ⟨cs0, ct0, cl0⟩ := bs0.out
  cases h1 : coinG h o
  · rw [show csG h o p g = false from by unfold csG; rw [h1]; rfl]
    go_enter Try.func75, Try.ntmps75
    go_wp2_with fail
    refine (ptCoin_any _ _ _).mono ?_
    rintro e w1 ⟨rfl, hb1⟩
    rw [h1]
    go_wp2_with fail
    go_ret
    exact ⟨rfl, bel_trans bl0.out hb1⟩
  · rw [show csG h o p g = skG p g from by unfold csG; rw [h1]; rfl]
    go_enter Try.func75, Try.ntmps75
    go_wp2_with fail
    refine (ptCoin_any _ _ _).mono ?_
    rintro e w1 ⟨rfl, hb1⟩
    rw [h1]
    have bc1 := Lib.hid (bc0.out.keep hb1)
    have bs1 := Lib.hid (bs0.out.keep hb1)
    have bl1 := Lib.hid (bel_trans bl0.out hb1)
    clear hb1
    obtain ⟨cc1, cd1, ck1⟩ := bc1.out
    obtain ⟨cs1, ct1, cl1⟩ := bs1.out
    go_wp2_with fail
    refine (skGood_any _ _ _).mono ?_
    rintro e w2 ⟨rfl, hb2⟩
    go_wp2_with fail
    go_ret
    exact ⟨rfl, bel_trans bl1.out hb2⟩

/-- What a coin and stakes are in numbers. -/
theorem cs_nat {h o p g : Int} (a : csG h o p g = true) : ∃ H T G P : Nat, h = H ∧ o - h = T ∧ g = G ∧ p = P ∧ 1 ≤ H ∧ 1 ≤ T ∧ H + T ≤ 10 ∧ 1 ≤ G ∧ G ≤ 16 ∧ P ≤ G := by
  unfold csG at a
  rw [Bool.and_eq_true] at a
  obtain ⟨r1, r2, r3, r4⟩ := coin_in a.1
  obtain ⟨g0, g1, p0, p1⟩ := sk_in a.2
  exact ⟨h.toNat, (o - h).toNat, g.toNat, p.toNat, by omega, by omega, by omega, by omega, by omega, by omega, by omega, by omega, by omega, by omega⟩
/-- The coin without common divisors. -/
theorem skCoin_any (H T : Nat) (o : Int) (w : World) (hT : o - (H : Int) = (T : Int)) (h1 : 1 ≤ H) (t1 : 1 ≤ T) (ht : H + T ≤ 10) :
    Calls Try.prog 66 #[cn H o] w fun e w' => e = .returned (.tuple #[.int .i64 ((lwN H H T : Nat) : Int), .int .i64 ((lwN T H T : Nat) : Int)]) ∧ Below w.heap.size w w' := by
  have hC := Lib.hid (fun W => cnLow_any (H : Int) (T : Int) W (by omega) (by omega) (by omega) (by omega))
  rw [low_cast, low_cast] at hC
  generalize lwN H H T = a at *
  generalize lwN T H T = b at *
  have hw : IntKind.i64.wrap (o - (H : Int)) = (T : Int) := by rw [hT]; exact IntWalk.i64_in _ (by omega)
  clear hT
  go_enter Try.func66, Try.ntmps66
  go_wp2_with fail
  refine (hC.out _).mono ?_
  rintro e w1 ⟨rfl, n1, rfl⟩
  go_wp2_with fail
  go_ret2
  exact ⟨rfl, bel_drewN (bel_alloc (Below.refl _ _) _) n1⟩
def sg1 (H T G P : Nat) : Int := (((sgN H T G P).1 : Nat) : Int)
def sg2 (H T G P : Nat) : Int := (((sgN H T G P).2 : Nat) : Int)
theorem low_gs (p q G P : Nat) : low (gsI p q G P) (gsI p q G P) (gsI p q G G) = ((lwN (gsN p q G P) (gsN p q G P) (gsN p q G G) : Nat) : Int) ∧ low (gsI p q G G) (gsI p q G P) (gsI p q G G) = ((lwN (gsN p q G G) (gsN p q G P) (gsN p q G G) : Nat) : Int) := ⟨low_cast _ _ _, low_cast _ _ _⟩
/-- What has been counted through. -/
theorem chkG_at {H T G P : Nat} (h1 : 1 ≤ H) (t1 : 1 ≤ T) (ht : H + T ≤ 10) (g1 : 1 ≤ G) (g16 : G ≤ 16) (hP : P ≤ G) :
    gsI H T G P ≤ gsI H T G G ∧ 1 ≤ gsI H T G G ∧ sg1 H T G P = low (gsI H T G P) (gsI H T G P) (gsI H T G G) ∧ sg2 H T G P = low (gsI H T G G) (gsI H T G P) (gsI H T G G)
    ∧ sg1 H T G P ≤ sg2 H T G P ∧ low (sg2 H T G P - sg1 H T G P) (sg2 H T G P - sg1 H T G P) (sg2 H T G P) = sg2 H T G P - sg1 H T G P ∧ low (sg2 H T G P) (sg2 H T G P - sg1 H T G P) (sg2 H T G P) = sg2 H T G P
    ∧ 1 ≤ gsI (lwN H H T) (lwN T H T) G G ∧ 0 ≤ sg1 H T G P ∧ 1 ≤ sg2 H T G P ∧ sg2 H T G P ≤ 240000000000000 := by
  have a := allG_at all_chkG h1 t1 ht g1 g16 hP
  unfold chkG at a
  simp only [Bool.and_eq_true, decide_eq_true_eq, beq_iff_eq] at a
  obtain ⟨⟨⟨⟨⟨a1, a2⟩, a3⟩, a4⟩, ⟨a5, a6⟩, a7⟩, ⟨_, a8⟩, _⟩ := a
  have hb := lwN_pos (a := gsN H T G P) a2
  have hl := lwN_le (gsN H T G G) (gsN H T G P) (gsN H T G G)
  obtain ⟨l1, l2⟩ := low_gs H T G P
  rw [l1, l2]
  unfold sg1 sg2 gsI
  rw [a4]
  generalize lwN (gsN H T G P) (gsN H T G P) (gsN H T G G) = n at *
  generalize lwN (gsN H T G G) (gsN H T G P) (gsN H T G G) = d at *
  have hs : (d : Int) - (n : Int) = ((d - n : Nat) : Int) := by omega
  simp only [hs, low_cast, a6, a7]
  refine ⟨by omega, by omega, trivial, trivial, by omega, trivial, trivial, by omega, by omega, by omega, by omega⟩
set_option maxRecDepth 100000 in
set_option maxHeartbeats 3200000 in
theorem skGoal_any (H T G P : Nat) (o : Int) (w : World) (hT : o - (H : Int) = (T : Int)) (h1 : 1 ≤ H) (t1 : 1 ≤ T) (ht : H + T ≤ 10) (g1 : 1 ≤ G) (g16 : G ≤ 16) (hP : P ≤ G) :
    Calls Try.prog 39 #[cn H o, sk P G] w fun e w' => e = .returned (.tuple #[.int .i64 (sg1 H T G P), .int .i64 (sg2 H T G P)]) ∧ Below w.heap.size w w' := by
  have hcoin := Lib.hid (fun W => skCoin_any H T o W hT h1 t1 ht)
  have hpp := lwN_posl (a := H) (b := T) h1
  have hqp := lwN_pos (a := H) (b := T) t1
  have hpl := lwN_le H H T
  have hql := lwN_le T H T
  have bc0 := Lib.hid ((Box2.new w (.int .i64 (H : Int)) (.int .i64 o) 32).keep (bel_alloc (Below.refl _ (w.alloc (.cells #[.int .i64 (H : Int), .int .i64 o] 32))) (.cells #[.int .i64 (P : Int), .int .i64 (G : Int)] 26)))
  have bs0 := Lib.hid (Box2.new (w.alloc (.cells #[.int .i64 (H : Int), .int .i64 o] 32)) (.int .i64 (P : Int)) (.int .i64 (G : Int)) 26)
  have bl0 := Lib.hid (bel_trans (bel_alloc (Below.refl _ w) (.cells #[.int .i64 (H : Int), .int .i64 o] 32)) (bel_alloc (Below.refl _ (w.alloc (.cells #[.int .i64 (H : Int), .int .i64 o] 32))) (.cells #[.int .i64 (P : Int), .int .i64 (G : Int)] 26)))
  rw [← size1] at bs0
  by_cases heq : lwN H H T = lwN T H T
  · have e1 : sg1 H T G P = low (P : Int) P G := by
      unfold sg1 sgN
      rw [if_pos heq, low_cast]
    have e2 : sg2 H T G P = low (G : Int) P G := by
      unfold sg2 sgN
      rw [if_pos heq, low_cast]
    rw [e1, e2]
    have hC := Lib.hid (fun W => cnLow_any (P : Int) (G : Int) W (by omega) (by omega) (by omega) (by omega))
    rw [heq] at hcoin
    clear e1 e2 heq hpp hqp hpl hql hT
    generalize lwN T H T = q at *
    generalize low (P : Int) P G = L1 at *
    generalize low (G : Int) P G = L2 at *
    go_enter Try.func39, Try.ntmps39
    go_wp2_with fail
    refine (hcoin.out _).mono ?_
    rintro e w1 ⟨rfl, hb1⟩
    have bc1 := Lib.hid (bc0.out.keep hb1)
    have bs1 := Lib.hid (bs0.out.keep hb1)
    have bl1 := Lib.hid (bel_trans bl0.out hb1)
    clear hb1
    obtain ⟨cc1, cd1, ck1⟩ := bc1.out
    obtain ⟨cs1, ct1, cl1⟩ := bs1.out
    go_wp2_with fail
    refine (hC.out _).mono ?_
    rintro e w2 ⟨rfl, n2, rfl⟩
    go_wp2_with fail
    go_ret2
    exact ⟨rfl, bel_drewN bl1.out n2⟩
  · obtain ⟨k1, k2, k3, k4, k5, k6, k7, k8, k9, k10, k11⟩ := chkG_at h1 t1 ht g1 g16 hP
    have e1 : sg1 H T G P = low (gsI (lwN H H T) (lwN T H T) G P) (gsI (lwN H H T) (lwN T H T) G P) (gsI (lwN H H T) (lwN T H T) G G) := by
      rw [(low_gs _ _ _ _).1]
      unfold sg1 sgN
      rw [if_neg heq]
    have e2 : sg2 H T G P = low (gsI (lwN H H T) (lwN T H T) G G) (gsI (lwN H H T) (lwN T H T) G P) (gsI (lwN H H T) (lwN T H T) G G) := by
      rw [(low_gs _ _ _ _).2]
      unfold sg2 sgN
      rw [if_neg heq]
    rw [e1, e2]
    clear e1 e2 k1 k2 k3 k4 k5 k6 k7 k9 k10 k11
    have hne : ¬ ((lwN H H T : Nat) : Int) = ((lwN T H T : Nat) : Int) := by omega
    clear heq
    generalize lwN H H T = p at *
    generalize lwN T H T = q at *
    have hpq : p + q ≤ 10 := by omega
    have hK : Hid (∀ k, k ≤ G → 0 ≤ gsI p q G k ∧ gsI p q G k ≤ 240000000000000) := Lib.hid (fun k hk => gsI_in hpp hqp hpq g1 g16 k hk)
    have hR : Hid (∀ k, k < G → 0 ≤ pwI q k * pwI p (G - 1 - k) ∧ pwI q k * pwI p (G - 1 - k) ≤ 240000000000000) := Lib.hid (fun k hk => prI_in hpp hqp hpq g1 g16 k hk)
    have hC := Lib.hid (fun W => cnLow_big (gsI p q G P) (gsI p q G G) W (hK.out P hP).1 k8 (by have := (hK.out P hP).2; omega) (by have := (hK.out G (Nat.le_refl _)).2; omega))
    have hz := Lib.hid (gsI_zero p q G)
    have hs := Lib.hid (gsI_succ p q G)
    have hneb : ((p : Int) == (q : Int)) = false := by simpa using hne
    generalize low (gsI p q G P) (gsI p q G P) (gsI p q G G) = L1 at *
    generalize low (gsI p q G G) (gsI p q G P) (gsI p q G G) = L2 at *
    clear hT k8 hpl hql
    go_enter Try.func39, Try.ntmps39
    go_wp2_with fail
    refine (hcoin.out _).mono ?_
    rintro e w1 ⟨rfl, hb1⟩
    have bc1 := Lib.hid (bc0.out.keep hb1)
    have bs1 := Lib.hid (bs0.out.keep hb1)
    have bl1 := Lib.hid (bel_trans bl0.out hb1)
    clear hb1
    obtain ⟨cc1, cd1, ck1⟩ := bc1.out
    obtain ⟨cs1, ct1, cl1⟩ := bs1.out
    go_wp2_with fail
    go_loopw [8, 9, 10] (fun x y i wr => ∃ k : Nat, k ≤ G ∧ i = .int .i64 k ∧ x = .int .i64 (gsI p q G (min k P)) ∧ y = .int .i64 (gsI p q G k) ∧ ∃ n, wr = w1.drewN n) (fun _ _ i _ => G - (intOf i).toNat)
    case atStart => exact ⟨0, by omega, rfl, by rw [Nat.zero_min, hz.out], by rw [hz.out], 0, rfl⟩
    case round =>
      obtain ⟨k, hk, rfl, rfl, rfl, n, hwr⟩ := hrel
      obtain ⟨wa, rfl⟩ : ∃ wa : World, wa = wr := ⟨_, rfl⟩
      have HW := Lib.hid hwr
      have bs2 : Hid (Box2 wa (w.heap.size + 1) (.int .i64 (P : Int)) (.int .i64 (G : Int))) := Lib.hid (by rw [hwr]; exact bs1.out)
      clear hwr cs1 ct1 cl1
      obtain ⟨cs1, ct1, cl1⟩ := bs2.out
      by_cases hlt : k < G
      · obtain ⟨E, hE⟩ : ∃ E, E = G - 1 - k := ⟨_, rfl⟩
        obtain ⟨p0, p1⟩ := hR.out k hlt
        have hsk := Lib.hid (hs.out k)
        rw [← hE] at p0 p1 hsk
        obtain ⟨y0, y1⟩ := hK.out k hk
        obtain ⟨z0, z1⟩ := pwI_in q (by omega) k (by omega)
        obtain ⟨z2, z3⟩ := pwI_in p (by omega) E (by omega)
        have hpA : Hid (∀ W : World, Calls Try.prog 68 #[.int .i64 q, .int .i64 k] W fun e w' => e = .returned (.int .i64 (pwI q k)) ∧ ∃ n, w' = W.drewN n) := Lib.hid (fun W => (skPower_any q k W (by omega) (by omega) (by omega)).mono (fun e w' x => ⟨x.1, 0, x.2.symm⟩))
        have hpB : Hid (∀ W : World, Calls Try.prog 68 #[.int .i64 p, .int .i64 E] W fun e w' => e = .returned (.int .i64 (pwI p E)) ∧ ∃ n, w' = W.drewN n) := Lib.hid (fun W => (skPower_any p E W (by omega) (by omega) (by omega)).mono (fun e w' x => ⟨x.1, 0, x.2.symm⟩))
        have hwE : IntKind.i64.wrap ((G : Int) - 1 - (k : Int)) = (E : Int) := by
          rw [show (G : Int) - 1 - (k : Int) = (E : Int) from by omega]
          exact IntWalk.i64_in _ (by omega)
        have hwE1 : IntKind.i64.wrap ((G : Int) - 1) = (G : Int) - 1 := IntWalk.i64_in _ (by omega)
        generalize pwI q k = q1 at *
        generalize pwI p E = q2 at *
        have hw1 : IntKind.i64.wrap (q1 * q2) = q1 * q2 := IntWalk.i64_in _ (by omega)
        have hw2 : IntKind.i64.wrap (gsI p q G k + q1 * q2) = gsI p q G k + q1 * q2 := IntWalk.i64_in _ (by omega)
        have hkG : (k : Int) < (G : Int) := by omega
        by_cases hkP : k < P
        · have hm1 : Hid (min k P = k) := Lib.hid (by omega)
          have hm2 : Hid (min (k + 1) P = k + 1) := Lib.hid (by omega)
          have hkP2 : (k : Int) < (P : Int) := by omega
          rw [hm1.out]
          generalize gsI p q G k = S at *
          clear hE p0 p1 y0 y1 z0 z1 z2 z3
          go_wp2_with fail
          go_quiet ((first | (go_at_call_of 68 (Value.int IntKind.i64 (E : Int)); exact Calls.quiet_of (hpB.out _)) | (go_at_call_of 68 (Value.int IntKind.i64 (k : Int)); exact Calls.quiet_of (hpA.out _))))
          go_wp2_with fail
          exact ⟨⟨k + 1, by omega, by go_num, by rw [hm2.out, hsk.out], by rw [hsk.out], _, by rw [HW.out, World.drewN_drewN]⟩, by simp [intOf]; omega⟩
        · have hm1 : Hid (min k P = P) := Lib.hid (by omega)
          have hm2 : Hid (min (k + 1) P = P) := Lib.hid (by omega)
          have hkP2 : ¬ (k : Int) < (P : Int) := by omega
          rw [hm1.out]
          generalize gsI p q G k = S at *
          clear hE p0 p1 y0 y1 z0 z1 z2 z3
          go_wp2_with fail
          go_quiet ((first | (go_at_call_of 68 (Value.int IntKind.i64 (E : Int)); exact Calls.quiet_of (hpB.out _)) | (go_at_call_of 68 (Value.int IntKind.i64 (k : Int)); exact Calls.quiet_of (hpA.out _))))
          go_wp2_with fail
          exact ⟨⟨k + 1, by omega, by go_num, by rw [hm2.out], by rw [hsk.out], _, by rw [HW.out, World.drewN_drewN]⟩, by simp [intOf]; omega⟩
      · obtain rfl : k = G := by omega
        have hm1 : Hid (min k P = P) := Lib.hid (by omega)
        rw [hm1.out]
        have hbl := Lib.hid (bl1.out)
        go_wp2_with fail
        refine (hC.out _).mono ?_
        rintro e w2 ⟨rfl, n2, rfl⟩
        go_wp2_with fail
        go_ret2
        exact ⟨rfl, bel_drewN (by rw [HW.out]; exact bel_drewN bl1.out _) n2⟩
end Go.Proofs.Ytfogipdhipipfab
