/- MeanPlays: the contracts of the program and of its model, and the walk. -/
import Derived.Test.YtfogipdhipipfaaSkI
import Derived.Test.YtfogipdhipipfaaSkN
namespace Go.Proofs.Ytfogipdhipipfaa
set_option linter.unusedSimpArgs false
open Go.ChangeShapes Go.WideShapes Go.ChangeAt Go.RowKit
set_option linter.unusedVariables false

def mn1 (H T G P : Nat) : Int := if H = T then (P : Int) * ((G : Int) - (P : Int)) else ((pmN H T G P).1 : Int)
def mn2 (H T G P : Nat) : Int := if H = T then 1 else ((pmN H T G P).2 : Int)
def ansMN (h o p g : Int) : Value := if csG h o p g then .tuple #[.int .i64 (mn1 h.toNat (o - h).toNat g.toNat p.toNat), .int .i64 (mn2 h.toNat (o - h).toNat g.toNat p.toNat), .bool true] else failV
theorem ansMN_form (h o p g : Int) : ∃ (x y : Int) (ok : Bool), ansMN h o p g = .tuple #[.int .i64 x, .int .i64 y, .bool ok] := if_form _ ⟨_, _, true, rfl⟩ failV_form
theorem ansMN_no {h o p g : Int} (a : csG h o p g = false) : ansMN h o p g = .tuple #[.int .i64 0, .int .i64 0, .bool false] := by unfold ansMN; rw [a]; rfl
theorem ansMN_yes {H T G P : Nat} {o : Int} (a : csG H o P G = true) (hT : o - (H : Int) = (T : Int)) : ansMN H o P G = .tuple #[.int .i64 (mn1 H T G P), .int .i64 (mn2 H T G P), .bool true] := by
  unfold ansMN
  rw [a, hT]
  simp
theorem chkM_at {H T G P : Nat} (h1 : 1 ≤ H) (t1 : 1 ≤ T) (ht : H + T ≤ 10) (g1 : 1 ≤ G) (g16 : G ≤ 16) (hP : P ≤ G) :
    (H = T → lwN H H T = lwN T H T) ∧ (¬ H = T → ¬ lwN H H T = lwN T H T ∧ smN H T G P = pmN H T G P) ∧ (H ≤ T → (G : Int) * gsI H T G P ≤ P * gsI H T G G) ∧ (¬ H ≤ T → (P : Int) * gsI H T G G ≤ G * gsI H T G P) := by
  have a := allG_at all_chkM h1 t1 ht g1 g16 hP
  unfold chkM at a
  rw [Bool.and_eq_true] at a
  obtain ⟨a, b⟩ := a
  refine ⟨fun e => ?_, fun e => ?_, fun e => ?_, fun e => ?_⟩
  · rw [if_pos (by simpa using e)] at a
    exact of_decide_eq_true a
  · rw [if_neg (by simpa using e), Bool.and_eq_true] at a
    exact ⟨of_decide_eq_true a.1, by simpa using a.2⟩
  · rw [if_pos e] at b
    have := of_decide_eq_true b
    unfold gsI
    rw [← Int.natCast_mul, ← Int.natCast_mul]
    omega
  · rw [if_neg e] at b
    have := of_decide_eq_true b
    unfold gsI
    rw [← Int.natCast_mul, ← Int.natCast_mul]
    omega
theorem skMost_any (a b : Int) (w : World) :
    Calls Try.prog 69 #[.int .i64 a, .int .i64 b] w fun e w' => e = .returned (.int .i64 (if b < a then a else b)) ∧ w = w' := by
  by_cases h : b < a
  · rw [if_pos h]
    go_enter Try.func69, Try.ntmps69
    go_wp2
    go_ret
    exact ⟨rfl, rfl⟩
  · rw [if_neg h]
    go_enter Try.func69, Try.ntmps69
    go_wp2
    go_ret
    exact ⟨rfl, rfl⟩
theorem skAbs_any (x : Int) (w : World) (h1 : -1000000000000000000 ≤ x) (h2 : x ≤ 1000000000000000000) : Calls Try.prog 50 #[.int .i64 x] w fun e w' => e = .returned (.int .i64 (x.natAbs : Int)) ∧ w = w' := by
  have hw : IntKind.i64.wrap (-x) = -x := IntWalk.i64_in _ (by omega)
  have e1 : (if x < -x then -x else x) = (x.natAbs : Int) := by split <;> omega
  have e2 : (if -x < x then x else -x) = (x.natAbs : Int) := by split <;> omega
  go_enter Try.func50, Try.ntmps50
  go_wp2_with fail
  refine (skMost_any _ _ _).mono ?_
  rintro e w1 ⟨rfl, rfl⟩
  first | rw [e1] | rw [e2]
  go_wp2
  go_ret
  exact ⟨rfl, rfl⟩
theorem mn_of {H T G P : Nat} {o L D : Int} (hne : ¬ H = T) (ho : o = (H : Int) + (T : Int)) (hL : ((difN (P * gsN H T G G) (G * gsN H T G P) : Nat) : Int) = L) (hD : ((difN T H : Nat) : Int) = D) :
    mn1 H T G P = low (o * L) (o * L) (D * gsI H T G G) ∧ mn2 H T G P = low (D * gsI H T G G) (o * L) (D * gsI H T G G) := by
  have e1 : (((H + T) * difN (P * gsN H T G G) (G * gsN H T G P) : Nat) : Int) = o * L := by rw [Int.natCast_mul, hL, ho, Int.natCast_add]
  have e2 : ((difN T H * gsN H T G G : Nat) : Int) = D * gsI H T G G := by rw [Int.natCast_mul, hD]; rfl
  rw [← e1, ← e2, low_cast, low_cast]
  unfold mn1 mn2
  rw [if_neg hne, if_neg hne]
  exact ⟨rfl, rfl⟩
theorem h23_start {w W : World} {k l A G : Nat} {a b c d x : Value} (p : Box2 W k a b) (q : Box2 W l c d) (r : W.cell? ⟨A, G, none⟩ = some x) (s : A < W.heap.size) (z : Below w.heap.size w W) : let V := W.drew
    V.cell? ⟨k, 0, none⟩ = some a ∧ V.cell? ⟨k, 1, none⟩ = some b ∧ k < V.heap.size ∧ V.cell? ⟨l, 0, none⟩ = some c ∧ V.cell? ⟨l, 1, none⟩ = some d ∧ l < V.heap.size ∧ V.cell? ⟨A, G, none⟩ = some x ∧ A < V.heap.size ∧ Below w.heap.size w V :=
  ⟨p.1, p.2.1, p.2.2, q.1, q.2.1, q.2.2, r, s, z.drew⟩
theorem h23_keep {w W w1 : World} {k l A G : Nat} {a b c d x : Value} (h : W.cell? ⟨k, 0, none⟩ = some a ∧ W.cell? ⟨k, 1, none⟩ = some b ∧ k < W.heap.size ∧ W.cell? ⟨l, 0, none⟩ = some c ∧ W.cell? ⟨l, 1, none⟩ = some d ∧ l < W.heap.size ∧ W.cell? ⟨A, G, none⟩ = some x ∧ A < W.heap.size ∧ Below w.heap.size w W) (hb : Below W.heap.size W w1) :
    w1.cell? ⟨k, 0, none⟩ = some a ∧ w1.cell? ⟨k, 1, none⟩ = some b ∧ k < w1.heap.size ∧ w1.cell? ⟨l, 0, none⟩ = some c ∧ w1.cell? ⟨l, 1, none⟩ = some d ∧ l < w1.heap.size ∧ w1.cell? ⟨A, G, none⟩ = some x ∧ A < w1.heap.size ∧ Below w.heap.size w w1 := by
  obtain ⟨h1, h2, h3, h4, h5, h6, h7, h8, h9⟩ := h
  have x1 := Box2.keep ⟨h1, h2, h3⟩ hb
  have y1 := Box2.keep ⟨h4, h5, h6⟩ hb
  exact ⟨x1.1, x1.2.1, x1.2.2, y1.1, y1.2.1, y1.2.2, (hb.cell (p := ⟨A, G, none⟩) h8).trans h7, Nat.lt_of_lt_of_le h8 hb.size, bel_trans h9 hb⟩
theorem h23_drewN {w W : World} {k l A G : Nat} {a b c d x : Value} (h : W.cell? ⟨k, 0, none⟩ = some a ∧ W.cell? ⟨k, 1, none⟩ = some b ∧ k < W.heap.size ∧ W.cell? ⟨l, 0, none⟩ = some c ∧ W.cell? ⟨l, 1, none⟩ = some d ∧ l < W.heap.size ∧ W.cell? ⟨A, G, none⟩ = some x ∧ A < W.heap.size ∧ Below w.heap.size w W) (n : Nat) : let V := W.drewN n
    V.cell? ⟨k, 0, none⟩ = some a ∧ V.cell? ⟨k, 1, none⟩ = some b ∧ k < V.heap.size ∧ V.cell? ⟨l, 0, none⟩ = some c ∧ V.cell? ⟨l, 1, none⟩ = some d ∧ l < V.heap.size ∧ V.cell? ⟨A, G, none⟩ = some x ∧ A < V.heap.size ∧ Below w.heap.size w V := by
  obtain ⟨h1, h2, h3, h4, h5, h6, h7, h8, h9⟩ := h
  exact ⟨h1, h2, h3, h4, h5, h6, h7, h8, bel_drewN h9 n⟩
theorem difN_nat (a b : Nat) : ((a : Int) - (b : Int)).natAbs = difN a b := by unfold difN; omega
theorem mul_in {a b A B : Nat} (h : a ≤ A) (k : b ≤ B) : 0 ≤ (a : Int) * (b : Int) ∧ (a : Int) * (b : Int) ≤ ((A * B : Nat) : Int) := by
  have := Nat.mul_le_mul h k
  rw [← Int.natCast_mul]
  omega
set_option maxRecDepth 100000 in
set_option maxHeartbeats 3200000 in
theorem specMN_any (h o p g : Int) (w : World) :
    Calls Try.prog 23 #[cn h o, sk p g] w fun e w' => e = .returned (ansMN h o p g) ∧ Below w.heap.size w w' := by
  cases hc : csG h o p g
  · rw [ansMN_no hc]
    have bc0 := Lib.hid ((Box2.new w (.int .i64 h) (.int .i64 o) 32).keep (bel_alloc (Below.refl _ (w.alloc (.cells #[.int .i64 h, .int .i64 o] 32))) (.cells #[.int .i64 p, .int .i64 g] 25)))
    have bs0 := Lib.hid (Box2.new (w.alloc (.cells #[.int .i64 h, .int .i64 o] 32)) (.int .i64 p) (.int .i64 g) 25)
    have bl0 := Lib.hid (bel_trans (bel_alloc (Below.refl _ w) (.cells #[.int .i64 h, .int .i64 o] 32)) (bel_alloc (Below.refl _ (w.alloc (.cells #[.int .i64 h, .int .i64 o] 32))) (.cells #[.int .i64 p, .int .i64 g] 25)))
    rw [← size1] at bs0
    obtain ⟨cc0, cd0, ck0⟩ := bc0.out
    obtain ⟨cs0, ct0, cl0⟩ := bs0.out
    go_enter Try.func23, Try.ntmps23
    go_wp2_with fail
    refine (skAsked_any _ _ _ _ _).mono ?_
    rintro e w1 ⟨rfl, hb1⟩
    rw [hc]
    go_wp2_with fail
    go_ret3
    exact ⟨rfl, bel_trans bl0.out hb1⟩
  · skip
    obtain ⟨H, T, G, P, rfl, hT, rfl, rfl, h1, t1, ht, g1, g16, hP⟩ := cs_nat hc
    rw [ansMN_yes hc hT]
    have bc0 := Lib.hid ((Box2.new w (.int .i64 (H : Int)) (.int .i64 o) 32).keep (bel_alloc (Below.refl _ (w.alloc (.cells #[.int .i64 (H : Int), .int .i64 o] 32))) (.cells #[.int .i64 (P : Int), .int .i64 (G : Int)] 25)))
    have bs0 := Lib.hid (Box2.new (w.alloc (.cells #[.int .i64 (H : Int), .int .i64 o] 32)) (.int .i64 (P : Int)) (.int .i64 (G : Int)) 25)
    have bl0 := Lib.hid (bel_trans (bel_alloc (Below.refl _ w) (.cells #[.int .i64 (H : Int), .int .i64 o] 32)) (bel_alloc (Below.refl _ (w.alloc (.cells #[.int .i64 (H : Int), .int .i64 o] 32))) (.cells #[.int .i64 (P : Int), .int .i64 (G : Int)] 25)))
    rw [← size1] at bs0
    obtain ⟨cc0, cd0, ck0⟩ := bc0.out
    obtain ⟨cs0, ct0, cl0⟩ := bs0.out
    have hgo := Lib.hid (fun W => skGoal_any H T G P o W hT h1 t1 ht g1 g16 hP)
    have hco := Lib.hid (fun W => skCoin_any H T o W hT h1 t1 ht)
    obtain ⟨k1, k2, k3, k4, k5, k6, k7, k8, k9, k10, k11⟩ := chkG_at h1 t1 ht g1 g16 hP
    obtain ⟨m1, m2, _, _⟩ := chkM_at h1 t1 ht g1 g16 hP
    clear k1 k2 k3 k4 k6 k7 k8 hT
    by_cases hHT : H = T
    · rw [show mn1 H T G P = (P : Int) * ((G : Int) - (P : Int)) from by unfold mn1; rw [if_pos hHT], show mn2 H T G P = 1 from by unfold mn2; rw [if_pos hHT]]
      have e := m1 hHT
      rw [e] at hco
      clear e m1 m2 hHT hgo k5 k9 k10 k11
      generalize lwN T H T = q at *
      have hw1 : IntKind.i64.wrap ((G : Int) - (P : Int)) = (G : Int) - (P : Int) := IntWalk.i64_in _ (by omega)
      have hb := mul_in (a := P) (b := G - P) (A := 16) (B := 16) (by omega) (by omega)
      rw [show ((G - P : Nat) : Int) = (G : Int) - (P : Int) from by omega] at hb
      have hw2 : IntKind.i64.wrap ((P : Int) * ((G : Int) - (P : Int))) = (P : Int) * ((G : Int) - (P : Int)) := IntWalk.i64_in _ (by omega)
      clear hb
      go_enter Try.func23, Try.ntmps23
      go_wp2_with fail
      refine (skAsked_any _ _ _ _ _).mono ?_
      rintro e w1 ⟨rfl, hb1⟩
      rw [hc]
      have bc1 := Lib.hid (bc0.out.keep hb1)
      have bs1 := Lib.hid (bs0.out.keep hb1)
      have bl1 := Lib.hid (bel_trans bl0.out hb1)
      clear hb1
      obtain ⟨cc1, cd1, ck1⟩ := bc1.out
      obtain ⟨cs1, ct1, cl1⟩ := bs1.out
      go_wp2_with fail
      refine (hco.out _).mono ?_
      rintro e w2 ⟨rfl, hb2⟩
      have bc2 := Lib.hid (bc1.out.keep hb2)
      have bs2 := Lib.hid (bs1.out.keep hb2)
      have bl2 := Lib.hid (bel_trans bl1.out hb2)
      clear hb2
      obtain ⟨cc2, cd2, ck2⟩ := bc2.out
      obtain ⟨cs2, ct2, cl2⟩ := bs2.out
      go_wp2_with fail
      go_ret3
      exact ⟨rfl, bl2.out⟩
    · rw [show mn1 H T G P = ((pmN H T G P).1 : Int) from by unfold mn1; rw [if_neg hHT], show mn2 H T G P = ((pmN H T G P).2 : Int) from by unfold mn2; rw [if_neg hHT]]
      obtain ⟨hne, hsm⟩ := m2 hHT
      rw [← hsm]
      clear m1 m2 hHT hsm
      have hpl := lwN_le H H T
      have hql := lwN_le T H T
      have hpp := lwN_posl (a := H) (b := T) h1
      have hqp := lwN_pos (a := H) (b := T) t1
      obtain ⟨N, hN⟩ : ∃ N, N = (sgN H T G P).1 := ⟨_, rfl⟩
      obtain ⟨D, hD⟩ : ∃ D, D = (sgN H T G P).2 := ⟨_, rfl⟩
      have e1 : sg1 H T G P = (N : Int) := by rw [hN]; rfl
      have e2 : sg2 H T G P = (D : Int) := by rw [hD]; rfl
      rw [e1, e2] at hgo k5
      rw [e1] at k9
      rw [e2] at k10 k11
      clear e1 e2
      have hfin : smN H T G P = (lwN (lwN (difN (N * G) (D * P)) (difN (N * G) (D * P)) (difN (lwN H H T) (lwN T H T))) (lwN (difN (N * G) (D * P)) (difN (N * G) (D * P)) (difN (lwN H H T) (lwN T H T))) (lwN D (lwN H H T + lwN T H T) D) * lwN (lwN (lwN H H T + lwN T H T) (lwN H H T + lwN T H T) D) (lwN (lwN H H T + lwN T H T) (lwN H H T + lwN T H T) D) (lwN (difN (lwN H H T) (lwN T H T)) (difN (N * G) (D * P)) (difN (lwN H H T) (lwN T H T))), lwN (lwN (difN (lwN H H T) (lwN T H T)) (difN (N * G) (D * P)) (difN (lwN H H T) (lwN T H T))) (lwN (lwN H H T + lwN T H T) (lwN H H T + lwN T H T) D) (lwN (difN (lwN H H T) (lwN T H T)) (difN (N * G) (D * P)) (difN (lwN H H T) (lwN T H T))) * lwN (lwN D (lwN H H T + lwN T H T) D) (lwN (difN (N * G) (D * P)) (difN (N * G) (D * P)) (difN (lwN H H T) (lwN T H T))) (lwN D (lwN H H T + lwN T H T) D)) := by rw [hN, hD]; rfl
      generalize smN H T G P = R at *
      clear hN hD
      generalize lwN H H T = p at *
      generalize lwN T H T = q at *
      have hd1 : 1 ≤ difN p q := by unfold difN; omega
      have hd2 : difN p q ≤ 9 := by unfold difN; omega
      have hg1 : difN (N * G) (D * P) ≤ 3840000000000000 := by
        have a := Nat.mul_le_mul (show N ≤ 240000000000000 by omega) g16
        have b := Nat.mul_le_mul (show D ≤ 240000000000000 by omega) (Nat.le_trans hP g16)
        unfold difN
        omega
      have hng := mul_in (a := N) (b := G) (A := 240000000000000) (B := 16) (by omega) g16
      have hdp := mul_in (a := D) (b := P) (A := 240000000000000) (B := 16) (by omega) (by omega)
      have hw1 : IntKind.i64.wrap ((N : Int) * (G : Int)) = (N : Int) * (G : Int) := IntWalk.i64_in _ (by omega)
      have hw2 : IntKind.i64.wrap ((D : Int) * (P : Int)) = (D : Int) * (P : Int) := IntWalk.i64_in _ (by omega)
      have hw3 : IntKind.i64.wrap ((N : Int) * (G : Int) - (D : Int) * (P : Int)) = (N : Int) * (G : Int) - (D : Int) * (P : Int) := IntWalk.i64_in _ (by omega)
      have hw4 : IntKind.i64.wrap ((p : Int) - (q : Int)) = (p : Int) - (q : Int) := IntWalk.i64_in _ (by omega)
      have hw5 : IntKind.i64.wrap ((p : Int) + (q : Int)) = (p : Int) + (q : Int) := IntWalk.i64_in _ (by omega)
      have hA1 := Lib.hid (fun W => skAbs_any ((N : Int) * (G : Int) - (D : Int) * (P : Int)) W (by omega) (by omega))
      have hA2 := Lib.hid (fun W => skAbs_any ((p : Int) - (q : Int)) W (by omega) (by omega))
      rw [← Int.natCast_mul, ← Int.natCast_mul, difN_nat, Int.natCast_mul, Int.natCast_mul] at hA1
      rw [difN_nat] at hA2
      generalize difN (N * G) (D * P) = X at *
      generalize difN p q = Y at *
      have hC1 := Lib.hid (fun W => cnLow_big (X : Int) (Y : Int) W (by omega) (by omega) (by omega) (by omega))
      have hC2 := Lib.hid (fun W => cnLow_big ((p : Int) + (q : Int)) (D : Int) W (by omega) (by omega) (by omega) (by omega))
      rw [← Int.natCast_add, low_cast, low_cast, Int.natCast_add] at hC2
      rw [low_cast, low_cast] at hC1
      have bA := lwN_le X X Y
      have bB := lwN_pos (a := X) (b := Y) hd1
      have bB2 := lwN_le Y X Y
      have bU := lwN_le (p + q) (p + q) D
      have bE := lwN_pos (a := p + q) (b := D) (by omega)
      have bE2 := lwN_le D (p + q) D
      generalize lwN X X Y = A at *
      generalize lwN Y X Y = B at *
      generalize lwN (p + q) (p + q) D = U at *
      generalize lwN D (p + q) D = E at *
      have hC3 := Lib.hid (fun W => cnLow_big (A : Int) (E : Int) W (by omega) (by omega) (by omega) (by omega))
      have hC4 := Lib.hid (fun W => cnLow_big (U : Int) (B : Int) W (by omega) (by omega) (by omega) (by omega))
      rw [low_cast, low_cast] at hC3 hC4
      have z1 := lwN_le A A E
      have z2 := lwN_le E A E
      have z3 := lwN_le U U B
      have z4 := lwN_le B U B
      generalize lwN A A E = A2 at *
      generalize lwN E A E = E2 at *
      generalize lwN U U B = U2 at *
      generalize lwN B U B = B2 at *
      have y1 := mul_in (a := A2) (b := U2) (A := 3840000000000000) (B := 10) (by omega) (by omega)
      have y2 := mul_in (a := B2) (b := E2) (A := 9) (B := 240000000000000) (by omega) (by omega)
      have hw6 : IntKind.i64.wrap ((A2 : Int) * (U2 : Int)) = (A2 : Int) * (U2 : Int) := IntWalk.i64_in _ (by omega)
      have hw7 : IntKind.i64.wrap ((B2 : Int) * (E2 : Int)) = (B2 : Int) * (E2 : Int) := IntWalk.i64_in _ (by omega)
      have f1 : ((R.1 : Nat) : Int) = (A2 : Int) * (U2 : Int) := by rw [hfin]; exact Int.natCast_mul _ _
      have f2 : ((R.2 : Nat) : Int) = (B2 : Int) * (E2 : Int) := by rw [hfin]; exact Int.natCast_mul _ _
      rw [f1, f2]
      have hneb : ((p : Int) == (q : Int)) = false := by simpa using (show ¬ (p : Int) = (q : Int) by omega)
      clear f1 f2 hfin hng hdp y1 y2 z1 z2 z3 z4 bA bB bB2 bU bE bE2 hd1 hd2 hg1 hne k5 k9 k10 k11 hpl hql hpp hqp
      go_enter Try.func23, Try.ntmps23
      go_wp2_with fail
      refine (skAsked_any _ _ _ _ _).mono ?_
      rintro e w1 ⟨rfl, hb1⟩
      rw [hc]
      have bc1 := Lib.hid (bc0.out.keep hb1)
      have bs1 := Lib.hid (bs0.out.keep hb1)
      have bl1 := Lib.hid (bel_trans bl0.out hb1)
      clear hb1
      obtain ⟨cc1, cd1, ck1⟩ := bc1.out
      obtain ⟨cs1, ct1, cl1⟩ := bs1.out
      go_wp2_with fail
      refine (hco.out _).mono ?_
      rintro e w2 ⟨rfl, hb2⟩
      have bc2 := Lib.hid (bc1.out.keep hb2)
      have bs2 := Lib.hid (bs1.out.keep hb2)
      have bl2 := Lib.hid (bel_trans bl1.out hb2)
      clear hb2
      obtain ⟨cc2, cd2, ck2⟩ := bc2.out
      obtain ⟨cs2, ct2, cl2⟩ := bs2.out
      go_wp2_with fail
      refine (hgo.out _).mono ?_
      rintro e w3 ⟨rfl, hb3⟩
      have bc3 := Lib.hid (bc2.out.keep hb3)
      have bs3 := Lib.hid (bs2.out.keep hb3)
      have bl3 := Lib.hid (bel_trans bl2.out hb3)
      clear hb3
      obtain ⟨cc3, cd3, ck3⟩ := bc3.out
      obtain ⟨cs3, ct3, cl3⟩ := bs3.out
      go_wp2_with fail
      refine (hA1.out _).mono ?_
      rintro e w4 ⟨rfl, rfl⟩
      go_wp2_with fail
      refine (hA2.out _).mono ?_
      rintro e w4 ⟨rfl, rfl⟩
      go_wp2_with fail
      refine (hC1.out _).mono ?_
      rintro e w4 ⟨rfl, n1, rfl⟩
      go_wp2_with fail
      refine (hC2.out _).mono ?_
      rintro e w4 ⟨rfl, n2, rfl⟩
      go_wp2_with fail
      refine (hC3.out _).mono ?_
      rintro e w4 ⟨rfl, n3, rfl⟩
      go_wp2_with fail
      refine (hC4.out _).mono ?_
      rintro e w4 ⟨rfl, n4, rfl⟩
      go_wp2_with fail
      go_ret3
      exact ⟨rfl, bel_drewN bl3.out _⟩

set_option maxRecDepth 100000 in
set_option maxHeartbeats 3200000 in
theorem implMN_any (h o p g : Int) (w : World) :
    Calls Try.prog 24 #[cn h o, sk p g] w fun e w' => e = .returned (ansMN h o p g) ∧ Below w.heap.size w w' := by
  cases hc : csG h o p g
  · rw [ansMN_no hc]
    have bc0 := Lib.hid ((Box2.new w (.int .i64 h) (.int .i64 o) 32).keep (bel_alloc (Below.refl _ (w.alloc (.cells #[.int .i64 h, .int .i64 o] 32))) (.cells #[.int .i64 p, .int .i64 g] 25)))
    have bs0 := Lib.hid (Box2.new (w.alloc (.cells #[.int .i64 h, .int .i64 o] 32)) (.int .i64 p) (.int .i64 g) 25)
    have bl0 := Lib.hid (bel_trans (bel_alloc (Below.refl _ w) (.cells #[.int .i64 h, .int .i64 o] 32)) (bel_alloc (Below.refl _ (w.alloc (.cells #[.int .i64 h, .int .i64 o] 32))) (.cells #[.int .i64 p, .int .i64 g] 25)))
    rw [← size1] at bs0
    obtain ⟨cc0, cd0, ck0⟩ := bc0.out
    obtain ⟨cs0, ct0, cl0⟩ := bs0.out
    cases h1 : coinG h o
    · go_enter Try.func24, Try.ntmps24
      go_wp2_with fail
      refine (implIsCoin_any _ _ _).mono ?_
      rintro e w1 ⟨rfl, hb1⟩
      rw [h1]
      go_wp2_with fail
      go_ret3
      exact ⟨rfl, bel_trans bl0.out hb1⟩
    · have h2 : skG p g = false := by unfold csG at hc; rw [h1] at hc; exact hc
      go_enter Try.func24, Try.ntmps24
      go_wp2_with fail
      refine (implIsCoin_any _ _ _).mono ?_
      rintro e w1 ⟨rfl, hb1⟩
      rw [h1]
      have bc1 := Lib.hid (bc0.out.keep hb1)
      have bs1 := Lib.hid (bs0.out.keep hb1)
      have bl1 := Lib.hid (bel_trans bl0.out hb1)
      clear hb1
      obtain ⟨cc1, cd1, ck1⟩ := bc1.out
      obtain ⟨cs1, ct1, cl1⟩ := bs1.out
      go_wp2_with fail
      refine (implAreStakes_any _ _ _).mono ?_
      rintro e w2 ⟨rfl, hb2⟩
      rw [h2]
      go_wp2_with fail
      go_ret3
      exact ⟨rfl, bel_trans bl1.out hb2⟩
  · have hc1 : coinG h o = true := by unfold csG at hc; rw [Bool.and_eq_true] at hc; exact hc.1
    have hc2 : skG p g = true := by unfold csG at hc; rw [Bool.and_eq_true] at hc; exact hc.2
    obtain ⟨H, T, G, P, rfl, hT, rfl, rfl, h1, t1, ht, g1, g16, hP⟩ := cs_nat hc
    rw [ansMN_yes hc hT]
    have bc0 := Lib.hid ((Box2.new w (.int .i64 (H : Int)) (.int .i64 o) 32).keep (bel_alloc (Below.refl _ (w.alloc (.cells #[.int .i64 (H : Int), .int .i64 o] 32))) (.cells #[.int .i64 (P : Int), .int .i64 (G : Int)] 25)))
    have bs0 := Lib.hid (Box2.new (w.alloc (.cells #[.int .i64 (H : Int), .int .i64 o] 32)) (.int .i64 (P : Int)) (.int .i64 (G : Int)) 25)
    have bl0 := Lib.hid (bel_trans (bel_alloc (Below.refl _ w) (.cells #[.int .i64 (H : Int), .int .i64 o] 32)) (bel_alloc (Below.refl _ (w.alloc (.cells #[.int .i64 (H : Int), .int .i64 o] 32))) (.cells #[.int .i64 (P : Int), .int .i64 (G : Int)] 25)))
    rw [← size1] at bs0
    obtain ⟨cc0, cd0, ck0⟩ := bc0.out
    obtain ⟨cs0, ct0, cl0⟩ := bs0.out
    have hgp := Lib.hid (fun W => goalParts_any H T G o W hc1 hT g1 g16)
    have hta : Hid (∀ W : World, Calls Try.prog 51 #[cn H o] W fun e w' => e = .returned (.int .i64 (T : Int)) ∧ Below W.heap.size W w') := Lib.hid (fun W => by
      have := tails_any H o W hc1
      rw [hT] at this
      exact this)
    have hmi := Lib.hid (fun W => missing_any (P : Int) (G : Int) W hc2)
    obtain ⟨k1, k2, _⟩ := chkG_at h1 t1 ht g1 g16 hP
    obtain ⟨_, _, m3, m4⟩ := chkM_at h1 t1 ht g1 g16 hP
    obtain ⟨q1, q2⟩ := gsI_in h1 t1 ht g1 g16 P hP
    obtain ⟨q3, q4⟩ := gsI_in h1 t1 ht g1 g16 G (Nat.le_refl _)
    have ho10 : 2 ≤ o ∧ o ≤ 10 := by omega
    by_cases hHT : H = T
    · rw [show mn1 H T G P = (P : Int) * ((G : Int) - (P : Int)) from by unfold mn1; rw [if_pos hHT], show mn2 H T G P = 1 from by unfold mn2; rw [if_pos hHT]]
      have hb := mul_in (a := P) (b := G - P) (A := 16) (B := 16) (by omega) (by omega)
      rw [show ((G - P : Nat) : Int) = (G : Int) - (P : Int) from by omega] at hb
      have hw2 : IntKind.i64.wrap ((P : Int) * ((G : Int) - (P : Int))) = (P : Int) * ((G : Int) - (P : Int)) := IntWalk.i64_in _ (by omega)
      have htl := Lib.hid (fun W => told_big ((P : Int) * ((G : Int) - (P : Int))) 1 W hb.1 (by omega) (by omega) (by omega))
      have l1 : low ((P : Int) * ((G : Int) - (P : Int))) ((P : Int) * ((G : Int) - (P : Int))) 1 = (P : Int) * ((G : Int) - (P : Int)) := by unfold low; rw [Int.gcd_one_right]; simp
      have l2 : low 1 ((P : Int) * ((G : Int) - (P : Int))) 1 = 1 := by unfold low; rw [Int.gcd_one_right]; simp
      rw [l1, l2] at htl
      have heq : ((H : Int) == (T : Int)) = true := by rw [beq_iff_eq]; omega
      have heq2 : (H : Int) = (T : Int) := by omega
      have HEQ := Lib.hid heq2
      clear l1 l2 hb hT hHT hgp k1 k2 m3 m4 q1 q2 q3 q4 heq2
      obtain ⟨M, hM⟩ : ∃ M, M = (P : Int) * ((G : Int) - (P : Int)) := ⟨_, rfl⟩
      rw [← hM] at htl ⊢
      have hw3 : IntKind.i64.wrap ((P : Int) * ((G : Int) - (P : Int))) = M := by rw [hM]; exact hw2
      clear hM hw2
      go_enter Try.func24, Try.ntmps24
      go_wp2_with fail
      refine (implIsCoin_any _ _ _).mono ?_
      rintro e w1 ⟨rfl, hb1⟩
      rw [hc1]
      have bc1 := Lib.hid (bc0.out.keep hb1)
      have bs1 := Lib.hid (bs0.out.keep hb1)
      have bl1 := Lib.hid (bel_trans bl0.out hb1)
      clear hb1
      obtain ⟨cc1, cd1, ck1⟩ := bc1.out
      obtain ⟨cs1, ct1, cl1⟩ := bs1.out
      go_wp2_with fail
      refine (implAreStakes_any _ _ _).mono ?_
      rintro e w2 ⟨rfl, hb2⟩
      rw [hc2]
      have bc2 := Lib.hid (bc1.out.keep hb2)
      have bs2 := Lib.hid (bs1.out.keep hb2)
      have bl2 := Lib.hid (bel_trans bl1.out hb2)
      clear hb2
      obtain ⟨cc2, cd2, ck2⟩ := bc2.out
      obtain ⟨cs2, ct2, cl2⟩ := bs2.out
      go_wp2_with fail
      go_region_held3 (fun w' => w'.cell? ⟨w.heap.size, 0, none⟩ = some (.int .i64 (H : Int)) ∧ w'.cell? ⟨w.heap.size, 1, none⟩ = some (.int .i64 o) ∧ w.heap.size < w'.heap.size ∧ w'.cell? ⟨w.heap.size + 1, 0, none⟩ = some (.int .i64 (P : Int)) ∧ w'.cell? ⟨w.heap.size + 1, 1, none⟩ = some (.int .i64 (G : Int)) ∧ w.heap.size + 1 < w'.heap.size ∧ Below w.heap.size w w')
        (first | exact h22_start bc2.out bs2.out bl2.out | exact h22_keep (by assumption) hb3 | exact h22_drewN (by assumption) _ | assumption | go_keep)
        (first | (go_at_call 51; refine (hta.out _).mono ?_; rintro e w3 ⟨rfl, hb3⟩))
      all_goals
        obtain ⟨hbc, hbs, hbl⟩ := h22_below (by assumption)
        have bc3 := Lib.hid hbc
        have bs3 := Lib.hid hbs
        have bl3 := Lib.hid hbl
        clear hbc hbs hbl
        obtain ⟨cc3, cd3, ck3⟩ := bc3.out
        obtain ⟨cs3, ct3, cl3⟩ := bs3.out
        go_wp2_with fail
        go_region_held3 (fun w' => w'.cell? ⟨w.heap.size, 0, none⟩ = some (.int .i64 (H : Int)) ∧ w'.cell? ⟨w.heap.size, 1, none⟩ = some (.int .i64 o) ∧ w.heap.size < w'.heap.size ∧ w'.cell? ⟨w.heap.size + 1, 0, none⟩ = some (.int .i64 (P : Int)) ∧ w'.cell? ⟨w.heap.size + 1, 1, none⟩ = some (.int .i64 (G : Int)) ∧ w.heap.size + 1 < w'.heap.size ∧ Below w.heap.size w w')
          (first | exact h22_start bc3.out bs3.out bl3.out | exact h22_keep (by assumption) hb4 | exact h22_drewN (by assumption) _ | assumption | go_keep)
          (first | (go_at_call 52; refine (hmi.out _).mono ?_; rintro e w4 ⟨rfl, hb4⟩) | (go_at_call 47; refine (htl.out _).mono ?_; rintro e w5 ⟨rfl, n5, rfl⟩))
        all_goals
          obtain ⟨hbc, hbs, hbl⟩ := h22_below (by assumption)
          clear hbc hbs
          go_wp2
          go_ret3
          exact ⟨rfl, hbl⟩
    · have hzi : ((P * gsN H T G G : Nat) : Int) = (P : Int) * gsI H T G G := Int.natCast_mul _ _
      have hzj : ((G * gsN H T G P : Nat) : Int) = (G : Int) * gsI H T G P := Int.natCast_mul _ _
      have hb1 := Int.mul_le_mul (show (P : Int) ≤ 16 by omega) q4 q3 (by omega)
      have hb2 := Int.mul_le_mul (show (G : Int) ≤ 16 by omega) q2 q1 (by omega)
      have hb3 := Int.mul_nonneg (show (0 : Int) ≤ P by omega) q3
      have hb4 := Int.mul_nonneg (show (0 : Int) ≤ G by omega) q1
      have htl : ∀ W : World, Calls Try.prog 47 #[.int .i64 (o * ((P : Int) * gsI H T G G - (G : Int) * gsI H T G P)), .int .i64 (((T : Int) - (H : Int)) * gsI H T G G)] W fun e w' => e = .returned (.tuple #[.int .i64 (mn1 H T G P), .int .i64 (mn2 H T G P), .bool true]) ∧ ∃ n, w' = W.drewN n := by
        intro W
        by_cases hle : H ≤ T
        · have hm := m3 hle
          obtain ⟨e1, e2⟩ := mn_of (H := H) (T := T) (G := G) (P := P) (o := o) (L := (P : Int) * gsI H T G G - (G : Int) * gsI H T G P) (D := (T : Int) - (H : Int)) hHT (by omega) (by unfold difN; omega) (by unfold difN; omega)
          rw [e1, e2]
          have a1 := Int.mul_le_mul ho10.2 (show (P : Int) * gsI H T G G - (G : Int) * gsI H T G P ≤ 16 * 240000000000000 by omega) (by omega) (by omega)
          have a2 := Int.mul_nonneg (show (0 : Int) ≤ o by omega) (show 0 ≤ (P : Int) * gsI H T G G - (G : Int) * gsI H T G P by omega)
          have a3 := Int.mul_le_mul (show (T : Int) - (H : Int) ≤ 10 by omega) q4 q3 (by omega)
          have a4 := Int.mul_le_mul (show (1 : Int) ≤ (T : Int) - (H : Int) by omega) k2 (by omega) (by omega)
          exact told_big _ _ W a2 (by omega) (by omega) (by omega)
        · have hm := m4 hle
          obtain ⟨e1, e2⟩ := mn_of (H := H) (T := T) (G := G) (P := P) (o := o) (L := (G : Int) * gsI H T G P - (P : Int) * gsI H T G G) (D := (H : Int) - (T : Int)) hHT (by omega) (by unfold difN; omega) (by unfold difN; omega)
          rw [e1, e2]
          have a1 := Int.mul_le_mul ho10.2 (show (G : Int) * gsI H T G P - (P : Int) * gsI H T G G ≤ 16 * 240000000000000 by omega) (by omega) (by omega)
          have a2 := Int.mul_nonneg (show (0 : Int) ≤ o by omega) (show 0 ≤ (G : Int) * gsI H T G P - (P : Int) * gsI H T G G by omega)
          have a3 := Int.mul_le_mul (show (H : Int) - (T : Int) ≤ 10 by omega) q4 q3 (by omega)
          have a4 := Int.mul_le_mul (show (1 : Int) ≤ (H : Int) - (T : Int) by omega) k2 (by omega) (by omega)
          have f1 : o * ((P : Int) * gsI H T G G - (G : Int) * gsI H T G P) = -(o * ((G : Int) * gsI H T G P - (P : Int) * gsI H T G G)) := by rw [← Int.mul_neg, Int.neg_sub]
          have f2 : ((T : Int) - (H : Int)) * gsI H T G G = -(((H : Int) - (T : Int)) * gsI H T G G) := by rw [← Int.neg_mul, Int.neg_sub]
          rw [f1, f2]
          exact told_neg _ _ W a2 (by omega) (by omega) (by omega)
      have HTL := Lib.hid htl
      have hF1 := Lib.hid (gpA_at H T G G P hP)
      have hF2 := Lib.hid (gpA_at H T G G G (Nat.le_refl _))
      have b17 : (P : Int) < 17 := by omega
      have b18 : (G : Int) < 17 := by omega
      have hw1 : IntKind.i64.wrap ((P : Int) * gsI H T G G) = (P : Int) * gsI H T G G := IntWalk.i64_in _ (by omega)
      have hw2 : IntKind.i64.wrap ((G : Int) * gsI H T G P) = (G : Int) * gsI H T G P := IntWalk.i64_in _ (by omega)
      have hw3 : IntKind.i64.wrap ((P : Int) * gsI H T G G - (G : Int) * gsI H T G P) = (P : Int) * gsI H T G G - (G : Int) * gsI H T G P := IntWalk.i64_in _ (by omega)
      have hw4 : IntKind.i64.wrap ((T : Int) - (H : Int)) = (T : Int) - (H : Int) := IntWalk.i64_in _ (by omega)
      have hw5 : IntKind.i64.wrap (((T : Int) - (H : Int)) * gsI H T G G) = ((T : Int) - (H : Int)) * gsI H T G G := IntWalk.i64_in _ (by
        have a3 := Int.mul_le_mul (show (T : Int) - (H : Int) + 10 ≤ 20 by omega) q4 q3 (by omega)
        have a4 := Int.mul_nonneg (show (0 : Int) ≤ (T : Int) - (H : Int) + 10 by omega) q3
        rw [Int.add_mul] at a3 a4
        omega)
      have hw6 : IntKind.i64.wrap (o * ((P : Int) * gsI H T G G - (G : Int) * gsI H T G P)) = o * ((P : Int) * gsI H T G G - (G : Int) * gsI H T G P) := IntWalk.i64_in _ (by
        have a3 := Int.mul_le_mul ho10.2 (show (P : Int) * gsI H T G G - (G : Int) * gsI H T G P + 4000000000000000 ≤ 8000000000000000 by omega) (by omega) (by omega)
        have a4 := Int.mul_nonneg (show (0 : Int) ≤ o by omega) (show 0 ≤ (P : Int) * gsI H T G G - (G : Int) * gsI H T G P + 4000000000000000 by omega)
        rw [Int.mul_add] at a3 a4
        omega)
      have heq : ((H : Int) == (T : Int)) = false := by rw [beq_eq_false_iff_ne]; omega
      have hne2 : ¬ (H : Int) = (T : Int) := by omega
      generalize mn1 H T G P = M1 at *
      generalize mn2 H T G P = M2 at *
      clear hb1 hb2 hb3 hb4 hzi hzj hT hHT k1 k2 m3 m4 q1 q2 q3 q4 hmi htl ho10
      generalize gpA H T G G = F at *
      generalize gsI H T G P = X1 at *
      generalize gsI H T G G = X2 at *
      have heq3 : decide ((H : Int) = (T : Int)) = false := decide_eq_false hne2
      go_enter Try.func24, Try.ntmps24
      go_wp2_with fail
      refine (implIsCoin_any _ _ _).mono ?_
      rintro e w1 ⟨rfl, hb1⟩
      rw [hc1]
      have bc1 := Lib.hid (bc0.out.keep hb1)
      have bs1 := Lib.hid (bs0.out.keep hb1)
      have bl1 := Lib.hid (bel_trans bl0.out hb1)
      clear hb1
      obtain ⟨cc1, cd1, ck1⟩ := bc1.out
      obtain ⟨cs1, ct1, cl1⟩ := bs1.out
      go_wp2_with fail
      refine (implAreStakes_any _ _ _).mono ?_
      rintro e w2 ⟨rfl, hb2⟩
      rw [hc2]
      have bc2 := Lib.hid (bc1.out.keep hb2)
      have bs2 := Lib.hid (bs1.out.keep hb2)
      have bl2 := Lib.hid (bel_trans bl1.out hb2)
      clear hb2
      obtain ⟨cc2, cd2, ck2⟩ := bc2.out
      obtain ⟨cs2, ct2, cl2⟩ := bs2.out
      go_wp2_with fail
      go_region_held3 (fun w' => w'.cell? ⟨w.heap.size, 0, none⟩ = some (.int .i64 (H : Int)) ∧ w'.cell? ⟨w.heap.size, 1, none⟩ = some (.int .i64 o) ∧ w.heap.size < w'.heap.size ∧ w'.cell? ⟨w.heap.size + 1, 0, none⟩ = some (.int .i64 (P : Int)) ∧ w'.cell? ⟨w.heap.size + 1, 1, none⟩ = some (.int .i64 (G : Int)) ∧ w.heap.size + 1 < w'.heap.size ∧ Below w.heap.size w w')
        (first | exact h22_start bc2.out bs2.out bl2.out | exact h22_keep (by assumption) hb3 | exact h22_drewN (by assumption) _ | assumption | go_keep)
        (first | (go_at_call 51; refine (hta.out _).mono ?_; rintro e w3 ⟨rfl, hb3⟩))
      all_goals
        obtain ⟨hbc, hbs, hbl⟩ := h22_below (by assumption)
        have bc3 := Lib.hid hbc
        have bs3 := Lib.hid hbs
        have bl3 := Lib.hid hbl
        clear hbc hbs hbl
        obtain ⟨cc3, cd3, ck3⟩ := bc3.out
        obtain ⟨cs3, ct3, cl3⟩ := bs3.out
        go_wp2_with fail
        refine (hgp.out _).mono ?_
        rintro e w4 ⟨rfl, hb4⟩
        have hal := bel_alloc (Below.refl _ w4) (.cells (iN 17 F) 51)
        have bc4 := Lib.hid (bc3.out.keep hb4)
        have bs4 := Lib.hid (bs3.out.keep hb4)
        have bl4 := Lib.hid (bel_trans bl3.out hb4)
        clear hb4
        have bc5 := Lib.hid (bc4.out.keep hal)
        have bs5 := Lib.hid (bs4.out.keep hal)
        have bl5 := Lib.hid (bel_trans bl4.out hal)
        clear hal
        obtain ⟨cc5, cd5, ck5⟩ := bc5.out
        obtain ⟨cs5, ct5, cl5⟩ := bs5.out
        have hr := heap_alloc_new w4 (.cells (iN 17 F) 51)
        have y1 := cell_heap hr (iN_get 17 F P (by omega))
        have y2 := cell_heap hr (iN_get 17 F G (by omega))
        rw [hF1.out] at y1
        rw [hF2.out] at y2
        have hsz : w4.heap.size < (w4.alloc (.cells (iN 17 F) 51)).heap.size := by rw [← size1]; omega
        have Y2 := Lib.hid y2
        clear hr
        go_wp2_with (first
          | (refine wpList_alloc_row rfl 51 rfl (iN 17 noI) (pu_zero _) ?_)
          | (refine wpList_store_new (k := w4.heap.size) (c' := iN 17 F) rfl 51 (.tmp 7) (.tmp 34) rfl rfl ?_ ?_ (by rw [iN_size]; exact pu_info) (by rw [iN_size, iN_size]) (iN_one _ _) ?_; (· simp [Act.put, Act.eval]); (· simp [Act.put, Act.eval])))
        go_quiet (fail)
        have bl6 := Lib.hid (bel_drewN bl5.out nq)
        have bc6 := Lib.hid ((bc5.out : Box2 ((w4.alloc (.cells (iN 17 F) 51)).drewN nq) _ _ _))
        have bs6 := Lib.hid ((bs5.out : Box2 ((w4.alloc (.cells (iN 17 F) 51)).drewN nq) _ _ _))
        have Y6 : Hid (((w4.alloc (.cells (iN 17 F) 51)).drewN nq).cell? ⟨w4.heap.size, G, none⟩ = some (.int .i64 X2)) := Lib.hid Y2.out
        have S6 : Hid (w4.heap.size < ((w4.alloc (.cells (iN 17 F) 51)).drewN nq).heap.size) := Lib.hid hsz
        go_wp2_with fail
        go_region_held3 (fun w' => w'.cell? ⟨w.heap.size, 0, none⟩ = some (.int .i64 (H : Int)) ∧ w'.cell? ⟨w.heap.size, 1, none⟩ = some (.int .i64 o) ∧ w.heap.size < w'.heap.size ∧ w'.cell? ⟨w.heap.size + 1, 0, none⟩ = some (.int .i64 (P : Int)) ∧ w'.cell? ⟨w.heap.size + 1, 1, none⟩ = some (.int .i64 (G : Int)) ∧ w.heap.size + 1 < w'.heap.size ∧ w'.cell? ⟨w4.heap.size, G, none⟩ = some (.int .i64 X2) ∧ w4.heap.size < w'.heap.size ∧ Below w.heap.size w w')
          (first | exact h23_start bc6.out bs6.out Y6.out S6.out bl6.out | exact h23_keep (by assumption) hb7 | exact h23_drewN (by assumption) _ | assumption | go_keep)
          (first | (go_at_call 51; refine (hta.out _).mono ?_; rintro e w7 ⟨rfl, hb7⟩) | (go_at_call 47; refine (HTL.out _).mono ?_; rintro e w8 ⟨rfl, n8, rfl⟩))
        all_goals
          obtain ⟨_, _, _, _, _, _, _, _, hbl⟩ := (by assumption : _ ∧ _ ∧ _ ∧ _ ∧ _ ∧ _ ∧ _ ∧ _ ∧ _)
          go_wp2
          go_ret3
          exact ⟨rfl, hbl⟩

set_option maxRecDepth 100000 in
set_option maxHeartbeats 3200000 in
theorem walkExactMeanPlays (h o p g : Int) (w : World) (zh : (Lit.int .i64 h).wf = true) (zo : (Lit.int .i64 o).wf = true) (zp : (Lit.int .i64 p).wf = true) (zg : (Lit.int .i64 g).wf = true) :
    Calls Try.prog 6 #[cn h o, sk p g] w fun e w' => e = .returned (.bool true) ∧ Below w.heap.size w w' := by
  clear zh zo zp zg
  obtain ⟨x, y, ok, hv⟩ := ansMN_form h o p g
  have Hv := Lib.hid hv
  clear hv
  have hbA0 := bel_alloc (Below.refl _ w) (.cells #[.int .i64 h, .int .i64 o] 29)
  have bc_0 := Lib.hid (Box2.new w (.int .i64 h) (.int .i64 o) 29)
  have hbA1 := bel_alloc (Below.refl _ (w.alloc (.cells #[.int .i64 h, .int .i64 o] 29))) (.cells #[.int .i64 p, .int .i64 g] 23)
  have bs_0 := Lib.hid (Box2.new (w.alloc (.cells #[.int .i64 h, .int .i64 o] 29)) (.int .i64 p) (.int .i64 g) 23)
  have bc_0 := Lib.hid (bc_0.out.keep hbA1)
  rw [← size1] at bs_0
  have bl_0 := Lib.hid (bel_trans hbA0 hbA1)
  clear hbA0 hbA1
  go_enter Try.func6, Try.ntmps6
  obtain ⟨cc0, cd0, ck0⟩ := bc_0.out
  obtain ⟨cs0, ct0, cl0⟩ := bs_0.out
  go_wp2_with fail
  go_region_held3 (fun w' => w'.cell? ⟨w.heap.size, 0, none⟩ = some (.int .i64 h) ∧ w'.cell? ⟨w.heap.size, 1, none⟩ = some (.int .i64 o) ∧ w.heap.size < w'.heap.size ∧ w'.cell? ⟨w.heap.size + 1, 0, none⟩ = some (.int .i64 p) ∧ w'.cell? ⟨w.heap.size + 1, 1, none⟩ = some (.int .i64 g) ∧ w.heap.size + 1 < w'.heap.size ∧ Below w.heap.size w w')
    (first | exact h22_start bc_0.out bs_0.out bl_0.out | exact h22_keep (by assumption) hb1 | exact h22_keep (by assumption) hb2 | exact h22_keep (by assumption) hb3 | exact h22_drewN (by assumption) _ | assumption | go_keep)
    (first | (go_at_call 19; refine (toCoin_any _ _ _).mono ?_; rintro e w1 ⟨rfl, hb1⟩) | (go_at_call 16; refine (toStakes_any _ _ _).mono ?_; rintro e w2 ⟨rfl, hb2⟩) | (go_at_call 23; refine (specMN_any h o p g _).mono ?_; rw [Hv.out]; rintro e w3 ⟨rfl, hb3⟩))
  all_goals
    obtain ⟨hbc, hbs, hbl⟩ := h22_below (by assumption)
    have bc_1 := Lib.hid hbc
    have bs_1 := Lib.hid hbs
    have bl_1 := Lib.hid hbl
    clear hbc hbs hbl
    obtain ⟨cc1, cd1, ck1⟩ := bc_1.out
    obtain ⟨cs1, ct1, cl1⟩ := bs_1.out
    go_wp2_with fail
    go_region_held3 (fun w' => w'.cell? ⟨w.heap.size, 0, none⟩ = some (.int .i64 h) ∧ w'.cell? ⟨w.heap.size, 1, none⟩ = some (.int .i64 o) ∧ w.heap.size < w'.heap.size ∧ w'.cell? ⟨w.heap.size + 1, 0, none⟩ = some (.int .i64 p) ∧ w'.cell? ⟨w.heap.size + 1, 1, none⟩ = some (.int .i64 g) ∧ w.heap.size + 1 < w'.heap.size ∧ Below w.heap.size w w')
      (first | exact h22_start bc_1.out bs_1.out bl_1.out | exact h22_keep (by assumption) hb4 | exact h22_keep (by assumption) hb5 | exact h22_keep (by assumption) hb6 | exact h22_drewN (by assumption) _ | assumption | go_keep)
      (first | (go_at_call 19; refine (toCoin_any _ _ _).mono ?_; rintro e w4 ⟨rfl, hb4⟩) | (go_at_call 16; refine (toStakes_any _ _ _).mono ?_; rintro e w5 ⟨rfl, hb5⟩) | (go_at_call 24; refine (implMN_any h o p g _).mono ?_; rw [Hv.out]; rintro e w6 ⟨rfl, hb6⟩))
    all_goals
      obtain ⟨hbc, hbs, hbl⟩ := h22_below (by assumption)
      have bc_2 := Lib.hid hbc
      have bs_2 := Lib.hid hbs
      have bl_2 := Lib.hid hbl
      clear hbc hbs hbl
      obtain ⟨cc2, cd2, ck2⟩ := bc_2.out
      obtain ⟨cs2, ct2, cl2⟩ := bs_2.out
      go_wp2_with fail
      go_ret
      exact ⟨rfl, bl_2.out⟩

end Go.Proofs.Ytfogipdhipipfaa
