/- MeanSigns: the contracts of the program and of its model, and the walk. -/
import Derived.Test.YtjfcpbedmdnjcabHdV
import Derived.Test.YtjfcpbedmdnjcabHdY
namespace Go.Proofs.Ytjfcpbedmdnjcab
set_option linter.unusedSimpArgs false
open Go.ChangeShapes Go.WideShapes Go.ChangeAt Go.RowKit
set_option linter.unusedVariables false

def dnM (c r : Int) : Nat → Int
  | 0 => 1
  | k + 1 => 2 * c ^ k * r
theorem dn_in {a b c p q r : Int} (h : inR a b c) (g : inR p q r) (k : Nat) (hk : k ≤ 6) : 1 ≤ 2 * c ^ k * r ∧ 2 * c ^ k * r ≤ 20000000 := by
  have c1 : 1 ≤ c ∧ c ≤ 10 ∧ 1 ≤ r ∧ r ≤ 10 := by unfold inR at h g; omega
  obtain ⟨c1, c2, c3, c4⟩ := c1
  obtain ⟨x0, x1⟩ := pow_tn c c1 c2 k
  have t : (10 : Int) ^ k ≤ 1000000 := by
    match k, hk with
    | 0, _ | 1, _ | 2, _ | 3, _ | 4, _ | 5, _ | 6, _ => decide
  have e1 : 2 * c ^ k * 1 ≤ 2 * c ^ k * r := Int.mul_le_mul_of_nonneg_left c3 (by omega)
  have e2 : 2 * c ^ k * r ≤ 2 * c ^ k * 10 := Int.mul_le_mul_of_nonneg_left c4 (by omega)
  omega
theorem mnS_le {a b c p q r : Int} (h : inR a b c) (g : inR p q r) (k : Nat) (hk : k ≤ 6) : 0 ≤ mnS a b c p q k ∧ mnS a b c p q k ≤ 120000000 := by
  match k with
  | 0 => exact ⟨Int.le_refl _, by show (0 : Int) ≤ _; omega⟩
  | k + 1 =>
    obtain ⟨x, y⟩ := mnS_in h g k
    obtain ⟨u, v⟩ := dn_in h g k (by omega)
    have e : ((k + 1 : Nat) : Int) * (2 * c ^ k * r) ≤ 6 * (2 * c ^ k * r) := Int.mul_le_mul_of_nonneg_right (by omega) (by omega)
    omega
theorem mn_cross (a b c p q r : Int) : ∀ k, low (mnS a b c p q k) (mnS a b c p q k) (dnM c r k) * (2 * c ^ k * r) = c * mnS a b c p q k * low (dnM c r k) (mnS a b c p q k) (dnM c r k)
  | 0 => by
    show low 0 0 1 * _ = c * 0 * _
    simp [low]
  | k + 1 => by
    have c1 : low (mnS a b c p q (k + 1)) (mnS a b c p q (k + 1)) (dnM c r (k + 1)) * dnM c r (k + 1) = mnS a b c p q (k + 1) * low (dnM c r (k + 1)) (mnS a b c p q (k + 1)) (dnM c r (k + 1)) := low_cross _ _
    have e : 2 * c ^ (k + 1) * r = c * dnM c r (k + 1) := by
      show _ = c * (2 * c ^ k * r)
      rw [Int.pow_succ]
      simp only [Int.mul_assoc, Int.mul_left_comm, Int.mul_comm]
    rw [e, Int.mul_left_comm, c1, ← Int.mul_assoc]
/-- One day more: the sum of both fractions is the new one. -/
theorem mn_step {a b c p q r : Int} (h : inR a b c) (g : inR p q r) (k : Nat) (hk : k ≤ 5) :
    let S := mnS a b c p q k; let D := dnM c r k; let X := m0 a b c k * p + m1 a b c k * q; let E := 2 * c ^ k * r
    let n := low S S D; let d := low D S D; let u := low X X E; let v := low E X E
    0 ≤ n ∧ n ≤ 120000000 ∧ 1 ≤ d ∧ d ≤ 20000000 ∧ 0 ≤ u ∧ u ≤ 20000000 ∧ 1 ≤ v ∧ v ≤ 20000000 ∧ low (n * v + u * d) (n * v + u * d) (d * v) = low (mnS a b c p q (k + 1)) (mnS a b c p q (k + 1)) (dnM c r (k + 1)) ∧ low (d * v) (n * v + u * d) (d * v) = low (dnM c r (k + 1)) (mnS a b c p q (k + 1)) (dnM c r (k + 1)) := by
  intro S D X E n d u v
  obtain ⟨s0, s1⟩ : 0 ≤ S ∧ S ≤ 120000000 := mnS_le h g k (by omega)
  obtain ⟨e0, e1⟩ : 1 ≤ E ∧ E ≤ 20000000 := dn_in h g k (by omega)
  obtain ⟨x0, x1⟩ : 0 ≤ X ∧ X ≤ E := mn_term h g k
  obtain ⟨d0, d1⟩ : 1 ≤ D ∧ D ≤ 20000000 := by
    show 1 ≤ dnM c r k ∧ dnM c r k ≤ 20000000
    match k with
    | 0 => exact ⟨by show (1 : Int) ≤ 1; decide, by show (1 : Int) ≤ 20000000; decide⟩
    | k + 1 => exact dn_in h g k (by omega)
  obtain ⟨_, n0, n1⟩ : _ ∧ 0 ≤ n ∧ n ≤ S := low_le S S D s0 d0
  obtain ⟨_, u0, u1⟩ : _ ∧ 0 ≤ u ∧ u ≤ X := low_le X X E x0 e0
  obtain ⟨d2, d3⟩ : 1 ≤ d ∧ d ≤ D := low_pos2 S D s0 d0
  obtain ⟨v2, v3⟩ : 1 ≤ v ∧ v ≤ E := low_pos2 X E x0 e0
  have c1 : n * D = S * d := low_cross S D
  have c2 : u * E = X * v := low_cross X E
  have hE : n * E = c * S * d := mn_cross a b c p q r k
  have hfin : (n * v + u * d) * E = mnS a b c p q (k + 1) * (d * v) := by
    show _ = (c * S + X) * (d * v)
    rw [Int.add_mul, Int.add_mul, show n * v * E = n * E * v from by rw [Int.mul_assoc, Int.mul_comm v, ← Int.mul_assoc], hE, show u * d * E = u * E * d from by rw [Int.mul_assoc, Int.mul_comm d, ← Int.mul_assoc], c2]
    rw [show X * v * d = X * (d * v) from by rw [Int.mul_assoc, Int.mul_comm v], Int.mul_assoc (c * S)]
  have hn : 0 ≤ n * v + u * d := by
    have := Int.mul_nonneg n0 (show 0 ≤ v by omega)
    have := Int.mul_nonneg u0 (show 0 ≤ d by omega)
    omega
  have hd : 1 ≤ d * v := by
    have := Int.mul_pos (show 0 < d by omega) (show 0 < v by omega)
    omega
  obtain ⟨f0, f1⟩ := low_eq (n * v + u * d) (d * v) (mnS a b c p q (k + 1)) E hn hd (mnS_le h g (k + 1) (by omega)).1 e0 hfin
  exact ⟨n0, by omega, d2, by omega, u0, by omega, v2, by omega, f0, f1⟩
theorem low_nil (P : Int) (hP : 1 ≤ P) : low 0 0 P = 0 ∧ low P 0 P = 1 := by
  unfold low
  have e : (Int.gcd 0 P : Int) = P := by simp; omega
  rw [e]
  exact ⟨by simp, Int.ediv_self (by omega)⟩
def ansMs (a b c p q r n : Int) : Value := if goodH a b c p q r && inB n 0 6 then lowV (mnS a b c p q n.toNat) (dnM c r n.toNat) else failV
theorem ansMs_form (a b c p q r n : Int) : ∃ (x y : Int) (o : Bool), ansMs a b c p q r n = .tuple #[.int .i64 x, .int .i64 y, .bool o] := if_form _ (lowV_form _ _) failV_form

set_option maxRecDepth 100000 in
set_option maxHeartbeats 3200000 in
theorem specMs_any (a b c p q r n : Int) (w : World) (zn : (Lit.int .i64 n).wf = true) :
    Calls Try.prog 10 #[hdn a b c p q r, .int .i64 n] w fun e w' => e = .returned (ansMs a b c p q r n) ∧ Below w.heap.size w w' := by
  clear zn
  have bx := Lib.hid (Box6.new w a b c p q r 30)
  cases h : goodH a b c p q r
  · rw [show ansMs a b c p q r n = failV from by unfold ansMs; rw [h]; rfl]
    go_enter Try.func10, Try.ntmps10
    go_wp2_with fail
    refine (hdGood_any _ _ _ _ _ _ _).mono ?_
    rintro e w1 ⟨rfl, hb1⟩
    rw [h]
    go_wp2_with fail
    go_ret3
    exact ⟨rfl, bel_trans (bel_alloc (Below.refl _ _) _) hb1⟩
  cases hn : inB n 0 6
  · rw [show ansMs a b c p q r n = failV from by unfold ansMs; rw [h, hn]; rfl]
    go_enter Try.func10, Try.ntmps10
    go_wp2_with fail
    refine (hdGood_any _ _ _ _ _ _ _).mono ?_
    rintro e w1 ⟨rfl, hb1⟩
    rw [h]
    go_wp2_with fail
    refine (l1In_any _ _ _ _).mono ?_
    rintro e w9 ⟨rfl, rfl⟩
    rw [hn]
    go_wp2_with fail
    go_ret3
    exact ⟨rfl, bel_trans (bel_alloc (Below.refl _ _) _) hb1⟩
  obtain ⟨hr, hp⟩ := goodH_inV h
  have hnb := (inB_iff _ _ _).1 hn
  obtain ⟨m, rfl⟩ : ∃ m : Nat, n = m := ⟨n.toNat, by omega⟩
  have hm6 : m ≤ 6 := by omega
  rw [show ansMs a b c p q r m = lowV (mnS a b c p q m) (dnM c r m) from by unfold ansMs; rw [h, hn]; rfl]
  have HR := Lib.hid hr
  have HP := Lib.hid hp
  have hl0 : Hid (∀ k : Nat, k ≤ 9 → ∀ W : World, Calls Try.prog 23 #[chn a b c, .int .u8 100, .int .i64 (k : Int)] W fun e w' => e = .returned (.tuple #[.int .i64 (ltr a b c 100 k).1, .int .i64 (ltr a b c 100 k).2, .int .i64 (c ^ k)]) ∧ Below W.heap.size W w') := Lib.hid (fun k hk W => cnLater_any a b c 100 k W (.inl rfl) hr hk)
  have hl1 : Hid (∀ k : Nat, k ≤ 9 → ∀ W : World, Calls Try.prog 23 #[chn a b c, .int .u8 119, .int .i64 (k : Int)] W fun e w' => e = .returned (.tuple #[.int .i64 (ltr a b c 119 k).1, .int .i64 (ltr a b c 119 k).2, .int .i64 (c ^ k)]) ∧ Below W.heap.size W w') := Lib.hid (fun k hk W => cnLater_any a b c 119 k W (.inr rfl) hr hk)
  have hfin : Hid (lowV (mnS a b c p q m) (dnM c r m) = .tuple #[.int .i64 (low (mnS a b c p q m) (mnS a b c p q m) (dnM c r m)), .int .i64 (low (dnM c r m) (mnS a b c p q m) (dnM c r m)), .bool true]) := Lib.hid rfl
  rw [hfin.out]
  clear hnb hr hp
  go_enter Try.func10, Try.ntmps10
  go_wp2_with fail
  refine (hdGood_any _ _ _ _ _ _ _).mono ?_
  rintro e w1 ⟨rfl, hb1⟩
  rw [h]
  have bx1 := Lib.hid (bx.out.keep hb1)
  have bl1 := Lib.hid (bel_trans (bel_alloc (Below.refl _ w) _) hb1)
  clear hb1
  go_wp2_with fail
  refine (l1In_any _ _ _ _).mono ?_
  rintro e w9 ⟨rfl, rfl⟩
  rw [hn]
  go_wp2_with fail
  go_loopw [7, 8, 9] (fun x y i wr => ∃ k : Nat, k ≤ m ∧ i = .int .i64 k ∧ x = .int .i64 (low (mnS a b c p q k) (mnS a b c p q k) (dnM c r k)) ∧ y = .int .i64 (low (dnM c r k) (mnS a b c p q k) (dnM c r k)) ∧ Hid (Box6 wr w.heap.size a b c p q r) ∧ Below w.heap.size w wr) (fun _ _ i _ => m - (intOf i).toNat)
  case atStart =>
    refine ⟨0, by omega, rfl, ?_, ?_, bx1, bl1.out⟩
    · show Value.int .i64 0 = Value.int .i64 (low 0 0 1)
      simp [low]
    · show Value.int .i64 1 = Value.int .i64 (low 1 0 1)
      simp [low]
  case round =>
    obtain ⟨k, hk, rfl, rfl, rfl, hbx, hbl⟩ := hrel
    obtain ⟨wa, rfl⟩ : ∃ wa : World, wa = wr := ⟨_, rfl⟩
    by_cases hlt : k < m
    · obtain ⟨t0, t1, t2, t3, t4, t5, t6, t7, t8, t9⟩ := mn_step HR.out HP.out k (by omega)
      have T8 := Lib.hid t8
      have T9 := Lib.hid t9
      obtain ⟨e0, e1⟩ := dn_in HR.out HP.out k (by omega)
      obtain ⟨x0, x1⟩ := mn_term HR.out HP.out k
      obtain ⟨a0, a1, a2, a3⟩ := ltr_le HR.out 100 k (by omega)
      obtain ⟨b0, b1, b2, b3⟩ := ltr_le HR.out 119 k (by omega)
      have hq := HP.out
      obtain ⟨q1, q2, q3, q4, q5, q6⟩ := hq
      obtain ⟨u0, u1⟩ := mul_bd t0 t1 (show 0 ≤ low (2 * c ^ k * r) (m0 a b c k * p + m1 a b c k * q) (2 * c ^ k * r) by omega) t7
      obtain ⟨u2, u3⟩ := mul_bd t4 t5 (show 0 ≤ low (dnM c r k) (mnS a b c p q k) (dnM c r k) by omega) t3
      obtain ⟨u4, u5⟩ := mul_bd (show 0 ≤ low (dnM c r k) (mnS a b c p q k) (dnM c r k) by omega) t3 (show 0 ≤ low (2 * c ^ k * r) (m0 a b c k * p + m1 a b c k * q) (2 * c ^ k * r) by omega) t7
      have u6 := mul_ge1 t2 t6
      have hA := Lib.hid (hl0.out k (by omega))
      have hB := Lib.hid (hl1.out k (by omega))
      have hC : Hid (∀ W : World, Calls Try.prog 24 #[.int .i64 (m0 a b c k * p + m1 a b c k * q), .int .i64 (2 * c ^ k * r)] W fun e w' => e = .returned (.tuple #[.int .i64 (low (m0 a b c k * p + m1 a b c k * q) (m0 a b c k * p + m1 a b c k * q) (2 * c ^ k * r)), .int .i64 (low (2 * c ^ k * r) (m0 a b c k * p + m1 a b c k * q) (2 * c ^ k * r))]) ∧ ∃ n, w' = W.drewN n) := Lib.hid (fun W => cnLow_big _ _ W x0 e0 (by omega) (by omega))
      unfold m0 m1 at *
      generalize (ltr a b c 100 k).1 = A0 at *
      generalize (ltr a b c 100 k).2 = A1 at *
      generalize (ltr a b c 119 k).1 = B0 at *
      generalize (ltr a b c 119 k).2 = B1 at *
      generalize c ^ k = C at *
      obtain ⟨y0, y1⟩ := mul_bd (show 0 ≤ A0 + B0 by omega) (show A0 + B0 ≤ 2000000000 by omega) q1 (show p ≤ 10 by omega)
      obtain ⟨y2, y3⟩ := mul_bd (show 0 ≤ A1 + B1 by omega) (show A1 + B1 ≤ 2000000000 by omega) q3 (show q ≤ 10 by omega)
      have hD0 : Hid (∀ (x y : Int), 0 ≤ x → 1 ≤ y → x ≤ 100000000000000000 → y ≤ 100000000000000000 → ∀ W : World, Calls Try.prog 24 #[.int .i64 x, .int .i64 y] W fun e w' => e = .returned (.tuple #[.int .i64 (low x x y), .int .i64 (low y x y)]) ∧ ∃ n, w' = W.drewN n) := Lib.hid (fun x y h1 h2 h3 h4 W => cnLow_big x y W h1 h2 h3 h4)
      clear t8 t9
      generalize low (mnS a b c p q k) (mnS a b c p q k) (dnM c r k) = N at *
      generalize low (dnM c r k) (mnS a b c p q k) (dnM c r k) = D at *
      generalize hU : low ((A0 + B0) * p + (A1 + B1) * q) ((A0 + B0) * p + (A1 + B1) * q) (2 * C * r) = U at *
      generalize hV : low (2 * C * r) ((A0 + B0) * p + (A1 + B1) * q) (2 * C * r) = V at *
      have hD := Lib.hid (hD0.out (N * V + U * D) (D * V) (by omega) (by omega) (by omega) (by omega))
      rw [T8.out, T9.out] at hD
      clear hU hV hD0 T8 T9
      generalize hN' : low (mnS a b c p q (k + 1)) (mnS a b c p q (k + 1)) (dnM c r (k + 1)) = N' at *
      generalize hD' : low (dnM c r (k + 1)) (mnS a b c p q (k + 1)) (dnM c r (k + 1)) = D' at *
      have HN' := Lib.hid hN'
      have HD' := Lib.hid hD'
      clear hN' hD'
      have h2C : 2 * C ≤ 20000000 ∧ 0 ≤ 2 * C := by
        have h1 : 2 * C * 1 ≤ 2 * C * r ∨ 2 * C < 0 := by
          rcases Int.lt_or_le (2 * C) 0 with g | g
          · exact .inr g
          · exact .inl (Int.mul_le_mul_of_nonneg_left q5 g)
        rcases h1 with h1 | h1
        · refine ⟨by omega, ?_⟩
          rcases Int.lt_or_le (2 * C) 0 with g | g
          · have := Int.mul_nonneg (show 0 ≤ -(2 * C) by omega) (show 0 ≤ r by omega)
            rw [Int.neg_mul] at this
            omega
          · exact g
        · have := Int.mul_nonneg (show 0 ≤ -(2 * C) by omega) (show 0 ≤ r by omega)
          rw [Int.neg_mul] at this
          omega
      obtain ⟨h2a, h2b⟩ := h2C
      have hw1 : IntKind.i64.wrap (A0 + B0) = A0 + B0 := IntWalk.i64_in _ (by omega)
      have hw2 : IntKind.i64.wrap ((A0 + B0) * p) = (A0 + B0) * p := IntWalk.i64_in _ (by omega)
      have hw3 : IntKind.i64.wrap (A1 + B1) = A1 + B1 := IntWalk.i64_in _ (by omega)
      have hw4 : IntKind.i64.wrap ((A1 + B1) * q) = (A1 + B1) * q := IntWalk.i64_in _ (by omega)
      have hw5 : IntKind.i64.wrap ((A0 + B0) * p + (A1 + B1) * q) = (A0 + B0) * p + (A1 + B1) * q := IntWalk.i64_in _ (by omega)
      have hw6 : IntKind.i64.wrap (2 * C) = 2 * C := IntWalk.i64_in _ (by omega)
      have hw7 : IntKind.i64.wrap (2 * C * r) = 2 * C * r := IntWalk.i64_in _ (by omega)
      have hw8 : IntKind.i64.wrap (N * V) = N * V := IntWalk.i64_in _ (by omega)
      have hw9 : IntKind.i64.wrap (U * D) = U * D := IntWalk.i64_in _ (by omega)
      have hw10 : IntKind.i64.wrap (N * V + U * D) = N * V + U * D := IntWalk.i64_in _ (by omega)
      have hw11 : IntKind.i64.wrap (D * V) = D * V := IntWalk.i64_in _ (by omega)
      clear t0 t1 t2 t3 t4 t5 t6 t7 e0 e1 x0 x1 a0 a1 a2 a3 b0 b1 b2 b3 u0 u1 u2 u3 u4 u5 u6 y0 y1 y2 y3 h2a h2b q1 q2 q3 q4 q5 q6
      have hki : (k : Int) < (m : Int) := by omega
      obtain ⟨d0, d1, d2, d3, d4, d5, d6⟩ := hbx.out
      go_wp2_with fail
      refine (hA.out _).mono ?_
      rintro e w2 ⟨rfl, hb2⟩
      have bx2 := Lib.hid (hbx.out.keep hb2)
      have bl2 := Lib.hid (bel_trans hbl hb2)
      clear hb2 d0 d1 d2 d3 d4 d5 d6
      obtain ⟨d0, d1, d2, d3, d4, d5, d6⟩ := bx2.out
      go_wp2_with fail
      refine (hB.out _).mono ?_
      rintro e w3 ⟨rfl, hb3⟩
      have bx3 := Lib.hid (bx2.out.keep hb3)
      have bl3 := Lib.hid (bel_trans bl2.out hb3)
      clear hb3 d0 d1 d2 d3 d4 d5 d6
      obtain ⟨d0, d1, d2, d3, d4, d5, d6⟩ := bx3.out
      go_wp2_with fail
      refine (hC.out _).mono ?_
      rintro e w4 ⟨rfl, n4, rfl⟩
      go_wp2_with fail
      refine (hD.out _).mono ?_
      rintro e w5 ⟨rfl, n5, rfl⟩
      have bx5 : Hid (Box6 ((w3.drewN n4).drewN n5) w.heap.size a b c p q r) := Lib.hid ((bx3.out.drewN n4).drewN n5)
      have bl5 := Lib.hid (bel_drewN (bel_drewN bl3.out n4) n5)
      clear d0 d1 d2 d3 d4 d5 d6
      go_wp2_with fail
      exact ⟨⟨k + 1, by omega, by go_num, by rw [HN'.out], by rw [HD'.out], by simpa using bx5, by simpa using bl5.out⟩, by simp [intOf]; omega⟩
    · have hkm : k = m := by omega
      have HK := Lib.hid hkm
      clear hkm
      go_wp2_with fail
      go_ret3
      exact ⟨by rw [← HK.out]; rfl, hbl⟩

theorem followed_nil (a b c : Int) (w : World) :
    Calls Try.prog 26 #[chn a b c, .string ByteArray.empty] w fun e w' => e = .returned (.int .i64 1) ∧ Below w.heap.size w w' := by
  have hz : (ByteArray.empty : ByteArray).size = 0 := rfl
  go_enter Try.func26, Try.ntmps26
  go_wp2
  go_loop [5, 6] (fun x i => i = .int .i64 1 ∧ x = .int .i64 1) (fun _ _ => 0)
  case atStart => exact ⟨rfl, rfl⟩
  case round =>
    obtain ⟨rfl, rfl⟩ := hrel
    go_wp2
    go_ret
    exact ⟨rfl, bel_alloc (Below.refl _ _) _⟩
theorem power_none (x : Int) (w : World) :
    Calls Try.prog 28 #[.int .i64 x, .int .i64 (-1)] w fun e w' => e = .returned (.int .i64 1) ∧ w = w' := by
  go_enter Try.func28, Try.ntmps28
  go_wp2
  go_loop [5, 7] (fun x i => i = .int .i64 0 ∧ x = .int .i64 1) (fun _ _ => 0)
  case atStart => exact ⟨rfl, rfl⟩
  case round =>
    obtain ⟨rfl, rfl⟩ := hrel
    go_wp2
    go_ret
    exact ⟨rfl, rfl⟩
theorem wtN_lib (s : ByteArray) : Lib.countByte s.data.toList 119 = wtN s := rfl
theorem cvS_in {p q r : Int} (g : inR p q r) (s : ByteArray) (h6 : s.size ≤ 6) : 0 ≤ ((s.size : Int) - (wtN s : Int)) * p ∧ ((s.size : Int) - (wtN s : Int)) * p ≤ 60 ∧ 0 ≤ (wtN s : Int) * q ∧ (wtN s : Int) * q ≤ 60 := by
  have hw := wtN_le s
  obtain ⟨g1, g2, g3, g4, g5, g6⟩ := g
  obtain ⟨y0, y1⟩ := mul_bd (show 0 ≤ (s.size : Int) - (wtN s : Int) by omega) (show (s.size : Int) - (wtN s : Int) ≤ 6 by omega) g1 (show p ≤ 10 by omega)
  obtain ⟨y2, y3⟩ := mul_bd (show 0 ≤ (wtN s : Int) by omega) (show (wtN s : Int) ≤ 6 by omega) g3 (show q ≤ 10 by omega)
  omega
theorem mnF_in {a b c p q r : Int} (h : inR a b c) (g : inR p q r) (n : Nat) (hn : n ≤ 6) (i : Nat) : 0 ≤ mnF a b c p q n i ∧ mnF a b c p q n i ≤ 120000000000 := by
  have hz := rkT_size 100 119 n i
  obtain ⟨x0, x1⟩ := flw_le9 h (rkT 100 119 n i) n (by omega)
  obtain ⟨c0, c1, c2, c3⟩ := cvS_in g (rkT 100 119 n i) (by omega)
  have := mul_bd x0 x1 (show 0 ≤ cvS p q (rkT 100 119 n i) by unfold cvS; omega) (show cvS p q (rkT 100 119 n i) ≤ 120 by unfold cvS; omega)
  exact ⟨this.1, Int.le_trans this.2 (by decide)⟩
theorem h6_plain {w W : World} {k : Nat} {a b c p q r : Int} (h : Box6 W k a b c p q r) (hb : Below w.heap.size w W) : Hk6 w W k a b c p q r := by
  obtain ⟨h0, h1, h2, h3, h4, h5, h6⟩ := h
  exact ⟨h0, h1, h2, h3, h4, h5, h6, hb⟩

set_option maxRecDepth 100000 in
set_option maxHeartbeats 3200000 in
theorem implMs_any (a b c p q r n : Int) (w : World) (zn : (Lit.int .i64 n).wf = true) :
    Calls Try.prog 11 #[hdn a b c p q r, .int .i64 n] w fun e w' => e = .returned (ansMs a b c p q r n) ∧ Below w.heap.size w w' := by
  clear zn
  have bx := Lib.hid (Box6.new w a b c p q r 30)
  cases h : goodH a b c p q r
  · rw [show ansMs a b c p q r n = failV from by unfold ansMs; rw [h]; rfl]
    go_enter Try.func11, Try.ntmps11
    go_wp2_with fail
    refine (implIsHidden_any _ _ _ _ _ _ _).mono ?_
    rintro e w1 ⟨rfl, hb1⟩
    rw [h]
    go_wp2_with fail
    go_ret3
    exact ⟨rfl, bel_trans (bel_alloc (Below.refl _ _) _) hb1⟩
  by_cases n1 : n < 0
  · have hn : inB n 0 6 = false := by unfold inB; simp; omega
    rw [show ansMs a b c p q r n = failV from by unfold ansMs; rw [h, hn]; rfl]
    clear hn
    go_enter Try.func11, Try.ntmps11
    go_wp2_with fail
    refine (implIsHidden_any _ _ _ _ _ _ _).mono ?_
    rintro e w1 ⟨rfl, hb1⟩
    rw [h]
    go_wp2_with fail
    go_ret3
    exact ⟨rfl, bel_trans (bel_alloc (Below.refl _ _) _) hb1⟩
  have n2 : decide (n < 0) = false := by simpa using n1
  by_cases n3 : 6 < n
  · have hn : inB n 0 6 = false := by unfold inB; simp; omega
    rw [show ansMs a b c p q r n = failV from by unfold ansMs; rw [h, hn]; rfl]
    clear hn
    go_enter Try.func11, Try.ntmps11
    go_wp2_with fail
    refine (implIsHidden_any _ _ _ _ _ _ _).mono ?_
    rintro e w1 ⟨rfl, hb1⟩
    rw [h]
    go_wp2_with fail
    go_ret3
    exact ⟨rfl, bel_trans (bel_alloc (Below.refl _ _) _) hb1⟩
  have n4 : decide (6 < n) = false := by simpa using n3
  have hn : inB n 0 6 = true := by unfold inB; simp; omega
  obtain ⟨hr, hp⟩ := goodH_inV h
  obtain ⟨m, rfl⟩ : ∃ m : Nat, n = m := ⟨n.toNat, by omega⟩
  have hm6 : m ≤ 6 := by omega
  have hp8 := pow8 m (by omega)
  rw [show ansMs a b c p q r m = lowV (mnS a b c p q m) (dnM c r m) from by unfold ansMs; rw [h, hn]; rfl]
  have c1 : 1 ≤ c ∧ c ≤ 10 ∧ 1 ≤ r ∧ r ≤ 10 := by unfold inR at hr hp; omega
  obtain ⟨c1, c2, c3, c4⟩ := c1
  have HP := Lib.hid hp
  have HR := Lib.hid hr
  have htx : Hid (∀ j : Nat, j < 2 ^ m → ∀ W : World, Calls Try.prog 21 #[.int .i64 j, .int .i64 m, .string ⟨#[100, 119]⟩] W fun e w' => e = .returned (.string (rkT 100 119 m j)) ∧ Below W.heap.size W w') := Lib.hid (fun j hj W => textOfRank_any 100 119 m j W (by omega) hj)
  have hfl : Hid (∀ j : Nat, j < 2 ^ m → ∀ W : World, Calls Try.prog 26 #[chn a b c, .string (rkT 100 119 m j)] W fun e w' => e = .returned (.int .i64 (flw a b c (rkT 100 119 m j) m)) ∧ Below W.heap.size W w') := Lib.hid (fun j hj W => by
    have hz := rkT_size 100 119 m j
    by_cases e : m = 0
    · subst e
      exact followed_nil a b c W
    · have := followed_any a b c (rkT 100 119 m j) W hr (rkT_days m j hj) (by omega) (by omega)
      rw [hz] at this
      exact this)
  have hct : Hid (∀ (s : ByteArray) (W : World), Calls Try.prog 25 #[.string s, .string ⟨#[119]⟩] W fun e w' => e = .returned (.int .i64 (wtN s)) ∧ w' = W) := Lib.hid (fun s W => Try.strings_Count_one s 119 W)
  have hsum := Lib.hid (mean_all hr p q m)
  have hF : Hid (∀ j, 0 ≤ mnF a b c p q m j ∧ mnF a b c p q m j ≤ 120000000000) := Lib.hid (fun j => mnF_in hr hp m hm6 j)
  obtain ⟨s0, s1⟩ := mnS_le hr hp m hm6
  have hpw : Hid (∀ W : World, Calls Try.prog 28 #[.int .i64 c, .int .i64 ((m : Int) - 1)] W fun e w' => e = .returned (.int .i64 (c ^ (m - 1))) ∧ W = w') := Lib.hid (fun W => by
    by_cases e : m = 0
    · subst e
      rw [show ((0 : Nat) : Int) - 1 = -1 from rfl, show c ^ (0 - 1) = 1 from Int.pow_zero c]
      exact power_none c W
    · rw [show (m : Int) - 1 = ((m - 1 : Nat) : Int) from by omega]
      exact power_any c (m - 1) W c1 c2 (by omega))
  obtain ⟨e0, e1⟩ := dn_in hr hp (m - 1) (by omega)
  have htl : Hid (∀ W : World, Calls Try.prog 27 #[.int .i64 (mnS a b c p q m), .int .i64 (2 * c ^ (m - 1) * r)] W fun e w' => e = .returned (.tuple #[.int .i64 (low (mnS a b c p q m) (mnS a b c p q m) (dnM c r m)), .int .i64 (low (dnM c r m) (mnS a b c p q m) (dnM c r m)), .bool true]) ∧ ∃ n, w' = W.drewN n) := Lib.hid (fun W => by
    have ht := told_big (mnS a b c p q m) (2 * c ^ (m - 1) * r) W s0 e0 (by omega) (by omega)
    by_cases e : m = 0
    · subst e
      obtain ⟨l0, l1⟩ := low_nil (2 * c ^ (0 - 1) * r) e0
      obtain ⟨l2, l3⟩ := low_nil 1 (by omega)
      change Calls _ _ _ _ (fun e w' => e = .returned (.tuple #[.int .i64 (low 0 0 (2 * c ^ (0 - 1) * r)), .int .i64 (low (2 * c ^ (0 - 1) * r) 0 (2 * c ^ (0 - 1) * r)), .bool true]) ∧ ∃ n, w' = W.drewN n) at ht
      rw [l0, l1] at ht
      show Calls _ _ _ _ (fun e w' => e = .returned (.tuple #[.int .i64 (low 0 0 1), .int .i64 (low 1 0 1), .bool true]) ∧ ∃ n, w' = W.drewN n)
      rw [l2, l3]
      exact ht
    · obtain ⟨k, rfl⟩ : ∃ k, m = k + 1 := ⟨m - 1, by omega⟩
      exact ht)
  have hfin : Hid (lowV (mnS a b c p q m) (dnM c r m) = .tuple #[.int .i64 (low (mnS a b c p q m) (mnS a b c p q m) (dnM c r m)), .int .i64 (low (dnM c r m) (mnS a b c p q m) (dnM c r m)), .bool true]) := Lib.hid rfl
  rw [hfin.out]
  clear hfin
  generalize low (mnS a b c p q m) (mnS a b c p q m) (dnM c r m) = R0 at *
  generalize low (dnM c r m) (mnS a b c p q m) (dnM c r m) = R1 at *
  generalize c ^ (m - 1) = C at *
  have hC : 0 ≤ 2 * C ∧ 2 * C ≤ 20000000 := by
    have h0 : 2 * C * 1 ≤ 2 * C * r ∨ 2 * C < 0 := by
      rcases Int.lt_or_le (2 * C) 0 with g | g
      · exact .inr g
      · exact .inl (Int.mul_le_mul_of_nonneg_left c3 g)
    have h1 : 0 ≤ 2 * C := by
      rcases Int.lt_or_le (2 * C) 0 with g | g
      · have := Int.mul_nonneg (show 0 ≤ -(2 * C) by omega) (show 0 ≤ r by omega)
        rw [Int.neg_mul] at this
        omega
      · exact g
    omega
  obtain ⟨hC0, hC1⟩ := hC
  have hwa : IntKind.i64.wrap (2 * C) = 2 * C := IntWalk.i64_in _ (by omega)
  have hwb : IntKind.i64.wrap (2 * C * r) = 2 * C * r := IntWalk.i64_in _ (by omega)
  have hwc : IntKind.i64.wrap ((m : Int) - 1) = (m : Int) - 1 := IntWalk.i64_in _ (by omega)
  obtain ⟨N, hN⟩ : ∃ N, N = 2 ^ m := ⟨_, rfl⟩
  have hwr : (2 : Int) ^ m = (N : Int) := by rw [hN]; simp
  rw [← hN] at hp8 htx hfl hsum
  clear hr hp hN n1 n3
  have hsl : (⟨#[100, 119]⟩ : ByteArray).extract 1 2 = ⟨#[119]⟩ := rfl
  go_enter Try.func11, Try.ntmps11
  go_wp2_with fail
  refine (implIsHidden_any _ _ _ _ _ _ _).mono ?_
  rintro e w1 ⟨rfl, hb1⟩
  rw [h]
  have bx1 := Lib.hid (bx.out.keep hb1)
  have bl1 := Lib.hid (bel_trans (bel_alloc (Below.refl _ w) _) hb1)
  clear hb1
  go_wp2_with fail
  go_loopw [7, 24] (fun x i wr => ∃ j : Nat, j ≤ N ∧ i = .int .i64 j ∧ x = .int .i64 (sumU (mnF a b c p q m) j) ∧ Hid (Box6 wr w.heap.size a b c p q r) ∧ Below w.heap.size w wr) (fun _ i _ => N - (intOf i).toNat)
  case atStart => exact ⟨0, by omega, rfl, rfl, bx1, bl1.out⟩
  case round =>
    obtain ⟨j, hj, rfl, rfl, hbx, hbl⟩ := hrel
    obtain ⟨wa, rfl⟩ : ∃ wa : World, wa = wr := ⟨_, rfl⟩
    obtain ⟨b0, b1⟩ := sumU_in (mnF a b c p q m) 120000000000 j (fun i _ => hF.out i)
    by_cases hlt : j < N
    · have hT := Lib.hid (htx.out j hlt)
      have hG := Lib.hid (hfl.out j hlt)
      have hK := Lib.hid (hct.out (rkT 100 119 m j))
      have hji : (j : Int) < (N : Int) := by omega
      have hz := rkT_size 100 119 m j
      obtain ⟨v0, v1, v2, v3⟩ := cvS_in HP.out (rkT 100 119 m j) (by omega)
      obtain ⟨f0, f1⟩ := flw_le9 HR.out (rkT 100 119 m j) m (by omega)
      have hwt := wtN_le (rkT 100 119 m j)
      have hss := Lib.hid (sumU_succ (mnF a b c p q m) j)
      have hmn : mnF a b c p q m j = flw a b c (rkT 100 119 m j) m * (((m : Int) - (wtN (rkT 100 119 m j) : Int)) * p + (wtN (rkT 100 119 m j) : Int) * q) := by
        unfold mnF cvS
        rw [hz]
      obtain ⟨g0, g1⟩ := hF.out j
      rw [hmn] at hss g0 g1
      rw [hz] at v0 v1 hwt
      clear hmn hz
      generalize rkT 100 119 m j = T at *
      generalize flw a b c T m = F at *
      generalize wtN T = Z at *
      generalize hSS : sumU (mnF a b c p q m) j = SS at *
      clear hSS
      have hw1 : IntKind.i64.wrap ((m : Int) - (Z : Int)) = (m : Int) - (Z : Int) := IntWalk.i64_in _ (by omega)
      have hw2 : IntKind.i64.wrap (((m : Int) - (Z : Int)) * p) = ((m : Int) - (Z : Int)) * p := IntWalk.i64_in _ (by omega)
      have hw3 : IntKind.i64.wrap ((Z : Int) * q) = (Z : Int) * q := IntWalk.i64_in _ (by omega)
      have hw4 : IntKind.i64.wrap (((m : Int) - (Z : Int)) * p + (Z : Int) * q) = ((m : Int) - (Z : Int)) * p + (Z : Int) * q := IntWalk.i64_in _ (by omega)
      have hw5 : IntKind.i64.wrap (F * (((m : Int) - (Z : Int)) * p + (Z : Int) * q)) = F * (((m : Int) - (Z : Int)) * p + (Z : Int) * q) := IntWalk.i64_in _ (by omega)
      have hw6 : IntKind.i64.wrap (SS + F * (((m : Int) - (Z : Int)) * p + (Z : Int) * q)) = SS + F * (((m : Int) - (Z : Int)) * p + (Z : Int) * q) := IntWalk.i64_in _ (by omega)
      clear v0 v1 v2 v3 f0 f1 g0 g1 b0 b1 hwt
      go_wp2_with fail
      refine (hT.out _).mono ?_
      rintro e w2 ⟨rfl, hb2⟩
      have bx2 := Lib.hid (hbx.out.keep hb2)
      have bl2 := Lib.hid (bel_trans hbl hb2)
      clear hb2
      go_wp2_with fail
      refine (hK.out _).mono ?_
      rintro e w3 ⟨rfl, rfl⟩
      go_wp2_with fail
      go_region_held3 (fun w' => w'.cell? ⟨w.heap.size, 0, none⟩ = some (.int .i64 a) ∧ w'.cell? ⟨w.heap.size, 1, none⟩ = some (.int .i64 b) ∧ w'.cell? ⟨w.heap.size, 2, none⟩ = some (.int .i64 c) ∧ w'.cell? ⟨w.heap.size, 3, none⟩ = some (.int .i64 p) ∧ w'.cell? ⟨w.heap.size, 4, none⟩ = some (.int .i64 q) ∧ w'.cell? ⟨w.heap.size, 5, none⟩ = some (.int .i64 r) ∧ w.heap.size < w'.heap.size ∧ Below w.heap.size w w')
        (first | exact h6_start bx2.out bl2.out | exact h6_keep (by assumption) hb4 | exact h6_drewN (by assumption) _ | assumption | go_keep)
        (first | (go_at_call 26; refine (hG.out _).mono ?_; rintro e w4 ⟨rfl, hb4⟩))
      all_goals
        obtain ⟨hbx9, hbl9⟩ := h6_below (by assumption)
        have Hbx9 := Lib.hid hbx9
        clear hbx9
        go_wp2
        exact ⟨⟨j + 1, by omega, by go_num, by rw [hss.out], Hbx9, hbl9⟩, by simp [intOf]; omega⟩
    · have hjN : j = N := by omega
      have HJ := Lib.hid hjN
      clear hjN
      have hSe : Hid (sumU (mnF a b c p q m) j = mnS a b c p q m) := Lib.hid (by rw [HJ.out]; exact hsum.out)
      rw [hSe.out]
      generalize mnS a b c p q m = SM at *
      have hk0 := Lib.hid (h6_plain hbx.out hbl)
      go_wp2_with fail
      go_region_held3 (fun w' => w'.cell? ⟨w.heap.size, 0, none⟩ = some (.int .i64 a) ∧ w'.cell? ⟨w.heap.size, 1, none⟩ = some (.int .i64 b) ∧ w'.cell? ⟨w.heap.size, 2, none⟩ = some (.int .i64 c) ∧ w'.cell? ⟨w.heap.size, 3, none⟩ = some (.int .i64 p) ∧ w'.cell? ⟨w.heap.size, 4, none⟩ = some (.int .i64 q) ∧ w'.cell? ⟨w.heap.size, 5, none⟩ = some (.int .i64 r) ∧ w.heap.size < w'.heap.size ∧ Below w.heap.size w w')
        (first | exact h6_start hbx.out hbl | exact h6_drewN (by assumption) _ | exact h6_drewN hk0.out _ | assumption | go_keep)
        (first | (go_at_call 28; refine (hpw.out _).mono ?_; rintro e w4 ⟨rfl, rfl⟩) | (go_at_call 27; refine (htl.out _).mono ?_; rintro e w5 ⟨rfl, n5, rfl⟩))
      all_goals
        obtain ⟨hbx9, hbl9⟩ := h6_below (by assumption)
        clear hbx9
        go_wp2
        go_ret3
        exact ⟨rfl, hbl9⟩

set_option maxRecDepth 100000 in
set_option maxHeartbeats 3200000 in
theorem walkExactMeanSigns (a b c p q r : Int) (n : Int) (w : World) (ha : (Lit.int .i64 a).wf = true) (hb : (Lit.int .i64 b).wf = true) (hc : (Lit.int .i64 c).wf = true) (hp : (Lit.int .i64 p).wf = true) (hq : (Lit.int .i64 q).wf = true) (hr : (Lit.int .i64 r).wf = true) (zn : (Lit.int .i64 n).wf = true) :
    Calls Try.prog 4 #[hdn a b c p q r, .int .i64 n] w fun e w' => e = .returned (.bool true) ∧ Below w.heap.size w w' := by
  clear ha hb hc hp hq hr
  obtain ⟨x, y, ok, hv⟩ := ansMs_form a b c p q r n
  have Hv := Lib.hid hv
  have ZN := Lib.hid zn
  clear hv zn
  have bx := Lib.hid (Box6.new w a b c p q r 25)
  go_enter Try.func4, Try.ntmps4
  go_wp2_with fail
  refine (toHidden_any _ _ _ _ _ _ _).mono ?_
  rintro e w1 ⟨rfl, hb1⟩
  have bx1 := Lib.hid (bx.out.keep hb1)
  go_wp2_with fail
  refine (specMs_any _ _ _ _ _ _ n _ ZN.out).mono ?_
  rw [Hv.out]
  rintro e w2 ⟨rfl, hb2⟩
  obtain ⟨c0, c1, c2, c3, c4, c5, hk⟩ := bx1.out.keep hb2
  go_wp2_with fail
  refine (toHidden_any _ _ _ _ _ _ _).mono ?_
  rintro e w3 ⟨rfl, hb3⟩
  go_wp2_with fail
  refine (implMs_any _ _ _ _ _ _ n _ ZN.out).mono ?_
  rw [Hv.out]
  rintro e w4 ⟨rfl, hb4⟩
  go_wp2_with fail
  go_ret
  exact ⟨rfl, bel_trans (bel_trans (bel_trans (bel_trans (bel_alloc (Below.refl _ _) _) hb1) hb2) hb3) hb4⟩

end Go.Proofs.Ytjfcpbedmdnjcab
