/- MeanWets: the contracts of the program and of its model, and the law's walk. -/
import Derived.Test.YtkehgokgngimgaaChLater
namespace Go.Proofs.Ytkehgokgngimgaa
open Go.ChangeShapes Go.WideShapes Go.ChangeAt Go.RowKit
set_option linter.unusedVariables false

/-- The sum of the chances of a wet day, in parts of c to the power n. -/
def mw (a b c d : Int) : Nat → Int
  | 0 => 0
  | n + 1 => mw a b c d n * c + (ltr a b c d (n + 1)).2
theorem mw_in {a b c : Int} (h : inR a b c) (d : Int) : ∀ n, 0 ≤ mw a b c d n ∧ mw a b c d n ≤ n * 10 ^ n
  | 0 => by simp [mw]
  | n + 1 => by
    obtain ⟨x, y⟩ := mw_in h d n
    obtain ⟨p, q, z⟩ := ltr_in h d (n + 1)
    have r := h
    unfold inR at r
    have hc := pow_in c (by omega) (by omega) (n + 1)
    have s1 : mw a b c d (n + 1) = mw a b c d n * c + (ltr a b c d (n + 1)).2 := rfl
    have t0 : (0 : Int) ≤ n * 10 ^ n := by omega
    have m1 := mul_bd x y (show 0 ≤ c by omega) (show c ≤ 10 by omega)
    have e1 : ((n : Int) * 10 ^ n) * 10 = n * 10 ^ (n + 1) := by rw [Int.pow_succ, Int.mul_assoc]
    have e2 : ((n + 1 : Nat) : Int) * 10 ^ (n + 1) = n * 10 ^ (n + 1) + 10 ^ (n + 1) := by rw [Int.natCast_add, Int.add_mul]; simp
    rw [s1, e2]
    omega
theorem mw_le {a b c : Int} (h : inR a b c) (d : Int) (n : Nat) (hn : n ≤ 9) : 0 ≤ mw a b c d n ∧ mw a b c d n ≤ 9000000000 := by
  obtain ⟨x, y⟩ := mw_in h d n
  have t := ten_le n hn
  have p : (0 : Int) ≤ 10 ^ n := Int.pow_nonneg (by omega)
  have m := mul_bd (show (0 : Int) ≤ n by omega) (show (n : Int) ≤ 9 by omega) p t
  exact ⟨x, by omega⟩
def ansWets (a b c : Int) (s : ByteArray) (n : Int) : Value :=
  if good a b c && dayS s && inB n 0 8 then lowV (mw a b c (sgn s 0) n.toNat) (c ^ n.toNat) else failV
theorem ansWets_form (a b c : Int) (s : ByteArray) (n : Int) : ∃ (x y : Int) (o : Bool), ansWets a b c s n = .tuple #[.int .i64 x, .int .i64 y, .bool o] := if_form _ (lowV_form _ _) failV_form
theorem pow_quo {c : Int} (h : 1 ≤ c) (k : Nat) : c ^ (k + 1) / c ^ k = c := by
  rw [Int.pow_succ, Int.mul_comm]
  exact Int.mul_ediv_cancel _ (by have := pow_pos' h k; omega)
theorem two_box (w1 : World) (p q r u p' q' r' u' : Value) (t t' : TypeId) : let W := ((w1.alloc (.cells #[p, q, r, u] t)).alloc (.cells #[p', q', r', u'] t')).drew
    Box4 W w1.heap.size p q r u ∧ Box4 W (w1.heap.size + 1) p' q' r' u' := by
  have b1 := (Box4.new w1 p q r u t).keep (bel_alloc (Below.refl _ _) (.cells #[p', q', r', u'] t'))
  have b2 := Box4.new (w1.alloc (.cells #[p, q, r, u] t)) p' q' r' u' t'
  rw [show (w1.alloc (.cells #[p, q, r, u] t)).heap.size = w1.heap.size + 1 from by simp [go_sem]] at b2
  exact ⟨⟨b1.1, b1.2.1, b1.2.2.1, b1.2.2.2.1, b1.2.2.2.2⟩, ⟨b2.1, b2.2.1, b2.2.2.1, b2.2.2.2.1, b2.2.2.2.2⟩⟩

theorem held344_start {w W : World} {k0 k1 k2 : Nat} {x0_0 x0_1 x0_2 x1_0 x1_1 x1_2 x1_3 x2_0 x2_1 x2_2 x2_3 : Value} (h0 : Box3 W k0 x0_0 x0_1 x0_2) (h1 : Box4 W k1 x1_0 x1_1 x1_2 x1_3) (h2 : Box4 W k2 x2_0 x2_1 x2_2 x2_3) (hb : Below w.heap.size w W) : let V := W.drew
    V.cell? ⟨k0, 0, none⟩ = some x0_0 ∧ V.cell? ⟨k0, 1, none⟩ = some x0_1 ∧ V.cell? ⟨k0, 2, none⟩ = some x0_2 ∧ k0 < V.heap.size ∧ V.cell? ⟨k1, 0, none⟩ = some x1_0 ∧ V.cell? ⟨k1, 1, none⟩ = some x1_1 ∧ V.cell? ⟨k1, 2, none⟩ = some x1_2 ∧ V.cell? ⟨k1, 3, none⟩ = some x1_3 ∧ k1 < V.heap.size ∧ V.cell? ⟨k2, 0, none⟩ = some x2_0 ∧ V.cell? ⟨k2, 1, none⟩ = some x2_1 ∧ V.cell? ⟨k2, 2, none⟩ = some x2_2 ∧ V.cell? ⟨k2, 3, none⟩ = some x2_3 ∧ k2 < V.heap.size ∧ Below w.heap.size w V := ⟨h0.1, h0.2.1, h0.2.2.1, h0.2.2.2, h1.1, h1.2.1, h1.2.2.1, h1.2.2.2.1, h1.2.2.2.2, h2.1, h2.2.1, h2.2.2.1, h2.2.2.2.1, h2.2.2.2.2, hb.drew⟩
theorem held344_keep {w W w1 : World} {k0 k1 k2 : Nat} {x0_0 x0_1 x0_2 x1_0 x1_1 x1_2 x1_3 x2_0 x2_1 x2_2 x2_3 : Value} (h : W.cell? ⟨k0, 0, none⟩ = some x0_0 ∧ W.cell? ⟨k0, 1, none⟩ = some x0_1 ∧ W.cell? ⟨k0, 2, none⟩ = some x0_2 ∧ k0 < W.heap.size ∧ W.cell? ⟨k1, 0, none⟩ = some x1_0 ∧ W.cell? ⟨k1, 1, none⟩ = some x1_1 ∧ W.cell? ⟨k1, 2, none⟩ = some x1_2 ∧ W.cell? ⟨k1, 3, none⟩ = some x1_3 ∧ k1 < W.heap.size ∧ W.cell? ⟨k2, 0, none⟩ = some x2_0 ∧ W.cell? ⟨k2, 1, none⟩ = some x2_1 ∧ W.cell? ⟨k2, 2, none⟩ = some x2_2 ∧ W.cell? ⟨k2, 3, none⟩ = some x2_3 ∧ k2 < W.heap.size ∧ Below w.heap.size w W) (hb : Below W.heap.size W w1) : w1.cell? ⟨k0, 0, none⟩ = some x0_0 ∧ w1.cell? ⟨k0, 1, none⟩ = some x0_1 ∧ w1.cell? ⟨k0, 2, none⟩ = some x0_2 ∧ k0 < w1.heap.size ∧ w1.cell? ⟨k1, 0, none⟩ = some x1_0 ∧ w1.cell? ⟨k1, 1, none⟩ = some x1_1 ∧ w1.cell? ⟨k1, 2, none⟩ = some x1_2 ∧ w1.cell? ⟨k1, 3, none⟩ = some x1_3 ∧ k1 < w1.heap.size ∧ w1.cell? ⟨k2, 0, none⟩ = some x2_0 ∧ w1.cell? ⟨k2, 1, none⟩ = some x2_1 ∧ w1.cell? ⟨k2, 2, none⟩ = some x2_2 ∧ w1.cell? ⟨k2, 3, none⟩ = some x2_3 ∧ k2 < w1.heap.size ∧ Below w.heap.size w w1 := by
  obtain ⟨a0_0, a0_1, a0_2, a0_3, a1_0, a1_1, a1_2, a1_3, a1_4, a2_0, a2_1, a2_2, a2_3, a2_4, hl⟩ := h
  have b0 : Box3 w1 k0 x0_0 x0_1 x0_2 := Box3.keep ⟨a0_0, a0_1, a0_2, a0_3⟩ hb
  have b1 : Box4 w1 k1 x1_0 x1_1 x1_2 x1_3 := Box4.keep ⟨a1_0, a1_1, a1_2, a1_3, a1_4⟩ hb
  have b2 : Box4 w1 k2 x2_0 x2_1 x2_2 x2_3 := Box4.keep ⟨a2_0, a2_1, a2_2, a2_3, a2_4⟩ hb
  exact ⟨b0.1, b0.2.1, b0.2.2.1, b0.2.2.2, b1.1, b1.2.1, b1.2.2.1, b1.2.2.2.1, b1.2.2.2.2, b2.1, b2.2.1, b2.2.2.1, b2.2.2.2.1, b2.2.2.2.2, bel_trans hl hb⟩
theorem held344_drewN {w W : World} {k0 k1 k2 : Nat} {x0_0 x0_1 x0_2 x1_0 x1_1 x1_2 x1_3 x2_0 x2_1 x2_2 x2_3 : Value} (h : W.cell? ⟨k0, 0, none⟩ = some x0_0 ∧ W.cell? ⟨k0, 1, none⟩ = some x0_1 ∧ W.cell? ⟨k0, 2, none⟩ = some x0_2 ∧ k0 < W.heap.size ∧ W.cell? ⟨k1, 0, none⟩ = some x1_0 ∧ W.cell? ⟨k1, 1, none⟩ = some x1_1 ∧ W.cell? ⟨k1, 2, none⟩ = some x1_2 ∧ W.cell? ⟨k1, 3, none⟩ = some x1_3 ∧ k1 < W.heap.size ∧ W.cell? ⟨k2, 0, none⟩ = some x2_0 ∧ W.cell? ⟨k2, 1, none⟩ = some x2_1 ∧ W.cell? ⟨k2, 2, none⟩ = some x2_2 ∧ W.cell? ⟨k2, 3, none⟩ = some x2_3 ∧ k2 < W.heap.size ∧ Below w.heap.size w W) (n : Nat) : let V := W.drewN n
    V.cell? ⟨k0, 0, none⟩ = some x0_0 ∧ V.cell? ⟨k0, 1, none⟩ = some x0_1 ∧ V.cell? ⟨k0, 2, none⟩ = some x0_2 ∧ k0 < V.heap.size ∧ V.cell? ⟨k1, 0, none⟩ = some x1_0 ∧ V.cell? ⟨k1, 1, none⟩ = some x1_1 ∧ V.cell? ⟨k1, 2, none⟩ = some x1_2 ∧ V.cell? ⟨k1, 3, none⟩ = some x1_3 ∧ k1 < V.heap.size ∧ V.cell? ⟨k2, 0, none⟩ = some x2_0 ∧ V.cell? ⟨k2, 1, none⟩ = some x2_1 ∧ V.cell? ⟨k2, 2, none⟩ = some x2_2 ∧ V.cell? ⟨k2, 3, none⟩ = some x2_3 ∧ k2 < V.heap.size ∧ Below w.heap.size w V := by
  obtain ⟨a0_0, a0_1, a0_2, a0_3, a1_0, a1_1, a1_2, a1_3, a1_4, a2_0, a2_1, a2_2, a2_3, a2_4, hl⟩ := h
  exact ⟨a0_0, a0_1, a0_2, a0_3, a1_0, a1_1, a1_2, a1_3, a1_4, a2_0, a2_1, a2_2, a2_3, a2_4, bel_drewN hl n⟩
theorem held344_below {w W : World} {k0 k1 k2 : Nat} {x0_0 x0_1 x0_2 x1_0 x1_1 x1_2 x1_3 x2_0 x2_1 x2_2 x2_3 : Value} (h : W.cell? ⟨k0, 0, none⟩ = some x0_0 ∧ W.cell? ⟨k0, 1, none⟩ = some x0_1 ∧ W.cell? ⟨k0, 2, none⟩ = some x0_2 ∧ k0 < W.heap.size ∧ W.cell? ⟨k1, 0, none⟩ = some x1_0 ∧ W.cell? ⟨k1, 1, none⟩ = some x1_1 ∧ W.cell? ⟨k1, 2, none⟩ = some x1_2 ∧ W.cell? ⟨k1, 3, none⟩ = some x1_3 ∧ k1 < W.heap.size ∧ W.cell? ⟨k2, 0, none⟩ = some x2_0 ∧ W.cell? ⟨k2, 1, none⟩ = some x2_1 ∧ W.cell? ⟨k2, 2, none⟩ = some x2_2 ∧ W.cell? ⟨k2, 3, none⟩ = some x2_3 ∧ k2 < W.heap.size ∧ Below w.heap.size w W) : Box3 W k0 x0_0 x0_1 x0_2 ∧ Box4 W k1 x1_0 x1_1 x1_2 x1_3 ∧ Box4 W k2 x2_0 x2_1 x2_2 x2_3 ∧ Below w.heap.size w W := by
  obtain ⟨a0_0, a0_1, a0_2, a0_3, a1_0, a1_1, a1_2, a1_3, a1_4, a2_0, a2_1, a2_2, a2_3, a2_4, hl⟩ := h
  exact ⟨⟨a0_0, a0_1, a0_2, a0_3⟩, ⟨a1_0, a1_1, a1_2, a1_3, a1_4⟩, ⟨a2_0, a2_1, a2_2, a2_3, a2_4⟩, hl⟩

set_option maxHeartbeats 8000000 in
theorem specWets_any (a b c : Int) (s : ByteArray) (n : Int) (w : World) (hs : s.size ≤ maxLen) :
    Calls Try.prog 41 #[chn a b c, .string s, .int .i64 n] w fun e w' => e = .returned (ansWets a b c s n) ∧ Below w.heap.size w w' := by
  have bx0 := Lib.hid (Box3.new w (.int .i64 a) (.int .i64 b) (.int .i64 c) 25)
  have bl0 : Below w.heap.size w (w.alloc (.cells #[.int .i64 a, .int .i64 b, .int .i64 c] 25)) := bel_alloc (Below.refl _ _) _
  cases h1 : (good a b c && dayS s)
  · skip
    rw [show ansWets a b c s n = failV from by unfold ansWets; rw [h1]; rfl]
    unfold failV
    go_enter Try.func41, Try.ntmps41
    go_wp2_with fail
    refine (cnDay_any a b c s _ hs).mono ?_
    rintro e w1 ⟨rfl, hb1⟩
    rw [h1]
    have bx1 := Lib.hid (bx0.out.keep hb1)
    have bl1 := bel_trans bl0 hb1
    obtain ⟨c0_1, c1_1, c2_1, hk1⟩ := bx1.out
    go_wp2_with fail
    go_ret3
    exact ⟨rfl, bl1⟩
  · have h1a : good a b c = true := by simp at h1; exact h1.1
    have h1b : dayS s = true := by simp at h1; exact h1.2
    cases h4 : inB n 0 8
    · skip
      rw [show ansWets a b c s n = failV from by unfold ansWets; rw [h1, h4]; rfl]
      unfold failV
      go_enter Try.func41, Try.ntmps41
      go_wp2_with fail
      refine (cnDay_any a b c s _ hs).mono ?_
      rintro e w1 ⟨rfl, hb1⟩
      rw [h1]
      have bx1 := Lib.hid (bx0.out.keep hb1)
      have bl1 := bel_trans bl0 hb1
      obtain ⟨c0_1, c1_1, c2_1, hk1⟩ := bx1.out
      go_wp2_with fail
      refine (l1In_any _ _ _ _).mono ?_
      rintro e w9 ⟨rfl, rfl⟩
      rw [h4]
      go_wp2_with fail
      go_ret3
      exact ⟨rfl, bl1⟩
    · skip
      rw [show ansWets a b c s n = lowV (mw a b c (sgn s 0) n.toNat) (c ^ n.toNat) from by unfold ansWets; rw [h1, h4]; rfl]
      unfold lowV
      obtain ⟨n1, n8⟩ := (inB_iff n 0 8).1 h4
      have hr := inR_of h1a
      have r := hr
      unfold inR at r
      obtain ⟨r1, r2, r3, r4, r5, r6⟩ := r
      have zs : 0 < s.size := by rw [day_size h1b]; omega
      have hd := day_val h1b
      have e1 := sgn_at s 0 zs
      obtain ⟨m, rfl⟩ := Int.eq_ofNat_of_zero_le n1
      rw [show ((m : Int)).toNat = m from rfl]
      have HR := Lib.hid hr
      clear hr
      go_enter Try.func41, Try.ntmps41
      go_wp2_with fail
      refine (cnDay_any a b c s _ hs).mono ?_
      rintro e w1 ⟨rfl, hb1⟩
      rw [h1]
      have bx1 := Lib.hid (bx0.out.keep hb1)
      have bl1 := bel_trans bl0 hb1
      obtain ⟨c0_1, c1_1, c2_1, hk1⟩ := bx1.out
      go_wp2_with fail
      refine (l1In_any _ _ _ _).mono ?_
      rintro e w9 ⟨rfl, rfl⟩
      rw [h4]
      have Bx := bx1
      go_wp2_with fail
      go_loopw [9, 10, 11] (fun x y i wr => ∃ k : Nat, k ≤ m ∧ i = .int .i64 (k + 1 : Nat) ∧ x = .int .i64 (mw a b c (sgn s 0) k) ∧ y = .int .i64 (c ^ k) ∧ Hid (Box3 wr w.heap.size (.int .i64 a) (.int .i64 b) (.int .i64 c)) ∧ Below w.heap.size w wr) (fun _ _ i _ => m + 1 - (intOf i).toNat)
      case atStart => exact ⟨0, by omega, rfl, rfl, by simp, Bx.out, bl1⟩
      case round =>
        obtain ⟨k, hk, rfl, rfl, rfl, hbx, hbl⟩ := hrel
        obtain ⟨x0, x1⟩ := mw_le HR.out (sgn s 0) k (by omega)
        have y2 := pow_pos' r5 k
        obtain ⟨y0, y1⟩ := pow_le9 c (by omega) r6 k (by omega)
        by_cases hlt : k < m
        · obtain ⟨u0, u1⟩ := mw_le HR.out (sgn s 0) (k + 1) (by omega)
          have e3 : mw a b c (sgn s 0) (k + 1) = mw a b c (sgn s 0) k * c + (ltr a b c (sgn s 0) (k + 1)).2 := rfl
          have E3 := Lib.hid e3
          obtain ⟨l1, l2, l3, l4⟩ := ltr_le HR.out (sgn s 0) (k + 1) (by omega)
          obtain ⟨v0, v1⟩ := mul_bd x0 x1 (show 0 ≤ c by omega) r6
          obtain ⟨z0, z1⟩ := pow_le9 c (by omega) r6 (k + 1) (by omega)
          have z2 := pow_pos' r5 (k + 1)
          have Q := Lib.hid (pow_quo r5 k)
          have hle : ((k + 1 : Nat) : Int) ≤ (m : Int) := by omega
          clear e3
          go_wp2_with fail
          go_region_held3 (fun w' => w'.cell? ⟨w.heap.size, 0, none⟩ = some (.int .i64 a) ∧ w'.cell? ⟨w.heap.size, 1, none⟩ = some (.int .i64 b) ∧ w'.cell? ⟨w.heap.size, 2, none⟩ = some (.int .i64 c) ∧ w.heap.size < w'.heap.size ∧ Below w.heap.size w w') (first | exact held3_start hbx.out hbl | exact held3_keep (by assumption) hb4 | exact held3_drewN (by assumption) _ | assumption | go_keep) (first | (go_at_call 71; refine (cnLater_any a b c (sgn s 0) (k + 1) _ hd HR.out (by omega)).mono ?_; rintro e w4 ⟨rfl, hb4⟩))
          all_goals
            obtain ⟨hbx1, hbl1⟩ := held3_below (by assumption)
            have Hbx1 := Lib.hid hbx1
            clear hbx1
            have q := Q.out
            generalize hX : mw a b c (sgn s 0) k = X at *
            generalize hY : c ^ k = Y at *
            generalize hZ : c ^ (k + 1) = Z at *
            generalize hT : (ltr a b c (sgn s 0) (k + 1)).2 = T at *
            have HZ := Lib.hid hZ
            clear hX hY hZ hT Q
            go_wp2
            exact ⟨⟨k + 1, by omega, by go_num, by rw [E3.out], by rw [HZ.out], Hbx1, hbl1⟩, by simp [intOf]; omega⟩
        · have hkm : k = m := by omega
          have Hkm := Lib.hid hkm
          have hle : ¬ ((k + 1 : Nat) : Int) ≤ (m : Int) := by omega
          clear hkm
          go_wp2_with fail
          refine (cnLow_any (mw a b c (sgn s 0) k) (c ^ k) _ x0 y2 (by omega) (by omega)).mono ?_
          rintro e wd6 ⟨rfl, nd6, rfl⟩
          go_wp2_with fail
          go_ret3
          exact ⟨by rw [← Hkm.out]; rfl, bel_drewN hbl _⟩

set_option maxHeartbeats 8000000 in
theorem implWets_any (a b c : Int) (s : ByteArray) (n : Int) (w : World) (hs : s.size ≤ maxLen) :
    Calls Try.prog 42 #[chn a b c, .string s, .int .i64 n] w fun e w' => e = .returned (ansWets a b c s n) ∧ Below w.heap.size w w' := by
  have bx0 := Lib.hid (Box3.new w (.int .i64 a) (.int .i64 b) (.int .i64 c) 25)
  have bl0 : Below w.heap.size w (w.alloc (.cells #[.int .i64 a, .int .i64 b, .int .i64 c] 25)) := bel_alloc (Below.refl _ _) _
  cases h1 : (good a b c && dayS s)
  · skip
    rw [show ansWets a b c s n = failV from by unfold ansWets; rw [h1]; rfl]
    unfold failV
    go_enter Try.func42, Try.ntmps42
    go_wp2_with fail
    refine (isDayOf_any a b c s _ hs).mono ?_
    rintro e w1 ⟨rfl, hb1⟩
    rw [h1]
    have bx1 := Lib.hid (bx0.out.keep hb1)
    have bl1 := bel_trans bl0 hb1
    obtain ⟨c0_1, c1_1, c2_1, hk1⟩ := bx1.out
    go_wp2_with fail
    go_ret3
    exact ⟨rfl, bl1⟩
  · have h1a : good a b c = true := by simp at h1; exact h1.1
    have h1b : dayS s = true := by simp at h1; exact h1.2
    cases h4 : inB n 0 8
    · skip
      rw [show ansWets a b c s n = failV from by unfold ansWets; rw [h1, h4]; rfl]
      unfold failV
      by_cases h5 : n < 0
      · have hq : decide (n < 0) = true := by simpa using h5
        go_enter Try.func42, Try.ntmps42
        go_wp2_with fail
        refine (isDayOf_any a b c s _ hs).mono ?_
        rintro e w1 ⟨rfl, hb1⟩
        rw [h1]
        have bx1 := Lib.hid (bx0.out.keep hb1)
        have bl1 := bel_trans bl0 hb1
        obtain ⟨c0_1, c1_1, c2_1, hk1⟩ := bx1.out
        go_wp2_with fail
        go_ret3
        exact ⟨rfl, bl1⟩
      · have hq : decide (n < 0) = false := by simpa using h5
        have hq2 : decide (8 < n) = true := by simp [inB] at h4; simp; omega
        have hq3 : 8 < n := by simp [inB] at h4; omega
        go_enter Try.func42, Try.ntmps42
        go_wp2_with fail
        refine (isDayOf_any a b c s _ hs).mono ?_
        rintro e w1 ⟨rfl, hb1⟩
        rw [h1]
        have bx1 := Lib.hid (bx0.out.keep hb1)
        have bl1 := bel_trans bl0 hb1
        obtain ⟨c0_1, c1_1, c2_1, hk1⟩ := bx1.out
        go_wp2_with fail
        go_ret3
        exact ⟨rfl, bl1⟩
    · skip
      rw [show ansWets a b c s n = lowV (mw a b c (sgn s 0) n.toNat) (c ^ n.toNat) from by unfold ansWets; rw [h1, h4]; rfl]
      unfold lowV
      obtain ⟨n1, n8⟩ := (inB_iff n 0 8).1 h4
      have hr := inR_of h1a
      have r := hr
      unfold inR at r
      obtain ⟨r1, r2, r3, r4, r5, r6⟩ := r
      have zs : 0 < s.size := by rw [day_size h1b]; omega
      have hd := day_val h1b
      have e1 := sgn_at s 0 zs
      obtain ⟨m, rfl⟩ := Int.eq_ofNat_of_zero_le n1
      rw [show ((m : Int)).toNat = m from rfl]
      have HR := Lib.hid hr
      clear hr
      have hq2 : decide ((8 : Int) < (m : Int)) = false := by simp; omega
      have hq1 : decide ((m : Int) < 0) = false := by simp
      go_enter Try.func42, Try.ntmps42
      go_wp2_with fail
      refine (isDayOf_any a b c s _ hs).mono ?_
      rintro e w1 ⟨rfl, hb1⟩
      rw [h1]
      have bx1 := Lib.hid (bx0.out.keep hb1)
      have bl1 := bel_trans bl0 hb1
      obtain ⟨c0_1, c1_1, c2_1, hk1⟩ := bx1.out
      go_wp2_with fail
      go_region
      · skip
        obtain ⟨ta, tb⟩ := two_box w1 (.int .i64 a) (.int .i64 b) (.int .i64 c) (.int .u8 (sgn s 0)) (.int .i64 a) (.int .i64 b) (.int .i64 c) (.int .u8 119) 62 62
        have Th := Lib.hid ta
        have Tr := Lib.hid tb
        have Tc : Hid (Box3 ((w1.alloc (.cells #[.int .i64 a, .int .i64 b, .int .i64 c, .int .u8 (sgn s 0)] 62)).alloc (.cells #[.int .i64 a, .int .i64 b, .int .i64 c, .int .u8 119] 62)).drew w.heap.size (.int .i64 a) (.int .i64 b) (.int .i64 c)) := by
          have z := bx1.out.keep (bel_alloc (bel_alloc (Below.refl _ w1) (.cells #[.int .i64 a, .int .i64 b, .int .i64 c, .int .u8 (sgn s 0)] 62)) (.cells #[.int .i64 a, .int .i64 b, .int .i64 c, .int .u8 119] 62))
          exact ⟨z.1, z.2.1, z.2.2.1, z.2.2.2⟩
        have Tl : Below w.heap.size w ((w1.alloc (.cells #[.int .i64 a, .int .i64 b, .int .i64 c, .int .u8 (sgn s 0)] 62)).alloc (.cells #[.int .i64 a, .int .i64 b, .int .i64 c, .int .u8 119] 62)).drew := (bel_alloc (bel_alloc bl1 _) _).drew
        clear ta tb
        go_wp2_with fail
        go_loopw [11, 32] (fun x i wr => ∃ k : Nat, k ≤ m ∧ i = .int .i64 k ∧ x = .int .i64 (mw a b c (sgn s 0) k) ∧ Hid (Box3 wr w.heap.size (.int .i64 a) (.int .i64 b) (.int .i64 c)) ∧ Hid (Box4 wr (w1.heap.size) (.int .i64 a) (.int .i64 b) (.int .i64 c) (.int .u8 (sgn s 0))) ∧ Hid (Box4 wr (w1.heap.size + 1) (.int .i64 a) (.int .i64 b) (.int .i64 c) (.int .u8 119)) ∧ Below w.heap.size w wr) (fun _ i _ => m - (intOf i).toNat)
        case atStart => exact ⟨0, by omega, rfl, rfl, Tc.out, Th.out, Tr.out, Tl⟩
        case round =>
          obtain ⟨k, hk, rfl, rfl, hbx, hbh, hbr, hbl⟩ := hrel
          obtain ⟨x0, x1⟩ := mw_le HR.out (sgn s 0) k (by omega)
          by_cases hlt : k < m
          · obtain ⟨u0, u1⟩ := mw_le HR.out (sgn s 0) (k + 1) (by omega)
            have e3 : mw a b c (sgn s 0) (k + 1) = mw a b c (sgn s 0) k * c + (ltr a b c (sgn s 0) (k + 1)).2 := rfl
            have E3 := Lib.hid e3
            rw [e3] at u0 u1
            obtain ⟨v0, v1⟩ := mul_bd x0 x1 (show 0 ≤ c by omega) r6
            have hs1 : sel 119 (ltr a b c (sgn s 0) (k + 1)) = (ltr a b c (sgn s 0) (k + 1)).2 := rfl
            have Hs1 := Lib.hid hs1
            clear e3 hs1
            generalize hX : mw a b c (sgn s 0) k = X at *
            generalize hT : (ltr a b c (sgn s 0) (k + 1)).2 = T at *
            have w1' : IntKind.i64.wrap (X * c) = X * c := IntWalk.i64_in _ (by omega)
            have w2' : IntKind.i64.wrap (X * c + T) = X * c + T := IntWalk.i64_in _ (by omega)
            have w3' : IntKind.i64.wrap ((k : Int) + 1) = ((k + 1 : Nat) : Int) := by rw [IntWalk.i64_in _ (by omega)]; omega
            clear hX hT
            go_wp2_with fail
            go_region_held3 (fun w' => w'.cell? ⟨w.heap.size, 0, none⟩ = some (.int .i64 a) ∧ w'.cell? ⟨w.heap.size, 1, none⟩ = some (.int .i64 b) ∧ w'.cell? ⟨w.heap.size, 2, none⟩ = some (.int .i64 c) ∧ w.heap.size < w'.heap.size ∧ w'.cell? ⟨w1.heap.size, 0, none⟩ = some (.int .i64 a) ∧ w'.cell? ⟨w1.heap.size, 1, none⟩ = some (.int .i64 b) ∧ w'.cell? ⟨w1.heap.size, 2, none⟩ = some (.int .i64 c) ∧ w'.cell? ⟨w1.heap.size, 3, none⟩ = some (.int .u8 (sgn s 0)) ∧ w1.heap.size < w'.heap.size ∧ w'.cell? ⟨w1.heap.size + 1, 0, none⟩ = some (.int .i64 a) ∧ w'.cell? ⟨w1.heap.size + 1, 1, none⟩ = some (.int .i64 b) ∧ w'.cell? ⟨w1.heap.size + 1, 2, none⟩ = some (.int .i64 c) ∧ w'.cell? ⟨w1.heap.size + 1, 3, none⟩ = some (.int .u8 119) ∧ w1.heap.size + 1 < w'.heap.size ∧ Below w.heap.size w w')
              (first | exact held344_start hbx.out hbh.out hbr.out hbl | exact held344_keep (by assumption) hb5 | assumption | go_keep)
              (first | (go_at_call 72; refine (later_any a b c (sgn s 0) 119 (k + 1) _ hd (.inr rfl) HR.out (by omega)).mono ?_; rintro e w5 ⟨rfl, hb5⟩; rw [Hs1.out]))
            all_goals
              obtain ⟨hb1, hb2, hb3, hbl1⟩ := held344_below (by assumption)
              have Hb1 := Lib.hid hb1
              have Hb2 := Lib.hid hb2
              have Hb3 := Lib.hid hb3
              clear hb1 hb2 hb3 w1' w2' w3'
              go_wp2
              exact ⟨⟨k + 1, by omega, by go_num, by rw [E3.out], Hb1, Hb2, Hb3, hbl1⟩, by simp [intOf]; omega⟩
          · have hkm : k = m := by omega
            have Hkm := Lib.hid hkm
            clear hkm
            have y2 := pow_pos' r5 m
            obtain ⟨y0, y1⟩ := pow_le9 c (by omega) r6 m (by omega)
            have bx4 := hbx
            obtain ⟨c0', c1', c2', hk'⟩ := hbx.out
            go_wp2_with fail
            refine (power_any c m _ (by omega) r6 (by omega)).mono ?_
            rintro e w6 ⟨rfl, rfl⟩
            go_wp2_with fail
            refine (told_any (mw a b c (sgn s 0) k) (c ^ m) _ x0 y2 (by omega) (by omega)).mono ?_
            rintro e w7 ⟨rfl, n7, rfl⟩
            go_wp2_with fail
            go_ret3
            exact ⟨by rw [← Hkm.out]; rfl, bel_drewN hbl _⟩
      · skip
        obtain ⟨ta, tb⟩ := two_box w1 (.int .i64 a) (.int .i64 b) (.int .i64 c) (.int .u8 119) (.int .i64 a) (.int .i64 b) (.int .i64 c) (.int .u8 (sgn s 0)) 62 62
        have Th := Lib.hid tb
        have Tr := Lib.hid ta
        have Tc : Hid (Box3 ((w1.alloc (.cells #[.int .i64 a, .int .i64 b, .int .i64 c, .int .u8 119] 62)).alloc (.cells #[.int .i64 a, .int .i64 b, .int .i64 c, .int .u8 (sgn s 0)] 62)).drew w.heap.size (.int .i64 a) (.int .i64 b) (.int .i64 c)) := by
          have z := bx1.out.keep (bel_alloc (bel_alloc (Below.refl _ w1) (.cells #[.int .i64 a, .int .i64 b, .int .i64 c, .int .u8 119] 62)) (.cells #[.int .i64 a, .int .i64 b, .int .i64 c, .int .u8 (sgn s 0)] 62))
          exact ⟨z.1, z.2.1, z.2.2.1, z.2.2.2⟩
        have Tl : Below w.heap.size w ((w1.alloc (.cells #[.int .i64 a, .int .i64 b, .int .i64 c, .int .u8 119] 62)).alloc (.cells #[.int .i64 a, .int .i64 b, .int .i64 c, .int .u8 (sgn s 0)] 62)).drew := (bel_alloc (bel_alloc bl1 _) _).drew
        clear ta tb
        go_wp2_with fail
        go_loopw [11, 32] (fun x i wr => ∃ k : Nat, k ≤ m ∧ i = .int .i64 k ∧ x = .int .i64 (mw a b c (sgn s 0) k) ∧ Hid (Box3 wr w.heap.size (.int .i64 a) (.int .i64 b) (.int .i64 c)) ∧ Hid (Box4 wr (w1.heap.size + 1) (.int .i64 a) (.int .i64 b) (.int .i64 c) (.int .u8 (sgn s 0))) ∧ Hid (Box4 wr (w1.heap.size) (.int .i64 a) (.int .i64 b) (.int .i64 c) (.int .u8 119)) ∧ Below w.heap.size w wr) (fun _ i _ => m - (intOf i).toNat)
        case atStart => exact ⟨0, by omega, rfl, rfl, Tc.out, Th.out, Tr.out, Tl⟩
        case round =>
          obtain ⟨k, hk, rfl, rfl, hbx, hbh, hbr, hbl⟩ := hrel
          obtain ⟨x0, x1⟩ := mw_le HR.out (sgn s 0) k (by omega)
          by_cases hlt : k < m
          · obtain ⟨u0, u1⟩ := mw_le HR.out (sgn s 0) (k + 1) (by omega)
            have e3 : mw a b c (sgn s 0) (k + 1) = mw a b c (sgn s 0) k * c + (ltr a b c (sgn s 0) (k + 1)).2 := rfl
            have E3 := Lib.hid e3
            rw [e3] at u0 u1
            obtain ⟨v0, v1⟩ := mul_bd x0 x1 (show 0 ≤ c by omega) r6
            have hs1 : sel 119 (ltr a b c (sgn s 0) (k + 1)) = (ltr a b c (sgn s 0) (k + 1)).2 := rfl
            have Hs1 := Lib.hid hs1
            clear e3 hs1
            generalize hX : mw a b c (sgn s 0) k = X at *
            generalize hT : (ltr a b c (sgn s 0) (k + 1)).2 = T at *
            have w1' : IntKind.i64.wrap (X * c) = X * c := IntWalk.i64_in _ (by omega)
            have w2' : IntKind.i64.wrap (X * c + T) = X * c + T := IntWalk.i64_in _ (by omega)
            have w3' : IntKind.i64.wrap ((k : Int) + 1) = ((k + 1 : Nat) : Int) := by rw [IntWalk.i64_in _ (by omega)]; omega
            clear hX hT
            go_wp2_with fail
            go_region_held3 (fun w' => w'.cell? ⟨w.heap.size, 0, none⟩ = some (.int .i64 a) ∧ w'.cell? ⟨w.heap.size, 1, none⟩ = some (.int .i64 b) ∧ w'.cell? ⟨w.heap.size, 2, none⟩ = some (.int .i64 c) ∧ w.heap.size < w'.heap.size ∧ w'.cell? ⟨w1.heap.size + 1, 0, none⟩ = some (.int .i64 a) ∧ w'.cell? ⟨w1.heap.size + 1, 1, none⟩ = some (.int .i64 b) ∧ w'.cell? ⟨w1.heap.size + 1, 2, none⟩ = some (.int .i64 c) ∧ w'.cell? ⟨w1.heap.size + 1, 3, none⟩ = some (.int .u8 (sgn s 0)) ∧ w1.heap.size + 1 < w'.heap.size ∧ w'.cell? ⟨w1.heap.size, 0, none⟩ = some (.int .i64 a) ∧ w'.cell? ⟨w1.heap.size, 1, none⟩ = some (.int .i64 b) ∧ w'.cell? ⟨w1.heap.size, 2, none⟩ = some (.int .i64 c) ∧ w'.cell? ⟨w1.heap.size, 3, none⟩ = some (.int .u8 119) ∧ w1.heap.size < w'.heap.size ∧ Below w.heap.size w w')
              (first | exact held344_start hbx.out hbh.out hbr.out hbl | exact held344_keep (by assumption) hb5 | assumption | go_keep)
              (first | (go_at_call 72; refine (later_any a b c (sgn s 0) 119 (k + 1) _ hd (.inr rfl) HR.out (by omega)).mono ?_; rintro e w5 ⟨rfl, hb5⟩; rw [Hs1.out]))
            all_goals
              obtain ⟨hb1, hb2, hb3, hbl1⟩ := held344_below (by assumption)
              have Hb1 := Lib.hid hb1
              have Hb2 := Lib.hid hb2
              have Hb3 := Lib.hid hb3
              clear hb1 hb2 hb3 w1' w2' w3'
              go_wp2
              exact ⟨⟨k + 1, by omega, by go_num, by rw [E3.out], Hb1, Hb2, Hb3, hbl1⟩, by simp [intOf]; omega⟩
          · have hkm : k = m := by omega
            have Hkm := Lib.hid hkm
            clear hkm
            have y2 := pow_pos' r5 m
            obtain ⟨y0, y1⟩ := pow_le9 c (by omega) r6 m (by omega)
            have bx4 := hbx
            obtain ⟨c0', c1', c2', hk'⟩ := hbx.out
            go_wp2_with fail
            refine (power_any c m _ (by omega) r6 (by omega)).mono ?_
            rintro e w6 ⟨rfl, rfl⟩
            go_wp2_with fail
            refine (told_any (mw a b c (sgn s 0) k) (c ^ m) _ x0 y2 (by omega) (by omega)).mono ?_
            rintro e w7 ⟨rfl, n7, rfl⟩
            go_wp2_with fail
            go_ret3
            exact ⟨by rw [← Hkm.out]; rfl, bel_drewN hbl _⟩

set_option maxHeartbeats 800000 in
theorem walkExactMeanWets (a b c : Int) (s : ByteArray) (n : Int) (w : World) (ha : (Lit.int .i64 a).wf = true) (hb : (Lit.int .i64 b).wf = true) (hc : (Lit.int .i64 c).wf = true) (hs : s.size ≤ maxLen) (hn : (Lit.int .i64 n).wf = true) :
    Calls Try.prog 13 #[chn a b c, .string s, .int .i64 n] w fun e w' => e = .returned (.bool true) ∧ Below w.heap.size w w' := by
  clear ha hb hc
  clear hn
  by_cases zs : s.size ≤ 1048576
  · skip
    obtain ⟨x, y, o, hv⟩ := ansWets_form a b c s n
    have Hv := Lib.hid hv
    clear hv
    have bx0 := Lib.hid (Box3.new w (.int .i64 a) (.int .i64 b) (.int .i64 c) 23)
    have bl0 : Below w.heap.size w (w.alloc (.cells #[.int .i64 a, .int .i64 b, .int .i64 c] 23)) := bel_alloc (Below.refl _ _) _
    go_enter Try.func13, Try.ntmps13
    go_wp2_with fail
    refine (toChain_any _ _ _ _).mono ?_
    rintro e w1 ⟨rfl, hb1⟩
    have bx1 := Lib.hid (bx0.out.keep hb1)
    have bl1 := bel_trans bl0 hb1
    obtain ⟨c0_1, c1_1, c2_1, hk1⟩ := bx1.out
    go_wp2_with fail
    refine (specWets_any a b c s n _ hs).mono ?_
    rintro e w2 ⟨rfl, hb2⟩
    rw [Hv.out]
    have bx2 := Lib.hid (bx1.out.keep hb2)
    have bl2 := bel_trans bl1 hb2
    obtain ⟨c0_2, c1_2, c2_2, hk2⟩ := bx2.out
    go_wp2_with fail
    refine (toChain_any _ _ _ _).mono ?_
    rintro e w3 ⟨rfl, hb3⟩
    have bx3 := Lib.hid (bx2.out.keep hb3)
    have bl3 := bel_trans bl2 hb3
    obtain ⟨c0_3, c1_3, c2_3, hk3⟩ := bx3.out
    go_wp2_with fail
    refine (implWets_any a b c s n _ hs).mono ?_
    rintro e w4 ⟨rfl, hb4⟩
    rw [Hv.out]
    have bx4 := Lib.hid (bx3.out.keep hb4)
    have bl4 := bel_trans bl3 hb4
    obtain ⟨c0_4, c1_4, c2_4, hk4⟩ := bx4.out
    go_wp2_with fail
    go_ret
    exact ⟨rfl, bl4⟩
  · go_enter Try.func13, Try.ntmps13
    go_wp2
    go_ret
    exact ⟨rfl, bel_alloc (Below.refl _ _) _⟩
end Go.Proofs.Ytkehgokgngimgaa
