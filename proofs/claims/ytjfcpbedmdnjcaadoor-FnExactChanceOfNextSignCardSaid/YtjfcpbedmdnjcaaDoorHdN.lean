/- ChanceOfNextSign: the contracts of the program and of its model, and the walk. -/
import Derived.Test.YtjfcpbedmdnjcaaDoorHdK
namespace Go.Proofs.YtjfcpbedmdnjcaaDoor
set_option linter.unusedSimpArgs false
open Go.ChangeShapes Go.WideShapes Go.ChangeAt Go.RowKit
set_option linter.unusedVariables false

def ansNx (a b c p q r : Int) (s t : ByteArray) : Value := if (goodH a b c p q r && signsB s) && (sgnS t && decide (0 < topS a b c p q r s)) then lowV (sgT a b c p q r (s ++ t)) (sgT a b c p q r s * c * r) else failV
theorem ansNx_form (a b c p q r : Int) (s t : ByteArray) : ∃ (x y : Int) (o : Bool), ansNx a b c p q r s t = .tuple #[.int .i64 x, .int .i64 y, .bool o] := if_form _ (lowV_form _ _) failV_form
theorem sgn_text {t : ByteArray} (h : sgnS t = true) : t = ⟨#[117]⟩ ∨ t = ⟨#[110]⟩ := by
  unfold sgnS at h
  rw [ByteArray.toList_eq] at h
  rw [Bool.or_eq_true, beq_iff_eq, beq_iff_eq] at h
  rcases h with e | e
  · left; apply ByteArray.ext; apply Array.toList_inj.1; rw [e]
  · right; apply ByteArray.ext; apply Array.toList_inj.1; rw [e]
theorem sgn_more {s t : ByteArray} (h : sgnS t = true) (ha : allG s = true) : allG (s ++ t) = true ∧ (s ++ t).size = s.size + 1 := by
  rcases sgn_text h with rfl | rfl
  all_goals
    refine ⟨?_, by rw [ByteArray.size_append]; rfl⟩
    unfold allG at *
    simp [ha, sgB]
theorem next_den {T c r : Int} (hT : 1 ≤ T) (hT2 : T ≤ 25600000000000000 / 100) (c1 : 1 ≤ c) (c2 : c ≤ 10) (c3 : 1 ≤ r) (c4 : r ≤ 10) : 1 ≤ T * c ∧ T * c ≤ 10 * T ∧ 1 ≤ T * c * r ∧ T * c * r ≤ 25600000000000000 := by
  have e1 : T * 1 ≤ T * c := Int.mul_le_mul_of_nonneg_left c1 (by omega)
  have e2 : T * c ≤ T * 10 := Int.mul_le_mul_of_nonneg_left c2 (by omega)
  have e3 : T * c * 1 ≤ T * c * r := Int.mul_le_mul_of_nonneg_left c3 (by omega)
  have e4 : T * c * r ≤ T * c * 10 := Int.mul_le_mul_of_nonneg_left c4 (by omega)
  omega
theorem ten_le12 (k : Nat) (h : k ≤ 12) : (10 : Int) ^ k ≤ 1000000000000 := by
  match k, h with
  | 0, _ | 1, _ | 2, _ | 3, _ | 4, _ | 5, _ | 6, _ | 7, _ | 8, _ | 9, _ | 10, _ | 11, _ | 12, _ => decide
theorem sgT_six {a b c p q r : Int} (h : inR a b c) (g : inR p q r) (s : ByteArray) (h6 : s.size ≤ 6) : sgT a b c p q r s ≤ 25600000000000000 / 100 := by
  have hb : ∀ i, vS a b c p q r s i ≤ 1000000000000 := fun i => by
    have hz := rkT_size 100 119 s.size i
    exact Int.le_trans (bthK_in h g _ s _).2 (ten_le12 _ (by omega))
  have h2 := (sumU_in (vS a b c p q r s) 1000000000000 (2 ^ s.size) (fun i _ => ⟨(vS_in h g s (by omega) i).1, hb i⟩)).2
  have h3 : (2 : Nat) ^ s.size ≤ 64 := by
    have : 2 ^ s.size ≤ 2 ^ 6 := Nat.pow_le_pow_right (by omega) h6
    simpa using this
  unfold sgT
  omega

def HkR (w W : World) (k : Nat) (a b c p q r : Int) (B : Nat) (v : Value) (zs : List Int) : Prop := W.cell? ⟨k, 0, none⟩ = some (.int .i64 a) ∧ W.cell? ⟨k, 1, none⟩ = some (.int .i64 b) ∧ W.cell? ⟨k, 2, none⟩ = some (.int .i64 c) ∧ W.cell? ⟨k, 3, none⟩ = some (.int .i64 p) ∧ W.cell? ⟨k, 4, none⟩ = some (.int .i64 q) ∧ W.cell? ⟨k, 5, none⟩ = some (.int .i64 r) ∧ k < W.heap.size ∧ IRow W B v zs ∧ Below w.heap.size w W
theorem hr_start {w W : World} {k : Nat} {a b c p q r : Int} {B : Nat} {v : Value} {zs : List Int} (h : Box6 W k a b c p q r) (hR : IRow W B v zs) (hb : Below w.heap.size w W) : HkR w W.drew k a b c p q r B v zs := by
  obtain ⟨h0, h1, h2, h3, h4, h5, h6⟩ := h
  exact ⟨h0, h1, h2, h3, h4, h5, h6, hR, hb.drew⟩
theorem hr_keep {w W w1 : World} {k : Nat} {a b c p q r : Int} {B : Nat} {v : Value} {zs : List Int} (h : HkR w W k a b c p q r B v zs) (hb : Below W.heap.size W w1) : HkR w w1 k a b c p q r B v zs := by
  obtain ⟨h0, h1, h2, h3, h4, h5, h6, hR, h7⟩ := h
  obtain ⟨g0, g1, g2, g3, g4, g5, g6⟩ := Box6.keep ⟨h0, h1, h2, h3, h4, h5, h6⟩ hb
  exact ⟨g0, g1, g2, g3, g4, g5, g6, hR.below hb, bel_trans h7 hb⟩
theorem hr_drewN {w W : World} {k : Nat} {a b c p q r : Int} {B : Nat} {v : Value} {zs : List Int} (h : HkR w W k a b c p q r B v zs) (n : Nat) : HkR w (W.drewN n) k a b c p q r B v zs := by
  obtain ⟨h0, h1, h2, h3, h4, h5, h6, hR, h7⟩ := h
  exact ⟨h0, h1, h2, h3, h4, h5, h6, hR.drewN n, bel_drewN h7 n⟩
theorem hr_row {w W : World} {k : Nat} {a b c p q r : Int} {B : Nat} {v : Value} {zs : List Int} (h : HkR w W k a b c p q r B v zs) : IRow W B v zs := h.2.2.2.2.2.2.2.1
theorem hr_below {w W : World} {k : Nat} {a b c p q r : Int} {B : Nat} {v : Value} {zs : List Int} (h : HkR w W k a b c p q r B v zs) : Below w.heap.size w W := h.2.2.2.2.2.2.2.2

set_option maxRecDepth 100000 in
set_option maxHeartbeats 3200000 in
theorem specNx_any (a b c p q r : Int) (s t : ByteArray) (w : World) (hs : s.size ≤ maxLen) (htt : t.size ≤ maxLen) :
    Calls Tryd.prog 29 #[hdn a b c p q r, .string s, .string t] w fun e w' => e = .returned (ansNx a b c p q r s t) ∧ Below w.heap.size w w' := by
  have HS := Lib.hid hs
  have bx := Lib.hid (Box6.new w a b c p q r 31)
  cases h : (goodH a b c p q r && signsB s)
  · rw [show ansNx a b c p q r s t = failV from by unfold ansNx; rw [h]; rfl]
    go_enter Tryd.func29, Tryd.ntmps29
    go_wp2_with fail
    refine (hdAsked_any _ _ _ _ _ _ s _ HS.out).mono ?_
    rintro e w1 ⟨rfl, hb1⟩
    rw [h]
    go_wp2_with fail
    go_ret3
    exact ⟨rfl, bel_trans (bel_alloc (Below.refl _ _) _) hb1⟩
  cases hst : sgnS t
  · rw [show ansNx a b c p q r s t = failV from by unfold ansNx; rw [h, hst]; rfl]
    unfold sgnS at hst
    rw [Bool.or_eq_false_iff] at hst
    obtain ⟨e1, e2⟩ := hst
    have e3 : ¬ t.toList = [117] := by simpa using e1
    have e4 : ¬ t.toList = [110] := by simpa using e2
    go_enter Tryd.func29, Tryd.ntmps29
    go_wp2_with fail
    refine (hdAsked_any _ _ _ _ _ _ s _ HS.out).mono ?_
    rintro e w1 ⟨rfl, hb1⟩
    rw [h]
    go_wp2_with fail
    go_ret3
    exact ⟨rfl, bel_trans (bel_alloc (Below.refl _ _) _) hb1⟩
  have h' := h
  rw [Bool.and_eq_true] at h'
  obtain ⟨hr, hp⟩ := goodH_in h'.1
  obtain ⟨h1, h6, ha⟩ := signs_in h'.2
  have c1 : 1 ≤ c ∧ c ≤ 10 ∧ 1 ≤ r ∧ r ≤ 10 := by unfold inR at hr hp; omega
  obtain ⟨c1, c2, c3, c4⟩ := c1
  have hS : Hid (∀ W : World, Calls Tryd.prog 44 #[hdn a b c p q r, .string s, .int .i64 0, .int .u8 0] W fun e w' => e = .returned (.int .i64 (sgT a b c p q r s)) ∧ Below W.heap.size W w') := Lib.hid (fun W => hdSumA_any a b c p q r s 0 W hr hp ha h1 (by omega))
  rcases topS_cases hr hp s (by omega) with ⟨ht, hT⟩ | ⟨ht, hT⟩
  rotate_left
  · rw [show ansNx a b c p q r s t = failV from by unfold ansNx; rw [h, hst, decide_eq_false ht]; rfl]
    rw [hT] at hS
    clear hr hp ha h' c1 c2 c3 c4 ht hT
    rcases sgn_text hst with rfl | rfl
    all_goals
      go_enter Tryd.func29, Tryd.ntmps29
      go_wp2_with fail
      refine (hdAsked_any _ _ _ _ _ _ s _ HS.out).mono ?_
      rintro e w1 ⟨rfl, hb1⟩
      rw [h]
      have bx1 := Lib.hid (bx.out.keep hb1)
      have bl1 := Lib.hid (bel_trans (bel_alloc (Below.refl _ w) _) hb1)
      obtain ⟨d0, d1, d2, d3, d4, d5, d6⟩ := bx1.out
      clear hb1
      go_wp2_with fail
      refine (hS.out _).mono ?_
      rintro e w2 ⟨rfl, hb2⟩
      go_wp2_with fail
      go_ret3
      exact ⟨rfl, bel_trans bl1.out hb2⟩
  · have h2n := sgT_six hr hp s h6
    obtain ⟨m1, m2, m3, m4⟩ := next_den hT h2n c1 c2 c3 c4
    obtain ⟨hn1, hn2⟩ := sgn_more hst ha
    have hadd : ∀ W : World, (Op.stringOp .add s t).run Tryd.prog W = .ok (.string (s ++ t)) W := fun W => run_string_add W _ _ (by omega) (by rcases sgn_text hst with rfl | rfl <;> (show ((1 : Nat) : Int) ≤ 8388608; omega))
    obtain ⟨x0, x1⟩ := sgT_in hr hp (s ++ t) (by omega)
    have hA : Hid (∀ W : World, Calls Tryd.prog 44 #[hdn a b c p q r, .string (s ++ t), .int .i64 0, .int .u8 0] W fun e w' => e = .returned (.int .i64 (sgT a b c p q r (s ++ t))) ∧ Below W.heap.size W w') := Lib.hid (fun W => hdSumA_any a b c p q r (s ++ t) 0 W hr hp hn1 (by omega) (by omega))
    have hC : Hid (∀ W : World, Calls Tryd.prog 35 #[.int .i64 (sgT a b c p q r (s ++ t)), .int .i64 (sgT a b c p q r s * c * r)] W fun e w' => e = .returned (.tuple #[.int .i64 (low (sgT a b c p q r (s ++ t)) (sgT a b c p q r (s ++ t)) (sgT a b c p q r s * c * r)), .int .i64 (low (sgT a b c p q r s * c * r) (sgT a b c p q r (s ++ t)) (sgT a b c p q r s * c * r))]) ∧ ∃ n, w' = W.drewN n) := Lib.hid (fun W => cnLow_big _ _ W x0 m3 (by omega) (by omega))
    rw [show ansNx a b c p q r s t = lowV (sgT a b c p q r (s ++ t)) (sgT a b c p q r s * c * r) from by unfold ansNx; rw [h, hst, decide_eq_true ht]; rfl]
    unfold lowV
    have hT2 : (sgT a b c p q r s == 0) = false := by simp; omega
    generalize sgT a b c p q r (s ++ t) = Y at *
    generalize sgT a b c p q r s = X at *
    generalize s ++ t = st at *
    have hw1 : IntKind.i64.wrap (X * c) = X * c := IntWalk.i64_in _ (by omega)
    have hw2 : IntKind.i64.wrap (X * c * r) = X * c * r := IntWalk.i64_in _ (by omega)
    clear hr hp ha h' ht x0 x1 hn1 hn2 h2n hT
    rcases sgn_text hst with rfl | rfl
    all_goals
      go_enter Tryd.func29, Tryd.ntmps29
      go_wp2_with fail
      refine (hdAsked_any _ _ _ _ _ _ s _ HS.out).mono ?_
      rintro e w1 ⟨rfl, hb1⟩
      rw [h]
      have bx1 := Lib.hid (bx.out.keep hb1)
      have bl1 := Lib.hid (bel_trans (bel_alloc (Below.refl _ w) _) hb1)
      obtain ⟨d0, d1, d2, d3, d4, d5, d6⟩ := bx1.out
      clear hb1
      go_wp2_with fail
      refine (hS.out _).mono ?_
      rintro e w2 ⟨rfl, hb2⟩
      have bx3 := Lib.hid (bx1.out.keep hb2)
      have bl3 := bel_trans bl1.out hb2
      clear hb2 d0 d1 d2 d3 d4 d5 d6
      go_wp2_with fail
      go_region_held3 (fun w' => w'.cell? ⟨w.heap.size, 0, none⟩ = some (.int .i64 a) ∧ w'.cell? ⟨w.heap.size, 1, none⟩ = some (.int .i64 b) ∧ w'.cell? ⟨w.heap.size, 2, none⟩ = some (.int .i64 c) ∧ w'.cell? ⟨w.heap.size, 3, none⟩ = some (.int .i64 p) ∧ w'.cell? ⟨w.heap.size, 4, none⟩ = some (.int .i64 q) ∧ w'.cell? ⟨w.heap.size, 5, none⟩ = some (.int .i64 r) ∧ w.heap.size < w'.heap.size ∧ Below w.heap.size w w')
        (first | exact h6_start bx3.out bl3 | exact h6_keep (by assumption) hb2 | exact h6_drewN (by assumption) _ | assumption | go_keep)
        (first | (go_at_call 44; refine (hA.out _).mono ?_; rintro e w2 ⟨rfl, hb2⟩) | (go_at_call 35; refine (hC.out _).mono ?_; rintro e w3 ⟨rfl, n3, rfl⟩))
      all_goals
        obtain ⟨hbx9, hbl9⟩ := h6_below (by assumption)
        clear hbx9
        go_wp2
        go_ret3
        exact ⟨rfl, hbl9⟩

set_option maxRecDepth 100000 in
set_option maxHeartbeats 3200000 in
theorem implNx_any (a b c p q r : Int) (s t : ByteArray) (w : World) (hs : s.size ≤ maxLen) (htt : t.size ≤ maxLen) :
    Calls Tryd.prog 30 #[hdn a b c p q r, .string s, .string t] w fun e w' => e = .returned (ansNx a b c p q r s t) ∧ Below w.heap.size w w' := by
  have HS := Lib.hid hs
  have HT := Lib.hid htt
  have bx := Lib.hid (Box6.new w a b c p q r 31)
  cases h : (goodH a b c p q r && signsB s)
  · rw [show ansNx a b c p q r s t = failV from by unfold ansNx; rw [h]; rfl]
    go_enter Tryd.func30, Tryd.ntmps30
    go_wp2_with fail
    refine (behind_no a b c p q r s _ HS.out h).mono ?_
    rintro e w1 ⟨rfl, hb1⟩
    go_wp2_with fail
    go_ret3
    exact ⟨rfl, bel_trans (bel_alloc (Below.refl _ _) _) hb1⟩
  have h' := h
  rw [Bool.and_eq_true] at h'
  obtain ⟨hr, hp⟩ := goodH_in h'.1
  obtain ⟨h1, h6, ha⟩ := signs_in h'.2
  have c1 : 1 ≤ c ∧ c ≤ 10 ∧ 1 ≤ r ∧ r ≤ 10 := by unfold inR at hr hp; omega
  obtain ⟨c1, c2, c3, c4⟩ := c1
  have hB : Hid (∀ W : World, Calls Tryd.prog 48 #[hdn a b c p q r, .string s] W fun e w' => ∃ v, e = .returned (.tuple #[v, .bool (decide (0 < topS a b c p q r s))]) ∧ IRow w' W.heap.size v (allV a b c p q r s) ∧ Below W.heap.size W w') := Lib.hid (fun W => behind_yes a b c p q r s W h'.1 h'.2)
  rcases topS_cases hr hp s (by omega) with ⟨ht, hT⟩ | ⟨ht, hT⟩
  rotate_left
  · rw [show ansNx a b c p q r s t = failV from by unfold ansNx; rw [h, decide_eq_false ht, Bool.and_false]; rfl]
    rw [decide_eq_false ht] at hB
    clear hr hp ha h' c1 c2 c3 c4 ht hT
    go_enter Tryd.func30, Tryd.ntmps30
    go_wp2_with fail
    refine (hB.out _).mono ?_
    rintro e w1 ⟨v, rfl, hR, hb1⟩
    go_wp2_with fail
    go_ret3
    exact ⟨rfl, bel_trans (bel_alloc (Below.refl _ _) _) hb1⟩
  rw [decide_eq_true ht] at hB
  have hI : Hid (∀ W : World, Calls Tryd.prog 61 #[.string t] W fun e w' => e = .returned (.bool (sgnS t)) ∧ Below W.heap.size W w') := Lib.hid (fun W => isSign_any t W HT.out)
  cases hst : sgnS t
  · rw [show ansNx a b c p q r s t = failV from by unfold ansNx; rw [h, hst]; rfl]
    rw [hst] at hI
    clear hr hp ha h' c1 c2 c3 c4 ht hT
    go_enter Tryd.func30, Tryd.ntmps30
    go_wp2_with fail
    refine (hB.out _).mono ?_
    rintro e w1 ⟨v, rfl, hR, hb1⟩
    go_wp2_with fail
    refine (hI.out _).mono ?_
    rintro e w2 ⟨rfl, hb2⟩
    go_wp2_with fail
    go_ret3
    exact ⟨rfl, bel_trans (bel_trans (bel_alloc (Below.refl _ _) _) hb1) hb2⟩
  · have h2n := sgT_six hr hp s h6
    rw [hst] at hI
    obtain ⟨m1, m2, m3, m4⟩ := next_den hT h2n c1 c2 c3 c4
    obtain ⟨hn1, hn2⟩ := sgn_more hst ha
    have hadd : ∀ W : World, (Op.stringOp .add s t).run Tryd.prog W = .ok (.string (s ++ t)) W := fun W => run_string_add W _ _ (by omega) (by rcases sgn_text hst with rfl | rfl <;> (show ((1 : Nat) : Int) ≤ 8388608; omega))
    obtain ⟨x0, x1⟩ := sgT_in hr hp (s ++ t) (by omega)
    have hA : Hid (∀ W : World, Calls Tryd.prog 45 #[hdn a b c p q r, .string (s ++ t)] W fun e w' => e = .returned (.int .i64 (sgT a b c p q r (s ++ t))) ∧ Below W.heap.size W w') := Lib.hid (fun W => chanceOf_any a b c p q r (s ++ t) W hr hp hn1 (by omega) (by omega))
    have hC : Hid (∀ W : World, Calls Tryd.prog 41 #[.int .i64 (sgT a b c p q r (s ++ t)), .int .i64 (sgT a b c p q r s * c * r)] W fun e w' => e = .returned (lowV (sgT a b c p q r (s ++ t)) (sgT a b c p q r s * c * r)) ∧ ∃ n, w' = W.drewN n) := Lib.hid (fun W => told_big _ _ W x0 m3 (by omega) (by omega))
    have hD : Hid (∀ (W : World) (base : Nat) (v : Value), IRow W base v (allV a b c p q r s) → Calls Tryd.prog 50 #[v, .int .i64 0] W fun e w' => e = .returned (pr2 (kdV a b c p q r s 0 0) (kdV a b c p q r s 0 1)) ∧ Below W.heap.size W w') := Lib.hid (fun W base v h => daysAtV_any a b c p q r s v base 0 W hr hp (by omega) (by omega) h)
    obtain ⟨k0, k1⟩ := kd_in hr hp s (by omega) 0 0
    obtain ⟨k2, k3⟩ := kd_in hr hp s (by omega) 0 1
    have hsum := Lib.hid (kd_all a b c p q r s 0)
    have hG : Hid (∀ W : World, Calls Tryd.prog 52 #[pr2 (kdV a b c p q r s 0 0) (kdV a b c p q r s 0 1)] W fun e w' => e = .returned (.int .i64 (sgT a b c p q r s)) ∧ Below W.heap.size W w') := Lib.hid (fun W => by rw [← hsum.out]; exact together_any _ _ W k0 k2 (by omega) (by omega))
    rw [show ansNx a b c p q r s t = lowV (sgT a b c p q r (s ++ t)) (sgT a b c p q r s * c * r) from by unfold ansNx; rw [h, hst, decide_eq_true ht]; rfl]
    unfold lowV at *
    generalize kdV a b c p q r s 0 0 = K0 at *
    generalize kdV a b c p q r s 0 1 = K1 at *
    generalize sgT a b c p q r (s ++ t) = Y at *
    generalize sgT a b c p q r s = X at *
    generalize allV a b c p q r s = zs at *
    generalize s ++ t = st at *
    have hw1 : IntKind.i64.wrap (X * c) = X * c := IntWalk.i64_in _ (by omega)
    have hw2 : IntKind.i64.wrap (X * c * r) = X * c * r := IntWalk.i64_in _ (by omega)
    clear hr hp ha h' ht x0 x1 hn1 hn2 h2n hT k0 k1 k2 k3 hsum
    go_enter Tryd.func30, Tryd.ntmps30
    go_wp2_with fail
    refine (hB.out _).mono ?_
    rintro e w1 ⟨v, rfl, hR, hb1⟩
    have bx1 := Lib.hid (bx.out.keep hb1)
    have bl1 := Lib.hid (bel_trans (bel_alloc (Below.refl _ w) _) hb1)
    have HR := Lib.hid hR
    clear hb1 hR
    go_wp2_with fail
    refine (hI.out _).mono ?_
    rintro e w2 ⟨rfl, hb2⟩
    have bx2 := Lib.hid (bx1.out.keep hb2)
    have bl2 := Lib.hid (bel_trans bl1.out hb2)
    have HR2 := Lib.hid (HR.out.below hb2)
    clear hb2 bx1 bl1 HR
    generalize hBB : (w.alloc _).heap.size = BB at HR2
    clear hBB
    go_wp2_with fail
    go_region_held3 (fun w' => w'.cell? ⟨w.heap.size, 0, none⟩ = some (.int .i64 a) ∧ w'.cell? ⟨w.heap.size, 1, none⟩ = some (.int .i64 b) ∧ w'.cell? ⟨w.heap.size, 2, none⟩ = some (.int .i64 c) ∧ w'.cell? ⟨w.heap.size, 3, none⟩ = some (.int .i64 p) ∧ w'.cell? ⟨w.heap.size, 4, none⟩ = some (.int .i64 q) ∧ w'.cell? ⟨w.heap.size, 5, none⟩ = some (.int .i64 r) ∧ w.heap.size < w'.heap.size ∧ IRow w' BB v zs ∧ Below w.heap.size w w')
      (first | exact hr_start bx2.out HR2.out bl2.out | exact hr_keep (by assumption) hb3 | exact hr_keep (by assumption) hb4 | exact hr_keep (by assumption) hb5 | exact hr_drewN (by assumption) _ | assumption | go_keep)
      (first | (go_at_call 45; refine (hA.out _).mono ?_; rintro e w3 ⟨rfl, hb3⟩) | (go_at_call 50; refine (hD.out _ _ _ (hr_row (by assumption))).mono ?_; rintro e w4 ⟨rfl, hb4⟩) | (go_at_call 52; refine (hG.out _).mono ?_; rintro e w5 ⟨rfl, hb5⟩) | (go_at_call 41; refine (hC.out _).mono ?_; rintro e w6 ⟨rfl, n6, rfl⟩))
    all_goals
      have hbl9 := hr_below (by assumption)
      go_wp2
      go_ret3
      exact ⟨rfl, hbl9⟩

set_option maxRecDepth 100000 in
set_option maxHeartbeats 3200000 in
theorem walkExactChanceOfNextSign (a b c p q r : Int) (s : ByteArray) (t : ByteArray) (w : World) (ha : (Lit.int .i64 a).wf = true) (hb : (Lit.int .i64 b).wf = true) (hc : (Lit.int .i64 c).wf = true) (hp : (Lit.int .i64 p).wf = true) (hq : (Lit.int .i64 q).wf = true) (hr : (Lit.int .i64 r).wf = true) (zs : s.size ≤ maxLen) (zt : t.size ≤ maxLen) :
    Calls Tryd.prog 11 #[hdn a b c p q r, .string s, .string t] w fun e w' => e = .returned (.bool true) ∧ Below w.heap.size w w' := by
  clear ha hb hc hp hq hr
  by_cases ls : s.size ≤ 1048576
  · skip
    by_cases lt : t.size ≤ 1048576
    · skip
      obtain ⟨x, y, ok, hv⟩ := ansNx_form a b c p q r s t
      have Zs := Lib.hid zs
      have Zt := Lib.hid zt
      have Hv := Lib.hid hv
      clear hv zs zt
      have bx := Lib.hid (Box6.new w a b c p q r 26)
      go_enter Tryd.func11, Tryd.ntmps11
      go_wp2_with fail
      refine (toHidden_any _ _ _ _ _ _ _).mono ?_
      rintro e w1 ⟨rfl, hb1⟩
      have bx1 := Lib.hid (bx.out.keep hb1)
      go_wp2_with fail
      refine (specNx_any _ _ _ _ _ _ s t _ Zs.out Zt.out).mono ?_
      rw [Hv.out]
      rintro e w2 ⟨rfl, hb2⟩
      obtain ⟨c0, c1, c2, c3, c4, c5, hk⟩ := bx1.out.keep hb2
      go_wp2_with fail
      refine (toHidden_any _ _ _ _ _ _ _).mono ?_
      rintro e w3 ⟨rfl, hb3⟩
      go_wp2_with fail
      refine (implNx_any _ _ _ _ _ _ s t _ Zs.out Zt.out).mono ?_
      rw [Hv.out]
      rintro e w4 ⟨rfl, hb4⟩
      go_wp2_with fail
      go_ret
      exact ⟨rfl, bel_trans (bel_trans (bel_trans (bel_trans (bel_alloc (Below.refl _ _) _) hb1) hb2) hb3) hb4⟩
    · go_enter Tryd.func11, Tryd.ntmps11
      go_wp2
      go_ret
      exact ⟨rfl, bel_alloc (Below.refl _ _) _⟩
  · go_enter Tryd.func11, Tryd.ntmps11
    go_wp2
    go_ret
    exact ⟨rfl, bel_alloc (Below.refl _ _) _⟩

end Go.Proofs.YtjfcpbedmdnjcaaDoor
