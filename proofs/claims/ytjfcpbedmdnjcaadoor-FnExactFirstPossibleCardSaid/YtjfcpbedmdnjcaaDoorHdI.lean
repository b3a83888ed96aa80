/- ChanceOfDay: the contracts of the program and of its model, and the walk. -/
import Derived.Test.YtjfcpbedmdnjcaaDoorHdH
namespace Go.Proofs.YtjfcpbedmdnjcaaDoor
set_option linter.unusedSimpArgs false
open Go.ChangeShapes Go.WideShapes Go.ChangeAt Go.RowKit
set_option linter.unusedVariables false

/-- The kind of a day: 0 if it is dry, 1 if it is wet. -/
def dyE (t : ByteArray) : Nat := if t.toList == [100] then 0 else 1
def ansDa (a b c p q r : Int) (s : ByteArray) (k : Int) (t : ByteArray) : Value := if (goodH a b c p q r && signsB s) && (inB k 0 (s.size - 1) && (dayS t && decide (0 < topS a b c p q r s))) then lowV (kdV a b c p q r s k.toNat (dyE t)) (sgT a b c p q r s) else failV
theorem ansDa_form (a b c p q r : Int) (s : ByteArray) (k : Int) (t : ByteArray) : ∃ (x y : Int) (o : Bool), ansDa a b c p q r s k t = .tuple #[.int .i64 x, .int .i64 y, .bool o] := if_form _ (lowV_form _ _) failV_form
theorem day_text {t : ByteArray} (h : dayS t = true) : t = ⟨#[100]⟩ ∨ t = ⟨#[119]⟩ := by
  rcases dayS_cases h with e | e
  · left; apply ByteArray.ext; apply Array.toList_inj.1; rw [e]
  · right; apply ByteArray.ext; apply Array.toList_inj.1; rw [e]
theorem dyE_0 : dyE ⟨#[100]⟩ = 0 := by unfold dyE; rw [ByteArray.toList_eq]; rfl
theorem dyE_1 : dyE ⟨#[119]⟩ = 1 := by unfold dyE; rw [ByteArray.toList_eq]; rfl
theorem ixD (W : World) : Calls Tryd.prog 51 #[.string ⟨#[100, 119]⟩, .string ⟨#[100]⟩] W fun e w' => e = .returned (.int .i64 0) ∧ w' = W := Tryd.strings_Index_one ⟨#[100, 119]⟩ 100 W
theorem ixW (W : World) : Calls Tryd.prog 51 #[.string ⟨#[100, 119]⟩, .string ⟨#[119]⟩] W fun e w' => e = .returned (.int .i64 1) ∧ w' = W := Tryd.strings_Index_one ⟨#[100, 119]⟩ 119 W

set_option maxRecDepth 100000 in
set_option maxHeartbeats 3200000 in
theorem specDa_any (a b c p q r : Int) (s : ByteArray) (k : Int) (t : ByteArray) (w : World) (hs : s.size ≤ maxLen) (hk : (Lit.int .i64 k).wf = true) (htt : t.size ≤ maxLen) :
    Calls Tryd.prog 19 #[hdn a b c p q r, .string s, .int .i64 k, .string t] w fun e w' => e = .returned (ansDa a b c p q r s k t) ∧ Below w.heap.size w w' := by
  have HS := Lib.hid hs
  have HT := Lib.hid htt
  clear hk
  have bx := Lib.hid (Box6.new w a b c p q r 31)
  cases h : (goodH a b c p q r && signsB s)
  · rw [show ansDa a b c p q r s k t = failV from by unfold ansDa; rw [h]; rfl]
    go_enter Tryd.func19, Tryd.ntmps19
    go_wp2_with fail
    refine (hdAsked_any _ _ _ _ _ _ s _ HS.out).mono ?_
    rintro e w1 ⟨rfl, hb1⟩
    rw [h]
    go_wp2_with fail
    go_ret3
    exact ⟨rfl, bel_trans (bel_alloc (Below.refl _ _) _) hb1⟩
  have h' := h
  rw [Bool.and_eq_true] at h'
  obtain ⟨hr, hp⟩ := goodH_in h'.1
  obtain ⟨h1, h6, ha⟩ := signs_in h'.2
  have c1 : 1 ≤ c ∧ c ≤ 10 ∧ 1 ≤ r ∧ r ≤ 10 := by unfold inR at hr hp; omega
  obtain ⟨c1, c2, c3, c4⟩ := c1
  have hw1 : IntKind.i64.wrap ((s.size : Int) - 1) = (s.size : Int) - 1 := IntWalk.i64_in _ (by omega)
  cases hki : inB k 0 ((s.size : Int) - 1)
  · rw [show ansDa a b c p q r s k t = failV from by unfold ansDa; rw [h, hki]; rfl]
    clear hr hp ha h' c1 c2 c3 c4
    go_enter Tryd.func19, Tryd.ntmps19
    go_wp2_with fail
    refine (hdAsked_any _ _ _ _ _ _ s _ HS.out).mono ?_
    rintro e w1 ⟨rfl, hb1⟩
    rw [h]
    go_wp2_with fail
    refine (l1In_any _ _ _ _).mono ?_
    rintro e w9 ⟨rfl, rfl⟩
    rw [hki]
    go_wp2_with fail
    go_ret3
    exact ⟨rfl, bel_trans (bel_alloc (Below.refl _ _) _) hb1⟩
  have hgc : good a b c = true := by have := h'.1; unfold goodH at this; rw [Bool.and_eq_true] at this; exact this.1
  cases hdt : dayS t
  · rw [show ansDa a b c p q r s k t = failV from by unfold ansDa; rw [h, hki, hdt]; rfl]
    clear hr hp ha h' c1 c2 c3 c4
    go_enter Tryd.func19, Tryd.ntmps19
    go_wp2_with fail
    refine (hdAsked_any _ _ _ _ _ _ s _ HS.out).mono ?_
    rintro e w1 ⟨rfl, hb1⟩
    rw [h]
    have bx1 := Lib.hid (bx.out.keep hb1)
    have bl1 := Lib.hid (bel_trans (bel_alloc (Below.refl _ w) _) hb1)
    obtain ⟨d0, d1, d2, d3, d4, d5, d6⟩ := bx1.out
    clear hb1
    go_wp2_with fail
    refine (l1In_any _ _ _ _).mono ?_
    rintro e w9 ⟨rfl, rfl⟩
    rw [hki]
    go_wp2_with fail
    refine (cnDay_any a b c t _ HT.out).mono ?_
    rintro e w2 ⟨rfl, hb2⟩
    rw [hgc]
    rw [hdt]
    go_wp2_with fail
    go_ret3
    exact ⟨rfl, bel_trans bl1.out hb2⟩
  have hkb := (inB_iff _ _ _).1 hki
  obtain ⟨m, rfl⟩ : ∃ m : Nat, k = m := ⟨k.toNat, by omega⟩
  have hm : m < s.size := by omega
  clear hkb
  have hS : Hid (∀ W : World, Calls Tryd.prog 44 #[hdn a b c p q r, .string s, .int .i64 0, .int .u8 0] W fun e w' => e = .returned (.int .i64 (sgT a b c p q r s)) ∧ Below W.heap.size W w') := Lib.hid (fun W => hdSumA_any a b c p q r s 0 W hr hp ha h1 (by omega))
  obtain ⟨x0, x1⟩ := sgT_in hr hp s (by omega)
  rcases topS_cases hr hp s (by omega) with ⟨ht, hT⟩ | ⟨ht, hT⟩
  rotate_left
  · rw [show ansDa a b c p q r s m t = failV from by unfold ansDa; rw [h, hki, hdt, decide_eq_false ht]; rfl]
    rw [hT] at hS
    clear hr hp ha h' c1 c2 c3 c4 ht hT x0 x1
    go_enter Tryd.func19, Tryd.ntmps19
    go_wp2_with fail
    refine (hdAsked_any _ _ _ _ _ _ s _ HS.out).mono ?_
    rintro e w1 ⟨rfl, hb1⟩
    rw [h]
    have bx1 := Lib.hid (bx.out.keep hb1)
    have bl1 := Lib.hid (bel_trans (bel_alloc (Below.refl _ w) _) hb1)
    obtain ⟨d0, d1, d2, d3, d4, d5, d6⟩ := bx1.out
    clear hb1
    go_wp2_with fail
    refine (l1In_any _ _ _ _).mono ?_
    rintro e w9 ⟨rfl, rfl⟩
    rw [hki]
    go_wp2_with fail
    refine (cnDay_any a b c t _ HT.out).mono ?_
    rintro e w2 ⟨rfl, hb2⟩
    rw [hgc]
    rw [hdt]
    have bx2 := Lib.hid (bx1.out.keep hb2)
    have bl2 := Lib.hid (bel_trans bl1.out hb2)
    clear hb2 d0 d1 d2 d3 d4 d5 d6
    obtain ⟨d0, d1, d2, d3, d4, d5, d6⟩ := bx2.out
    go_wp2_with fail
    refine (hS.out _).mono ?_
    rintro e w3 ⟨rfl, hb3⟩
    go_wp2_with fail
    go_ret3
    exact ⟨rfl, bel_trans bl2.out hb3⟩
  have hT2 : (sgT a b c p q r s == 0) = false := by simp; omega
  rcases day_text hdt with rfl | rfl
  · rw [show ansDa a b c p q r s m ⟨#[100]⟩ = lowV (kdV a b c p q r s m 0) (sgT a b c p q r s) from by unfold ansDa; rw [h, hki, hdt, decide_eq_true ht, dyE_0]; rfl]
    obtain ⟨y0, y1⟩ := kd_in hr hp s (by omega) m 0
    have hA : Hid (∀ W : World, Calls Tryd.prog 44 #[hdn a b c p q r, .string s, .int .i64 m, .int .u8 100] W fun e w' => e = .returned (.int .i64 (kdV a b c p q r s m 0)) ∧ Below W.heap.size W w') := Lib.hid (fun W => hdSum0_any a b c p q r s m W hr hp ha h1 (by omega) hm)
    have hC : Hid (∀ W : World, Calls Tryd.prog 35 #[.int .i64 (kdV a b c p q r s m 0), .int .i64 (sgT a b c p q r s)] W fun e w' => e = .returned (.tuple #[.int .i64 (low (kdV a b c p q r s m 0) (kdV a b c p q r s m 0) (sgT a b c p q r s)), .int .i64 (low (sgT a b c p q r s) (kdV a b c p q r s m 0) (sgT a b c p q r s))]) ∧ ∃ n, w' = W.drewN n) := Lib.hid (fun W => cnLow_big _ _ W y0 hT (by omega) (by omega))
    unfold lowV
    generalize sgT a b c p q r s = X at *
    generalize kdV a b c p q r s m 0 = Y at *
    clear hr hp ha h' c1 c2 c3 c4 ht x0 x1 y0 y1 hT
    go_enter Tryd.func19, Tryd.ntmps19
    go_wp2_with fail
    refine (hdAsked_any _ _ _ _ _ _ s _ HS.out).mono ?_
    rintro e w1 ⟨rfl, hb1⟩
    rw [h]
    have bx1 := Lib.hid (bx.out.keep hb1)
    have bl1 := Lib.hid (bel_trans (bel_alloc (Below.refl _ w) _) hb1)
    obtain ⟨d0, d1, d2, d3, d4, d5, d6⟩ := bx1.out
    clear hb1
    go_wp2_with fail
    refine (l1In_any _ _ _ _).mono ?_
    rintro e w9 ⟨rfl, rfl⟩
    rw [hki]
    go_wp2_with fail
    refine (cnDay_any a b c _ _ HT.out).mono ?_
    rintro e w2 ⟨rfl, hb2⟩
    rw [hgc]
    rw [hdt]
    have bx2 := Lib.hid (bx1.out.keep hb2)
    have bl2 := Lib.hid (bel_trans bl1.out hb2)
    clear hb2 d0 d1 d2 d3 d4 d5 d6
    obtain ⟨d0, d1, d2, d3, d4, d5, d6⟩ := bx2.out
    go_wp2_with fail
    refine (hS.out _).mono ?_
    rintro e w3 ⟨rfl, hb3⟩
    have bx3 := Lib.hid (bx2.out.keep hb3)
    have bl3 := bel_trans bl2.out hb3
    clear hb3 d0 d1 d2 d3 d4 d5 d6
    go_wp2_with fail
    go_region_held3 (fun w' => w'.cell? ⟨w.heap.size, 0, none⟩ = some (.int .i64 a) ∧ w'.cell? ⟨w.heap.size, 1, none⟩ = some (.int .i64 b) ∧ w'.cell? ⟨w.heap.size, 2, none⟩ = some (.int .i64 c) ∧ w'.cell? ⟨w.heap.size, 3, none⟩ = some (.int .i64 p) ∧ w'.cell? ⟨w.heap.size, 4, none⟩ = some (.int .i64 q) ∧ w'.cell? ⟨w.heap.size, 5, none⟩ = some (.int .i64 r) ∧ w.heap.size < w'.heap.size ∧ Below w.heap.size w w')
      (first | exact h6_start bx3.out bl3 | exact h6_keep (by assumption) hb2 | exact h6_drewN (by assumption) _ | assumption | go_keep)
      (first | (go_at_call 44; refine (hA.out _).mono ?_; rintro e w2 ⟨rfl, hb2⟩) | (go_at_call 35; refine (hC.out _).mono ?_; rintro e w3 ⟨rfl, n3, rfl⟩))
    all_goals
      obtain ⟨hbx9, hbl9⟩ := h6_below (by assumption)
      clear hbx9
      go_wp2
      go_ret3
      exact ⟨rfl, hbl9⟩
  · rw [show ansDa a b c p q r s m ⟨#[119]⟩ = lowV (kdV a b c p q r s m 1) (sgT a b c p q r s) from by unfold ansDa; rw [h, hki, hdt, decide_eq_true ht, dyE_1]; rfl]
    obtain ⟨y0, y1⟩ := kd_in hr hp s (by omega) m 1
    have hA : Hid (∀ W : World, Calls Tryd.prog 44 #[hdn a b c p q r, .string s, .int .i64 m, .int .u8 119] W fun e w' => e = .returned (.int .i64 (kdV a b c p q r s m 1)) ∧ Below W.heap.size W w') := Lib.hid (fun W => hdSum1_any a b c p q r s m W hr hp ha h1 (by omega) hm)
    have hC : Hid (∀ W : World, Calls Tryd.prog 35 #[.int .i64 (kdV a b c p q r s m 1), .int .i64 (sgT a b c p q r s)] W fun e w' => e = .returned (.tuple #[.int .i64 (low (kdV a b c p q r s m 1) (kdV a b c p q r s m 1) (sgT a b c p q r s)), .int .i64 (low (sgT a b c p q r s) (kdV a b c p q r s m 1) (sgT a b c p q r s))]) ∧ ∃ n, w' = W.drewN n) := Lib.hid (fun W => cnLow_big _ _ W y0 hT (by omega) (by omega))
    unfold lowV
    generalize sgT a b c p q r s = X at *
    generalize kdV a b c p q r s m 1 = Y at *
    clear hr hp ha h' c1 c2 c3 c4 ht x0 x1 y0 y1 hT
    go_enter Tryd.func19, Tryd.ntmps19
    go_wp2_with fail
    refine (hdAsked_any _ _ _ _ _ _ s _ HS.out).mono ?_
    rintro e w1 ⟨rfl, hb1⟩
    rw [h]
    have bx1 := Lib.hid (bx.out.keep hb1)
    have bl1 := Lib.hid (bel_trans (bel_alloc (Below.refl _ w) _) hb1)
    obtain ⟨d0, d1, d2, d3, d4, d5, d6⟩ := bx1.out
    clear hb1
    go_wp2_with fail
    refine (l1In_any _ _ _ _).mono ?_
    rintro e w9 ⟨rfl, rfl⟩
    rw [hki]
    go_wp2_with fail
    refine (cnDay_any a b c _ _ HT.out).mono ?_
    rintro e w2 ⟨rfl, hb2⟩
    rw [hgc]
    rw [hdt]
    have bx2 := Lib.hid (bx1.out.keep hb2)
    have bl2 := Lib.hid (bel_trans bl1.out hb2)
    clear hb2 d0 d1 d2 d3 d4 d5 d6
    obtain ⟨d0, d1, d2, d3, d4, d5, d6⟩ := bx2.out
    go_wp2_with fail
    refine (hS.out _).mono ?_
    rintro e w3 ⟨rfl, hb3⟩
    have bx3 := Lib.hid (bx2.out.keep hb3)
    have bl3 := bel_trans bl2.out hb3
    clear hb3 d0 d1 d2 d3 d4 d5 d6
    go_wp2_with fail
    go_region_held3 (fun w' => w'.cell? ⟨w.heap.size, 0, none⟩ = some (.int .i64 a) ∧ w'.cell? ⟨w.heap.size, 1, none⟩ = some (.int .i64 b) ∧ w'.cell? ⟨w.heap.size, 2, none⟩ = some (.int .i64 c) ∧ w'.cell? ⟨w.heap.size, 3, none⟩ = some (.int .i64 p) ∧ w'.cell? ⟨w.heap.size, 4, none⟩ = some (.int .i64 q) ∧ w'.cell? ⟨w.heap.size, 5, none⟩ = some (.int .i64 r) ∧ w.heap.size < w'.heap.size ∧ Below w.heap.size w w')
      (first | exact h6_start bx3.out bl3 | exact h6_keep (by assumption) hb2 | exact h6_drewN (by assumption) _ | assumption | go_keep)
      (first | (go_at_call 44; refine (hA.out _).mono ?_; rintro e w2 ⟨rfl, hb2⟩) | (go_at_call 35; refine (hC.out _).mono ?_; rintro e w3 ⟨rfl, n3, rfl⟩))
    all_goals
      obtain ⟨hbx9, hbl9⟩ := h6_below (by assumption)
      clear hbx9
      go_wp2
      go_ret3
      exact ⟨rfl, hbl9⟩

set_option maxRecDepth 100000 in
set_option maxHeartbeats 3200000 in
theorem implDa_any (a b c p q r : Int) (s : ByteArray) (k : Int) (t : ByteArray) (w : World) (hs : s.size ≤ maxLen) (hk : (Lit.int .i64 k).wf = true) (htt : t.size ≤ maxLen) :
    Calls Tryd.prog 20 #[hdn a b c p q r, .string s, .int .i64 k, .string t] w fun e w' => e = .returned (ansDa a b c p q r s k t) ∧ Below w.heap.size w w' := by
  have HS := Lib.hid hs
  have HT := Lib.hid htt
  clear hk
  cases h : (goodH a b c p q r && signsB s)
  · rw [show ansDa a b c p q r s k t = failV from by unfold ansDa; rw [h]; rfl]
    go_enter Tryd.func20, Tryd.ntmps20
    go_wp2_with fail
    refine (behind_no a b c p q r s _ HS.out h).mono ?_
    rintro e w1 ⟨rfl, hb1⟩
    go_wp2_with fail
    go_ret3
    exact ⟨rfl, bel_trans (bel_alloc (Below.refl _ _) _) hb1⟩
  have h' := h
  rw [Bool.and_eq_true] at h'
  obtain ⟨hr, hp⟩ := goodH_in h'.1
  obtain ⟨h1, h6, ha⟩ := signs_in h'.2
  have c1 : 1 ≤ c ∧ c ≤ 10 ∧ 1 ≤ r ∧ r ≤ 10 := by unfold inR at hr hp; omega
  obtain ⟨c1, c2, c3, c4⟩ := c1
  have hB : Hid (∀ W : World, Calls Tryd.prog 48 #[hdn a b c p q r, .string s] W fun e w' => ∃ v, e = .returned (.tuple #[v, .bool (decide (0 < topS a b c p q r s))]) ∧ IRow w' W.heap.size v (allV a b c p q r s) ∧ Below W.heap.size W w') := Lib.hid (fun W => behind_yes a b c p q r s W h'.1 h'.2)
  rcases topS_cases hr hp s (by omega) with ⟨ht, hT⟩ | ⟨ht, hT⟩
  rotate_left
  · rw [show ansDa a b c p q r s k t = failV from by unfold ansDa; rw [h, decide_eq_false ht]; simp]
    rw [decide_eq_false ht] at hB
    clear hr hp ha h' c1 c2 c3 c4 ht hT
    go_enter Tryd.func20, Tryd.ntmps20
    go_wp2_with fail
    refine (hB.out _).mono ?_
    rintro e w1 ⟨v, rfl, hR, hb1⟩
    go_wp2_with fail
    go_ret3
    exact ⟨rfl, bel_trans (bel_alloc (Below.refl _ _) _) hb1⟩
  rw [decide_eq_true ht] at hB
  by_cases hk0 : k < 0
  · have hki : inB k 0 ((s.size : Int) - 1) = false := by unfold inB; simp; omega
    rw [show ansDa a b c p q r s k t = failV from by unfold ansDa; rw [h, hki]; rfl]
    clear hr hp ha h' c1 c2 c3 c4 ht hT hki
    go_enter Tryd.func20, Tryd.ntmps20
    go_wp2_with fail
    refine (hB.out _).mono ?_
    rintro e w1 ⟨v, rfl, hR, hb1⟩
    go_wp2_with fail
    go_ret3
    exact ⟨rfl, bel_trans (bel_alloc (Below.refl _ _) _) hb1⟩
  have hk1 : decide (k < 0) = false := by simpa using hk0
  by_cases hk2 : (s.size : Int) ≤ k
  · have hki : inB k 0 ((s.size : Int) - 1) = false := by unfold inB; simp; omega
    rw [show ansDa a b c p q r s k t = failV from by unfold ansDa; rw [h, hki]; rfl]
    clear hr hp ha h' c1 c2 c3 c4 ht hT hki
    go_enter Tryd.func20, Tryd.ntmps20
    go_wp2_with fail
    refine (hB.out _).mono ?_
    rintro e w1 ⟨v, rfl, hR, hb1⟩
    go_wp2_with fail
    go_ret3
    exact ⟨rfl, bel_trans (bel_alloc (Below.refl _ _) _) hb1⟩
  have hk3 : decide ((s.size : Int) ≤ k) = false := by simpa using hk2
  obtain ⟨m, rfl⟩ : ∃ m : Nat, k = m := ⟨k.toNat, by omega⟩
  have hm : m < s.size := by omega
  have hk4 : ¬ s.size ≤ m := by omega
  have hki : inB (m : Int) 0 ((s.size : Int) - 1) = true := by unfold inB; simp; omega
  cases hdt : dayS t
  · rw [show ansDa a b c p q r s m t = failV from by unfold ansDa; rw [h, hki, hdt]; rfl]
    clear hr hp ha h' c1 c2 c3 c4 ht hT hki
    go_enter Tryd.func20, Tryd.ntmps20
    go_wp2_with fail
    refine (hB.out _).mono ?_
    rintro e w1 ⟨v, rfl, hR, hb1⟩
    go_wp2_with fail
    refine (isDay_any t _ HT.out).mono ?_
    rintro e w2 ⟨rfl, rfl⟩
    rw [hdt]
    go_wp2_with fail
    go_ret3
    exact ⟨rfl, bel_trans (bel_alloc (Below.refl _ _) _) hb1⟩
  obtain ⟨x0, x1⟩ := sgT_in hr hp s (by omega)
  have hD : Hid (∀ (W : World) (base : Nat) (v : Value), IRow W base v (allV a b c p q r s) → Calls Tryd.prog 50 #[v, .int .i64 m] W fun e w' => e = .returned (pr2 (kdV a b c p q r s m 0) (kdV a b c p q r s m 1)) ∧ Below W.heap.size W w') := Lib.hid (fun W base v h => daysAtV_any a b c p q r s v base m W hr hp (by omega) hm h)
  obtain ⟨k0, k1⟩ := kd_in hr hp s (by omega) m 0
  obtain ⟨k2, k3⟩ := kd_in hr hp s (by omega) m 1
  have hsum := Lib.hid (kd_all a b c p q r s m)
  have hG : Hid (∀ W : World, Calls Tryd.prog 52 #[pr2 (kdV a b c p q r s m 0) (kdV a b c p q r s m 1)] W fun e w' => e = .returned (.int .i64 (sgT a b c p q r s)) ∧ Below W.heap.size W w') := Lib.hid (fun W => by rw [← hsum.out]; exact together_any _ _ W k0 k2 (by omega) (by omega))
  rcases day_text hdt with rfl | rfl
  · rw [show ansDa a b c p q r s m ⟨#[100]⟩ = lowV (kdV a b c p q r s m 0) (sgT a b c p q r s) from by unfold ansDa; rw [h, hki, hdt, decide_eq_true ht, dyE_0]; rfl]
    have hC : Hid (∀ W : World, Calls Tryd.prog 41 #[.int .i64 (kdV a b c p q r s m 0), .int .i64 (sgT a b c p q r s)] W fun e w' => e = .returned (lowV (kdV a b c p q r s m 0) (sgT a b c p q r s)) ∧ ∃ n, w' = W.drewN n) := Lib.hid (fun W => told_big _ _ W (by omega) hT (by omega) (by omega))
    unfold lowV at *
    generalize kdV a b c p q r s m 0 = K0 at *
    generalize kdV a b c p q r s m 1 = K1 at *
    generalize sgT a b c p q r s = X at *
    generalize allV a b c p q r s = zs at *
    clear hr hp ha h' c1 c2 c3 c4 ht x0 x1 k0 k1 k2 k3 hsum hT hki
    go_enter Tryd.func20, Tryd.ntmps20
    go_wp2_with fail
    refine (hB.out _).mono ?_
    rintro e w1 ⟨v, rfl, hR, hb1⟩
    have bl1 := Lib.hid (bel_trans (bel_alloc (Below.refl _ w) _) hb1)
    have HR := Lib.hid hR
    clear hb1 hR
    go_wp2_with fail
    refine (isDay_any _ _ HT.out).mono ?_
    rintro e w2 ⟨rfl, rfl⟩
    rw [hdt]
    go_wp2_with fail
    refine (hD.out _ _ _ HR.out).mono ?_
    rintro e w3 ⟨rfl, hb3⟩
    have bz := Lib.hid (Box2.new w3 (.int .i64 K0) (.int .i64 K1) 61)
    have bl3 := bel_alloc (bel_trans bl1.out hb3) (.cells #[.int .i64 K0, .int .i64 K1] 61)
    have Bl3 := Lib.hid bl3
    clear hb3 bl3
    go_wp2_with fail
    go_region_held3 (fun w' => w'.cell? ⟨w3.heap.size, 0, none⟩ = some (.int .i64 K0) ∧ w'.cell? ⟨w3.heap.size, 1, none⟩ = some (.int .i64 K1) ∧ w3.heap.size < w'.heap.size ∧ Below w.heap.size w w')
      (first | exact held2_start bz.out Bl3.out | exact held2_keep (by assumption) hb5 | exact held2_drewN (by assumption) _ | assumption | go_keep)
      (first | (go_at_call 51; refine (ixD _).mono ?_; rintro e w4 ⟨rfl, rfl⟩) | (go_at_call 52; refine (hG.out _).mono ?_; rintro e w5 ⟨rfl, hb5⟩) | (go_at_call 41; refine (hC.out _).mono ?_; rintro e w6 ⟨rfl, n6, rfl⟩))
    all_goals
      obtain ⟨hbx9, hbl9⟩ := held2_below (by assumption)
      clear hbx9
      go_wp2
      go_ret3
      exact ⟨rfl, hbl9⟩
  · rw [show ansDa a b c p q r s m ⟨#[119]⟩ = lowV (kdV a b c p q r s m 1) (sgT a b c p q r s) from by unfold ansDa; rw [h, hki, hdt, decide_eq_true ht, dyE_1]; rfl]
    have hC : Hid (∀ W : World, Calls Tryd.prog 41 #[.int .i64 (kdV a b c p q r s m 1), .int .i64 (sgT a b c p q r s)] W fun e w' => e = .returned (lowV (kdV a b c p q r s m 1) (sgT a b c p q r s)) ∧ ∃ n, w' = W.drewN n) := Lib.hid (fun W => told_big _ _ W (by omega) hT (by omega) (by omega))
    unfold lowV at *
    generalize kdV a b c p q r s m 0 = K0 at *
    generalize kdV a b c p q r s m 1 = K1 at *
    generalize sgT a b c p q r s = X at *
    generalize allV a b c p q r s = zs at *
    clear hr hp ha h' c1 c2 c3 c4 ht x0 x1 k0 k1 k2 k3 hsum hT hki
    go_enter Tryd.func20, Tryd.ntmps20
    go_wp2_with fail
    refine (hB.out _).mono ?_
    rintro e w1 ⟨v, rfl, hR, hb1⟩
    have bl1 := Lib.hid (bel_trans (bel_alloc (Below.refl _ w) _) hb1)
    have HR := Lib.hid hR
    clear hb1 hR
    go_wp2_with fail
    refine (isDay_any _ _ HT.out).mono ?_
    rintro e w2 ⟨rfl, rfl⟩
    rw [hdt]
    go_wp2_with fail
    refine (hD.out _ _ _ HR.out).mono ?_
    rintro e w3 ⟨rfl, hb3⟩
    have bz := Lib.hid (Box2.new w3 (.int .i64 K0) (.int .i64 K1) 61)
    have bl3 := bel_alloc (bel_trans bl1.out hb3) (.cells #[.int .i64 K0, .int .i64 K1] 61)
    have Bl3 := Lib.hid bl3
    clear hb3 bl3
    go_wp2_with fail
    go_region_held3 (fun w' => w'.cell? ⟨w3.heap.size, 0, none⟩ = some (.int .i64 K0) ∧ w'.cell? ⟨w3.heap.size, 1, none⟩ = some (.int .i64 K1) ∧ w3.heap.size < w'.heap.size ∧ Below w.heap.size w w')
      (first | exact held2_start bz.out Bl3.out | exact held2_keep (by assumption) hb5 | exact held2_drewN (by assumption) _ | assumption | go_keep)
      (first | (go_at_call 51; refine (ixW _).mono ?_; rintro e w4 ⟨rfl, rfl⟩) | (go_at_call 52; refine (hG.out _).mono ?_; rintro e w5 ⟨rfl, hb5⟩) | (go_at_call 41; refine (hC.out _).mono ?_; rintro e w6 ⟨rfl, n6, rfl⟩))
    all_goals
      obtain ⟨hbx9, hbl9⟩ := held2_below (by assumption)
      clear hbx9
      go_wp2
      go_ret3
      exact ⟨rfl, hbl9⟩

set_option maxRecDepth 100000 in
set_option maxHeartbeats 3200000 in
theorem walkExactChanceOfDay (a b c p q r : Int) (s : ByteArray) (k : Int) (t : ByteArray) (w : World) (ha : (Lit.int .i64 a).wf = true) (hb : (Lit.int .i64 b).wf = true) (hc : (Lit.int .i64 c).wf = true) (hp : (Lit.int .i64 p).wf = true) (hq : (Lit.int .i64 q).wf = true) (hr : (Lit.int .i64 r).wf = true) (zs : s.size ≤ maxLen) (zk : (Lit.int .i64 k).wf = true) (zt : t.size ≤ maxLen) :
    Calls Tryd.prog 6 #[hdn a b c p q r, .string s, .int .i64 k, .string t] w fun e w' => e = .returned (.bool true) ∧ Below w.heap.size w w' := by
  clear ha hb hc hp hq hr
  by_cases ls : s.size ≤ 1048576
  · skip
    by_cases lt : t.size ≤ 1048576
    · skip
      obtain ⟨x, y, ok, hv⟩ := ansDa_form a b c p q r s k t
      have ZK := Lib.hid zk
      have Zs := Lib.hid zs
      have Zt := Lib.hid zt
      have Hv := Lib.hid hv
      clear hv zs zt zk
      have bx := Lib.hid (Box6.new w a b c p q r 26)
      go_enter Tryd.func6, Tryd.ntmps6
      go_wp2_with fail
      refine (toHidden_any _ _ _ _ _ _ _).mono ?_
      rintro e w1 ⟨rfl, hb1⟩
      have bx1 := Lib.hid (bx.out.keep hb1)
      go_wp2_with fail
      refine (specDa_any _ _ _ _ _ _ s k t _ Zs.out ZK.out Zt.out).mono ?_
      rw [Hv.out]
      rintro e w2 ⟨rfl, hb2⟩
      obtain ⟨c0, c1, c2, c3, c4, c5, hk⟩ := bx1.out.keep hb2
      go_wp2_with fail
      refine (toHidden_any _ _ _ _ _ _ _).mono ?_
      rintro e w3 ⟨rfl, hb3⟩
      go_wp2_with fail
      refine (implDa_any _ _ _ _ _ _ s k t _ Zs.out ZK.out Zt.out).mono ?_
      rw [Hv.out]
      rintro e w4 ⟨rfl, hb4⟩
      go_wp2_with fail
      go_ret
      exact ⟨rfl, bel_trans (bel_trans (bel_trans (bel_trans (bel_alloc (Below.refl _ _) _) hb1) hb2) hb3) hb4⟩
    · go_enter Tryd.func6, Tryd.ntmps6
      go_wp2
      go_ret
      exact ⟨rfl, bel_alloc (Below.refl _ _) _⟩
  · go_enter Tryd.func6, Tryd.ntmps6
    go_wp2
    go_ret
    exact ⟨rfl, bel_alloc (Below.refl _ _) _⟩

end Go.Proofs.YtjfcpbedmdnjcaaDoor
