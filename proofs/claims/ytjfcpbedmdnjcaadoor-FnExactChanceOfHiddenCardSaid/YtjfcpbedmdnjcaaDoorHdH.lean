/- ChanceOfHidden: the contracts of the program and of its model, and the walk. -/
import Derived.Test.YtjfcpbedmdnjcaaDoorHdG
namespace Go.Proofs.YtjfcpbedmdnjcaaDoor
set_option linter.unusedSimpArgs false
open Go.ChangeShapes Go.WideShapes Go.ChangeAt Go.RowKit
set_option linter.unusedVariables false

def ansHi (a b c p q r : Int) (s d : ByteArray) : Value := if (goodH a b c p q r && signsB s) && (dysG s d && decide (0 < topS a b c p q r s)) then lowV (bth a b c p q r d s) (sgT a b c p q r s) else failV
theorem ansHi_form (a b c p q r : Int) (s d : ByteArray) : ∃ (x y : Int) (o : Bool), ansHi a b c p q r s d = .tuple #[.int .i64 x, .int .i64 y, .bool o] := if_form _ (lowV_form _ _) failV_form
theorem topS_cases {a b c p q r : Int} (h : inR a b c) (g : inR p q r) (s : ByteArray) (h7 : s.size ≤ 7) : (0 < topS a b c p q r s ∧ 1 ≤ sgT a b c p q r s) ∨ (¬ 0 < topS a b c p q r s ∧ sgT a b c p q r s = 0) := by
  have h1 := topS_pos h g s h7
  have h2 := (sgT_in h g s h7).1
  by_cases e : 0 < topS a b c p q r s
  · have := h1.2 e
    exact .inl ⟨e, by omega⟩
  · refine .inr ⟨e, ?_⟩
    rcases Int.lt_or_le 0 (sgT a b c p q r s) with x | x
    · exact absurd (h1.1 x) e
    · omega

set_option maxRecDepth 100000 in
set_option maxHeartbeats 3200000 in
theorem specHi_any (a b c p q r : Int) (s d : ByteArray) (w : World) (hs : s.size ≤ maxLen) (hd : d.size ≤ maxLen) :
    Calls Tryd.prog 21 #[hdn a b c p q r, .string s, .string d] w fun e w' => e = .returned (ansHi a b c p q r s d) ∧ Below w.heap.size w w' := by
  have HS := Lib.hid hs
  have HD := Lib.hid hd
  have bx := Lib.hid (Box6.new w a b c p q r 31)
  cases h : (goodH a b c p q r && signsB s)
  · rw [show ansHi a b c p q r s d = failV from by unfold ansHi; rw [h]; rfl]
    go_enter Tryd.func21, Tryd.ntmps21
    go_wp2_with fail
    refine (hdAsked_any _ _ _ _ _ _ s _ HS.out).mono ?_
    rintro e w1 ⟨rfl, hb1⟩
    rw [h]
    go_wp2_with fail
    go_ret3
    exact ⟨rfl, bel_trans (bel_alloc (Below.refl _ _) _) hb1⟩
  cases hdy : daysB d
  · rw [show ansHi a b c p q r s d = failV from by unfold ansHi dysG; rw [h, hdy]; rfl]
    go_enter Tryd.func21, Tryd.ntmps21
    go_wp2_with fail
    refine (hdAsked_any _ _ _ _ _ _ s _ HS.out).mono ?_
    rintro e w1 ⟨rfl, hb1⟩
    rw [h]
    go_wp2_with fail
    refine (cnDays_any d _ HD.out).mono ?_
    rintro e w2 ⟨rfl, rfl⟩
    rw [hdy]
    go_wp2_with fail
    go_ret3
    exact ⟨rfl, bel_trans (bel_alloc (Below.refl _ _) _) hb1⟩
  by_cases hq : (d.size : Int) = (s.size : Int)
  rotate_left
  · have hq2 : ((d.size : Int) == (s.size : Int)) = false := by simpa using hq
    have hq3 : ((d.size : Int) != (s.size : Int)) = true := by simpa using hq
    rw [show ansHi a b c p q r s d = failV from by unfold ansHi dysG; rw [h, hdy, hq2]; rfl]
    clear hq hq2
    go_enter Tryd.func21, Tryd.ntmps21
    go_wp2_with fail
    refine (hdAsked_any _ _ _ _ _ _ s _ HS.out).mono ?_
    rintro e w1 ⟨rfl, hb1⟩
    rw [h]
    go_wp2_with fail
    refine (cnDays_any d _ HD.out).mono ?_
    rintro e w2 ⟨rfl, rfl⟩
    rw [hdy]
    go_wp2_with fail
    go_ret3
    exact ⟨rfl, bel_trans (bel_alloc (Below.refl _ _) _) hb1⟩
  · have hdg : dysG s d = true := by unfold dysG; rw [hdy]; simpa using hq
    have h' := h
    rw [Bool.and_eq_true] at h'
    obtain ⟨hr, hp⟩ := goodH_in h'.1
    obtain ⟨h1, h6, ha⟩ := signs_in h'.2
    have c1 : 1 ≤ c ∧ c ≤ 10 ∧ 1 ≤ r ∧ r ≤ 10 := by unfold inR at hr hp; omega
    obtain ⟨c1, c2, c3, c4⟩ := c1
    obtain ⟨hda, hde⟩ := dys_in hdg
    have hq3 : ((d.size : Int) != (s.size : Int)) = false := by simpa using hq
    clear hq
    have hS : Hid (∀ W : World, Calls Tryd.prog 44 #[hdn a b c p q r, .string s, .int .i64 0, .int .u8 0] W fun e w' => e = .returned (.int .i64 (sgT a b c p q r s)) ∧ Below W.heap.size W w') := Lib.hid (fun W => hdSumA_any a b c p q r s 0 W hr hp ha h1 (by omega))
    obtain ⟨x0, x1⟩ := sgT_in hr hp s (by omega)
    obtain ⟨y0, y1⟩ : 0 ≤ bth a b c p q r d s ∧ bth a b c p q r d s ≤ 100000000000000 := bthK_le hr hp d s _ (by omega) (by omega)
    have hA : Hid (∀ W : World, Calls Tryd.prog 36 #[hdn a b c p q r, .string d, .string s] W fun e w' => e = .returned (.int .i64 (bth a b c p q r d s)) ∧ Below W.heap.size W w') := Lib.hid (fun W => hdBoth_any a b c p q r d s W hr hp hda ha (by omega) (by omega) (by omega))
    rcases topS_cases hr hp s (by omega) with ⟨ht, hT⟩ | ⟨ht, hT⟩
    · have hC : Hid (∀ W : World, Calls Tryd.prog 35 #[.int .i64 (bth a b c p q r d s), .int .i64 (sgT a b c p q r s)] W fun e w' => e = .returned (.tuple #[.int .i64 (low (bth a b c p q r d s) (bth a b c p q r d s) (sgT a b c p q r s)), .int .i64 (low (sgT a b c p q r s) (bth a b c p q r d s) (sgT a b c p q r s))]) ∧ ∃ n, w' = W.drewN n) := Lib.hid (fun W => cnLow_big _ _ W y0 hT (by omega) (by omega))
      rw [show ansHi a b c p q r s d = lowV (bth a b c p q r d s) (sgT a b c p q r s) from by unfold ansHi; rw [h, hdg, decide_eq_true ht]; rfl]
      unfold lowV
      have hT2 : (sgT a b c p q r s == 0) = false := by simp; omega
      generalize sgT a b c p q r s = X at *
      generalize bth a b c p q r d s = Y at *
      clear hr hp ha h' c1 c2 c3 c4 hda hde ht x0 x1 y0 y1
      go_enter Tryd.func21, Tryd.ntmps21
      go_wp2_with fail
      refine (hdAsked_any _ _ _ _ _ _ s _ HS.out).mono ?_
      rintro e w1 ⟨rfl, hb1⟩
      rw [h]
      have bx1 := Lib.hid (bx.out.keep hb1)
      have bl1 := Lib.hid (bel_trans (bel_alloc (Below.refl _ w) _) hb1)
      obtain ⟨d0, d1, d2, d3, d4, d5, d6⟩ := bx1.out
      clear hb1
      go_wp2_with fail
      refine (cnDays_any d _ HD.out).mono ?_
      rintro e w2 ⟨rfl, rfl⟩
      rw [hdy]
      go_wp2_with fail
      refine (hS.out _).mono ?_
      rintro e w2 ⟨rfl, hb2⟩
      have bx2 := Lib.hid (bx1.out.keep hb2)
      have bl2 := Lib.hid (bel_trans bl1.out hb2)
      clear hb2 d0 d1 d2 d3 d4 d5 d6
      obtain ⟨d0, d1, d2, d3, d4, d5, d6⟩ := bx2.out
      go_wp2_with fail
      refine (hA.out _).mono ?_
      rintro e w3 ⟨rfl, hb3⟩
      go_wp2_with fail
      refine (hC.out _).mono ?_
      rintro e w4 ⟨rfl, n4, rfl⟩
      go_wp2_with fail
      go_ret3
      exact ⟨rfl, bel_drewN (bel_trans bl2.out hb3) _⟩
    · rw [show ansHi a b c p q r s d = failV from by unfold ansHi; rw [h, hdg, decide_eq_false ht]; rfl]
      rw [hT] at hS
      clear hr hp ha h' c1 c2 c3 c4 hda hde ht x0 x1 y0 y1 hT hA
      go_enter Tryd.func21, Tryd.ntmps21
      go_wp2_with fail
      refine (hdAsked_any _ _ _ _ _ _ s _ HS.out).mono ?_
      rintro e w1 ⟨rfl, hb1⟩
      rw [h]
      have bx1 := Lib.hid (bx.out.keep hb1)
      have bl1 := Lib.hid (bel_trans (bel_alloc (Below.refl _ w) _) hb1)
      obtain ⟨d0, d1, d2, d3, d4, d5, d6⟩ := bx1.out
      clear hb1
      go_wp2_with fail
      refine (cnDays_any d _ HD.out).mono ?_
      rintro e w2 ⟨rfl, rfl⟩
      rw [hdy]
      go_wp2_with fail
      refine (hS.out _).mono ?_
      rintro e w2 ⟨rfl, hb2⟩
      go_wp2_with fail
      go_ret3
      exact ⟨rfl, bel_trans bl1.out hb2⟩

set_option maxRecDepth 100000 in
set_option maxHeartbeats 3200000 in
theorem implHi_any (a b c p q r : Int) (s d : ByteArray) (w : World) (hs : s.size ≤ maxLen) (hd : d.size ≤ maxLen) :
    Calls Tryd.prog 22 #[hdn a b c p q r, .string s, .string d] w fun e w' => e = .returned (ansHi a b c p q r s d) ∧ Below w.heap.size w w' := by
  have HS := Lib.hid hs
  have HD := Lib.hid hd
  have bx := Lib.hid (Box6.new w a b c p q r 31)
  cases h : (goodH a b c p q r && signsB s)
  · rw [show ansHi a b c p q r s d = failV from by unfold ansHi; rw [h]; rfl]
    go_enter Tryd.func22, Tryd.ntmps22
    go_wp2_with fail
    refine (behind_no a b c p q r s _ HS.out h).mono ?_
    rintro e w1 ⟨rfl, hb1⟩
    go_wp2_with fail
    go_ret3
    exact ⟨rfl, bel_trans (bel_alloc (Below.refl _ _) _) hb1⟩
  · have h' := h
    rw [Bool.and_eq_true] at h'
    obtain ⟨hr, hp⟩ := goodH_in h'.1
    obtain ⟨h1, h6, ha⟩ := signs_in h'.2
    have c1 : 1 ≤ c ∧ c ≤ 10 ∧ 1 ≤ r ∧ r ≤ 10 := by unfold inR at hr hp; omega
    obtain ⟨c1, c2, c3, c4⟩ := c1
    have hB : Hid (∀ W : World, Calls Tryd.prog 48 #[hdn a b c p q r, .string s] W fun e w' => ∃ v, e = .returned (.tuple #[v, .bool (decide (0 < topS a b c p q r s))]) ∧ IRow w' W.heap.size v (allV a b c p q r s) ∧ Below W.heap.size W w') := Lib.hid (fun W => behind_yes a b c p q r s W h'.1 h'.2)
    rcases topS_cases hr hp s (by omega) with ⟨ht, hT⟩ | ⟨ht, hT⟩
    rotate_left
    · rw [show ansHi a b c p q r s d = failV from by unfold ansHi; rw [h, decide_eq_false ht, Bool.and_false]; rfl]
      rw [decide_eq_false ht] at hB
      clear hr hp ha h' c1 c2 c3 c4 ht hT
      go_enter Tryd.func22, Tryd.ntmps22
      go_wp2_with fail
      refine (hB.out _).mono ?_
      rintro e w1 ⟨v, rfl, hR, hb1⟩
      go_wp2_with fail
      go_ret3
      exact ⟨rfl, bel_trans (bel_alloc (Below.refl _ _) _) hb1⟩
    rw [decide_eq_true ht] at hB
    cases hdg : dysG s d
    · rw [show ansHi a b c p q r s d = failV from by unfold ansHi; rw [h, hdg]; rfl]
      clear hr hp ha h' c1 c2 c3 c4 ht hT
      go_enter Tryd.func22, Tryd.ntmps22
      go_wp2_with fail
      refine (hB.out _).mono ?_
      rintro e w1 ⟨v, rfl, hR, hb1⟩
      go_wp2_with fail
      refine (areDaysOf_any s d _ HS.out HD.out).mono ?_
      rintro e w2 ⟨rfl, rfl⟩
      rw [hdg]
      go_wp2_with fail
      go_ret3
      exact ⟨rfl, bel_trans (bel_alloc (Below.refl _ _) _) hb1⟩
    · obtain ⟨hda, hde⟩ := dys_in hdg
      rw [show ansHi a b c p q r s d = lowV (bth a b c p q r d s) (sgT a b c p q r s) from by unfold ansHi; rw [h, hdg, decide_eq_true ht]; rfl]
      obtain ⟨x0, x1⟩ := sgT_in hr hp s (by omega)
      obtain ⟨y0, y1⟩ : 0 ≤ bth a b c p q r d s ∧ bth a b c p q r d s ≤ 100000000000000 := bthK_le hr hp d s _ (by omega) (by omega)
      have hA : Hid (∀ W : World, Calls Tryd.prog 42 #[hdn a b c p q r, .string d, .string s] W fun e w' => e = .returned (.int .i64 (bth a b c p q r d s)) ∧ Below W.heap.size W w') := Lib.hid (fun W => both_any a b c p q r d s W hr hp hda ha (by omega) (by omega) (by omega))
      have hD : Hid (∀ (W : World) (base : Nat) (v : Value), IRow W base v (allV a b c p q r s) → Calls Tryd.prog 50 #[v, .int .i64 0] W fun e w' => e = .returned (pr2 (kdV a b c p q r s 0 0) (kdV a b c p q r s 0 1)) ∧ Below W.heap.size W w') := Lib.hid (fun W base v h => daysAtV_any a b c p q r s v base 0 W hr hp (by omega) (by omega) h)
      obtain ⟨k0, k1⟩ := kd_in hr hp s (by omega) 0 0
      obtain ⟨k2, k3⟩ := kd_in hr hp s (by omega) 0 1
      have hsum := Lib.hid (kd_all a b c p q r s 0)
      have hC : Hid (∀ W : World, Calls Tryd.prog 41 #[.int .i64 (bth a b c p q r d s), .int .i64 (sgT a b c p q r s)] W fun e w' => e = .returned (lowV (bth a b c p q r d s) (sgT a b c p q r s)) ∧ ∃ n, w' = W.drewN n) := Lib.hid (fun W => told_big _ _ W y0 hT (by omega) (by omega))
      have hG : Hid (∀ W : World, Calls Tryd.prog 52 #[pr2 (kdV a b c p q r s 0 0) (kdV a b c p q r s 0 1)] W fun e w' => e = .returned (.int .i64 (sgT a b c p q r s)) ∧ Below W.heap.size W w') := Lib.hid (fun W => by rw [← hsum.out]; exact together_any _ _ W k0 k2 (by omega) (by omega))
      unfold lowV at *
      generalize kdV a b c p q r s 0 0 = K0 at *
      generalize kdV a b c p q r s 0 1 = K1 at *
      generalize sgT a b c p q r s = X at *
      generalize bth a b c p q r d s = Y at *
      generalize allV a b c p q r s = zs at *
      clear hr hp ha h' c1 c2 c3 c4 hda hde ht x0 x1 y0 y1 k0 k1 k2 k3 hsum hT
      go_enter Tryd.func22, Tryd.ntmps22
      go_wp2_with fail
      refine (hB.out _).mono ?_
      rintro e w1 ⟨v, rfl, hR, hb1⟩
      have bx1 := Lib.hid (bx.out.keep hb1)
      have bl1 := Lib.hid (bel_trans (bel_alloc (Below.refl _ w) _) hb1)
      have HR := Lib.hid hR
      obtain ⟨d0, d1, d2, d3, d4, d5, d6⟩ := bx1.out
      clear hb1 hR
      go_wp2_with fail
      refine (areDaysOf_any s d _ HS.out HD.out).mono ?_
      rintro e w2 ⟨rfl, rfl⟩
      rw [hdg]
      go_wp2_with fail
      refine (hA.out _).mono ?_
      rintro e w3 ⟨rfl, hb3⟩
      have HR3 := Lib.hid (HR.out.below hb3)
      have bl3 := Lib.hid (bel_trans bl1.out hb3)
      clear hb3 d0 d1 d2 d3 d4 d5 d6
      go_wp2_with fail
      refine (hD.out _ _ _ HR3.out).mono ?_
      rintro e w4 ⟨rfl, hb4⟩
      go_wp2_with fail
      refine (hG.out _).mono ?_
      rintro e w5 ⟨rfl, hb5⟩
      go_wp2_with fail
      refine (hC.out _).mono ?_
      rintro e w6 ⟨rfl, n6, rfl⟩
      go_wp2_with fail
      go_ret3
      exact ⟨rfl, bel_drewN (bel_trans (bel_trans bl3.out hb4) hb5) _⟩

set_option maxRecDepth 100000 in
set_option maxHeartbeats 3200000 in
theorem walkExactChanceOfHidden (a b c p q r : Int) (s : ByteArray) (d : ByteArray) (w : World) (ha : (Lit.int .i64 a).wf = true) (hb : (Lit.int .i64 b).wf = true) (hc : (Lit.int .i64 c).wf = true) (hp : (Lit.int .i64 p).wf = true) (hq : (Lit.int .i64 q).wf = true) (hr : (Lit.int .i64 r).wf = true) (zs : s.size ≤ maxLen) (zd : d.size ≤ maxLen) :
    Calls Tryd.prog 7 #[hdn a b c p q r, .string s, .string d] w fun e w' => e = .returned (.bool true) ∧ Below w.heap.size w w' := by
  clear ha hb hc hp hq hr
  by_cases ls : s.size ≤ 1048576
  · skip
    by_cases ld : d.size ≤ 1048576
    · skip
      obtain ⟨x, y, ok, hv⟩ := ansHi_form a b c p q r s d
      have Zs := Lib.hid zs
      have Zd := Lib.hid zd
      have Hv := Lib.hid hv
      clear hv zs zd
      have bx := Lib.hid (Box6.new w a b c p q r 26)
      go_enter Tryd.func7, Tryd.ntmps7
      go_wp2_with fail
      refine (toHidden_any _ _ _ _ _ _ _).mono ?_
      rintro e w1 ⟨rfl, hb1⟩
      have bx1 := Lib.hid (bx.out.keep hb1)
      go_wp2_with fail
      refine (specHi_any _ _ _ _ _ _ s d _ Zs.out Zd.out).mono ?_
      rw [Hv.out]
      rintro e w2 ⟨rfl, hb2⟩
      obtain ⟨c0, c1, c2, c3, c4, c5, hk⟩ := bx1.out.keep hb2
      go_wp2_with fail
      refine (toHidden_any _ _ _ _ _ _ _).mono ?_
      rintro e w3 ⟨rfl, hb3⟩
      go_wp2_with fail
      refine (implHi_any _ _ _ _ _ _ s d _ Zs.out Zd.out).mono ?_
      rw [Hv.out]
      rintro e w4 ⟨rfl, hb4⟩
      go_wp2_with fail
      go_ret
      exact ⟨rfl, bel_trans (bel_trans (bel_trans (bel_trans (bel_alloc (Below.refl _ _) _) hb1) hb2) hb3) hb4⟩
    · go_enter Tryd.func7, Tryd.ntmps7
      go_wp2
      go_ret
      exact ⟨rfl, bel_alloc (Below.refl _ _) _⟩
  · go_enter Tryd.func7, Tryd.ntmps7
    go_wp2
    go_ret
    exact ⟨rfl, bel_alloc (Below.refl _ _) _⟩

end Go.Proofs.YtjfcpbedmdnjcaaDoor
