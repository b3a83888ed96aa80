/- ChanceOfSigns, ChanceBoth: the contracts of the program and of its model, and the walks. -/
import Derived.Test.YtjfcpbedmdnjcaaDoorHdF
import Derived.Test.YtjfcpbedmdnjcaaDoorHdT
namespace Go.Proofs.YtjfcpbedmdnjcaaDoor
set_option linter.unusedSimpArgs false
open Go.ChangeShapes Go.WideShapes Go.ChangeAt Go.RowKit
set_option linter.unusedVariables false

def ansSg (a b c p q r : Int) (s : ByteArray) : Value := if goodH a b c p q r && signsB s then lowV (sgT a b c p q r s) (prtV c r s.size) else failV
theorem ansSg_form (a b c p q r : Int) (s : ByteArray) : ∃ (x y : Int) (o : Bool), ansSg a b c p q r s = .tuple #[.int .i64 x, .int .i64 y, .bool o] := if_form _ (lowV_form _ _) failV_form
def ansBo (a b c p q r : Int) (d s : ByteArray) : Value := if (goodH a b c p q r && signsB s) && dysG s d then lowV (bth a b c p q r d s) (prtV c r s.size) else failV
theorem ansBo_form (a b c p q r : Int) (d s : ByteArray) : ∃ (x y : Int) (o : Bool), ansBo a b c p q r d s = .tuple #[.int .i64 x, .int .i64 y, .bool o] := if_form _ (lowV_form _ _) failV_form
theorem dys_in {s d : ByteArray} (h : dysG s d = true) : allB d = true ∧ d.size = s.size := by
  unfold dysG daysB at h
  simp at h
  exact ⟨h.1.2, by omega⟩

set_option maxRecDepth 100000 in
set_option maxHeartbeats 3200000 in
theorem specSg_any (a b c p q r : Int) (s : ByteArray) (w : World) (hs : s.size ≤ maxLen) :
    Calls Tryd.prog 17 #[hdn a b c p q r, .string s] w fun e w' => e = .returned (ansSg a b c p q r s) ∧ Below w.heap.size w w' := by
  have HS := Lib.hid hs
  have bx := Lib.hid (Box6.new w a b c p q r 31)
  cases h : (goodH a b c p q r && signsB s)
  · rw [show ansSg a b c p q r s = failV from by unfold ansSg; rw [h]; rfl]
    go_enter Tryd.func17, Tryd.ntmps17
    go_wp2_with fail
    refine (hdAsked_any _ _ _ _ _ _ s _ HS.out).mono ?_
    rintro e w1 ⟨rfl, hb1⟩
    rw [h]
    go_wp2_with fail
    go_ret3
    exact ⟨rfl, bel_trans (bel_alloc (Below.refl _ _) _) hb1⟩
  · have h' := h
    rw [Bool.and_eq_true] at h'
    obtain ⟨hr, hp⟩ := goodH_in h'.1
    obtain ⟨h1, h6, ha⟩ := signs_in h'.2
    have c1 : 1 ≤ c ∧ c ≤ 10 ∧ 1 ≤ r ∧ r ≤ 10 := by unfold inR at hr hp; omega
    obtain ⟨c1, c2, c3, c4⟩ := c1
    obtain ⟨p0, p1⟩ := prtV_le6 c1 c2 c3 c4 s.size h6
    rw [show ansSg a b c p q r s = lowV (sgT a b c p q r s) (prtV c r s.size) from by unfold ansSg; rw [h]; rfl]
    obtain ⟨x0, x1⟩ := sgT_in hr hp s (by omega)
    have hA : Hid (∀ W : World, Calls Tryd.prog 44 #[hdn a b c p q r, .string s, .int .i64 0, .int .u8 0] W fun e w' => e = .returned (.int .i64 (sgT a b c p q r s)) ∧ Below W.heap.size W w') := Lib.hid (fun W => hdSumA_any a b c p q r s 0 W hr hp ha h1 (by omega))
    have hB : Hid (∀ W : World, Calls Tryd.prog 37 #[hdn a b c p q r, .int .i64 s.size] W fun e w' => e = .returned (.int .i64 (prtV c r s.size)) ∧ Below W.heap.size W w') := Lib.hid (fun W => hdParts_any a b c p q r s.size W hr hp h6)
    have hC : Hid (∀ W : World, Calls Tryd.prog 35 #[.int .i64 (sgT a b c p q r s), .int .i64 (prtV c r s.size)] W fun e w' => e = .returned (.tuple #[.int .i64 (low (sgT a b c p q r s) (sgT a b c p q r s) (prtV c r s.size)), .int .i64 (low (prtV c r s.size) (sgT a b c p q r s) (prtV c r s.size))]) ∧ ∃ n, w' = W.drewN n) := Lib.hid (fun W => cnLow_big _ _ W x0 p0 (by omega) (by omega))
    unfold lowV at *
    generalize sgT a b c p q r s = X at *
    generalize prtV c r s.size = D at *
    clear hr hp ha h' x0 x1 p0 p1 c1 c2 c3 c4
    go_enter Tryd.func17, Tryd.ntmps17
    go_wp2_with fail
    refine (hdAsked_any _ _ _ _ _ _ s _ HS.out).mono ?_
    rintro e w1 ⟨rfl, hb1⟩
    rw [h]
    have bx1 := Lib.hid (bx.out.keep hb1)
    have bl1 := bel_trans (bel_alloc (Below.refl _ w) _) hb1
    obtain ⟨d0, d1, d2, d3, d4, d5, d6⟩ := bx1.out
    clear hb1
    go_wp2_with fail
    go_region_held3 (fun w' => w'.cell? ⟨w.heap.size, 0, none⟩ = some (.int .i64 a) ∧ w'.cell? ⟨w.heap.size, 1, none⟩ = some (.int .i64 b) ∧ w'.cell? ⟨w.heap.size, 2, none⟩ = some (.int .i64 c) ∧ w'.cell? ⟨w.heap.size, 3, none⟩ = some (.int .i64 p) ∧ w'.cell? ⟨w.heap.size, 4, none⟩ = some (.int .i64 q) ∧ w'.cell? ⟨w.heap.size, 5, none⟩ = some (.int .i64 r) ∧ w.heap.size < w'.heap.size ∧ Below w.heap.size w w')
      (first | exact h6_start bx1.out bl1 | exact h6_keep (by assumption) hb2 | exact h6_keep (by assumption) hb3 | exact h6_drewN (by assumption) _ | assumption | go_keep)
      (first | (go_at_call 44; refine (hA.out _).mono ?_; rintro e w2 ⟨rfl, hb2⟩) | (go_at_call 37; refine (hB.out _).mono ?_; rintro e w3 ⟨rfl, hb3⟩) | (go_at_call 35; refine (hC.out _).mono ?_; rintro e w4 ⟨rfl, n4, rfl⟩))
    all_goals
      obtain ⟨hbx9, hbl9⟩ := h6_below (by assumption)
      clear hbx9
      go_wp2
      go_ret3
      exact ⟨rfl, hbl9⟩

set_option maxRecDepth 100000 in
set_option maxHeartbeats 3200000 in
theorem implSg_any (a b c p q r : Int) (s : ByteArray) (w : World) (hs : s.size ≤ maxLen) :
    Calls Tryd.prog 18 #[hdn a b c p q r, .string s] w fun e w' => e = .returned (ansSg a b c p q r s) ∧ Below w.heap.size w w' := by
  have HS := Lib.hid hs
  have bx := Lib.hid (Box6.new w a b c p q r 31)
  cases h : (goodH a b c p q r && signsB s)
  · rw [show ansSg a b c p q r s = failV from by unfold ansSg; rw [h]; rfl]
    go_enter Tryd.func18, Tryd.ntmps18
    go_wp2_with fail
    refine (isSigned_any _ _ _ _ _ _ s _ HS.out).mono ?_
    rintro e w1 ⟨rfl, hb1⟩
    rw [h]
    go_wp2_with fail
    go_ret3
    exact ⟨rfl, bel_trans (bel_alloc (Below.refl _ _) _) hb1⟩
  · have h' := h
    rw [Bool.and_eq_true] at h'
    obtain ⟨hr, hp⟩ := goodH_in h'.1
    obtain ⟨h1, h6, ha⟩ := signs_in h'.2
    have c1 : 1 ≤ c ∧ c ≤ 10 ∧ 1 ≤ r ∧ r ≤ 10 := by unfold inR at hr hp; omega
    obtain ⟨c1, c2, c3, c4⟩ := c1
    obtain ⟨p0, p1⟩ := prtV_le6 c1 c2 c3 c4 s.size h6
    rw [show ansSg a b c p q r s = lowV (sgT a b c p q r s) (prtV c r s.size) from by unfold ansSg; rw [h]; rfl]
    obtain ⟨x0, x1⟩ := sgT_in hr hp s (by omega)
    have hA : Hid (∀ W : World, Calls Tryd.prog 45 #[hdn a b c p q r, .string s] W fun e w' => e = .returned (.int .i64 (sgT a b c p q r s)) ∧ Below W.heap.size W w') := Lib.hid (fun W => chanceOf_any a b c p q r s W hr hp ha h1 (by omega))
    have hB : Hid (∀ W : World, Calls Tryd.prog 43 #[hdn a b c p q r, .int .i64 s.size] W fun e w' => e = .returned (.int .i64 (prtV c r s.size)) ∧ Below W.heap.size W w') := Lib.hid (fun W => bothOf_any a b c p q r s.size W hr hp h1 h6)
    have hC : Hid (∀ W : World, Calls Tryd.prog 41 #[.int .i64 (sgT a b c p q r s), .int .i64 (prtV c r s.size)] W fun e w' => e = .returned (lowV (sgT a b c p q r s) (prtV c r s.size)) ∧ ∃ n, w' = W.drewN n) := Lib.hid (fun W => told_big _ _ W x0 p0 (by omega) (by omega))
    unfold lowV at *
    generalize sgT a b c p q r s = X at *
    generalize prtV c r s.size = D at *
    clear hr hp ha h' x0 x1 p0 p1 c1 c2 c3 c4
    go_enter Tryd.func18, Tryd.ntmps18
    go_wp2_with fail
    refine (isSigned_any _ _ _ _ _ _ s _ HS.out).mono ?_
    rintro e w1 ⟨rfl, hb1⟩
    rw [h]
    have bx1 := Lib.hid (bx.out.keep hb1)
    have bl1 := bel_trans (bel_alloc (Below.refl _ w) _) hb1
    obtain ⟨d0, d1, d2, d3, d4, d5, d6⟩ := bx1.out
    clear hb1
    go_wp2_with fail
    go_region_held3 (fun w' => w'.cell? ⟨w.heap.size, 0, none⟩ = some (.int .i64 a) ∧ w'.cell? ⟨w.heap.size, 1, none⟩ = some (.int .i64 b) ∧ w'.cell? ⟨w.heap.size, 2, none⟩ = some (.int .i64 c) ∧ w'.cell? ⟨w.heap.size, 3, none⟩ = some (.int .i64 p) ∧ w'.cell? ⟨w.heap.size, 4, none⟩ = some (.int .i64 q) ∧ w'.cell? ⟨w.heap.size, 5, none⟩ = some (.int .i64 r) ∧ w.heap.size < w'.heap.size ∧ Below w.heap.size w w')
      (first | exact h6_start bx1.out bl1 | exact h6_keep (by assumption) hb2 | exact h6_keep (by assumption) hb3 | exact h6_drewN (by assumption) _ | assumption | go_keep)
      (first | (go_at_call 45; refine (hA.out _).mono ?_; rintro e w2 ⟨rfl, hb2⟩) | (go_at_call 43; refine (hB.out _).mono ?_; rintro e w3 ⟨rfl, hb3⟩) | (go_at_call 41; refine (hC.out _).mono ?_; rintro e w4 ⟨rfl, n4, rfl⟩))
    all_goals
      obtain ⟨hbx9, hbl9⟩ := h6_below (by assumption)
      clear hbx9
      go_wp2
      go_ret3
      exact ⟨rfl, hbl9⟩

set_option maxRecDepth 100000 in
set_option maxHeartbeats 3200000 in
theorem walkExactChanceOfSigns (a b c p q r : Int) (s : ByteArray) (w : World) (ha : (Lit.int .i64 a).wf = true) (hb : (Lit.int .i64 b).wf = true) (hc : (Lit.int .i64 c).wf = true) (hp : (Lit.int .i64 p).wf = true) (hq : (Lit.int .i64 q).wf = true) (hr : (Lit.int .i64 r).wf = true) (zs : s.size ≤ maxLen) :
    Calls Tryd.prog 5 #[hdn a b c p q r, .string s] w fun e w' => e = .returned (.bool true) ∧ Below w.heap.size w w' := by
  clear ha hb hc hp hq hr
  by_cases ls : s.size ≤ 1048576
  · skip
    obtain ⟨x, y, ok, hv⟩ := ansSg_form a b c p q r s
    have Zs := Lib.hid zs
    have Hv := Lib.hid hv
    clear hv zs
    have bx := Lib.hid (Box6.new w a b c p q r 26)
    go_enter Tryd.func5, Tryd.ntmps5
    go_wp2_with fail
    refine (toHidden_any _ _ _ _ _ _ _).mono ?_
    rintro e w1 ⟨rfl, hb1⟩
    have bx1 := Lib.hid (bx.out.keep hb1)
    go_wp2_with fail
    refine (specSg_any _ _ _ _ _ _ s _ Zs.out).mono ?_
    rw [Hv.out]
    rintro e w2 ⟨rfl, hb2⟩
    obtain ⟨c0, c1, c2, c3, c4, c5, hk⟩ := bx1.out.keep hb2
    go_wp2_with fail
    refine (toHidden_any _ _ _ _ _ _ _).mono ?_
    rintro e w3 ⟨rfl, hb3⟩
    go_wp2_with fail
    refine (implSg_any _ _ _ _ _ _ s _ Zs.out).mono ?_
    rw [Hv.out]
    rintro e w4 ⟨rfl, hb4⟩
    go_wp2_with fail
    go_ret
    exact ⟨rfl, bel_trans (bel_trans (bel_trans (bel_trans (bel_alloc (Below.refl _ _) _) hb1) hb2) hb3) hb4⟩
  · go_enter Tryd.func5, Tryd.ntmps5
    go_wp2
    go_ret
    exact ⟨rfl, bel_alloc (Below.refl _ _) _⟩

set_option maxRecDepth 100000 in
set_option maxHeartbeats 3200000 in
theorem specBo_any (a b c p q r : Int) (d s : ByteArray) (w : World) (hd : d.size ≤ maxLen) (hs : s.size ≤ maxLen) :
    Calls Tryd.prog 14 #[hdn a b c p q r, .string d, .string s] w fun e w' => e = .returned (ansBo a b c p q r d s) ∧ Below w.heap.size w w' := by
  have HS := Lib.hid hs
  have HD := Lib.hid hd
  have bx := Lib.hid (Box6.new w a b c p q r 31)
  cases h : (goodH a b c p q r && signsB s)
  · rw [show ansBo a b c p q r d s = failV from by unfold ansBo; rw [h]; rfl]
    go_enter Tryd.func14, Tryd.ntmps14
    go_wp2_with fail
    refine (hdAsked_any _ _ _ _ _ _ s _ HS.out).mono ?_
    rintro e w1 ⟨rfl, hb1⟩
    rw [h]
    go_wp2_with fail
    go_ret3
    exact ⟨rfl, bel_trans (bel_alloc (Below.refl _ _) _) hb1⟩
  cases hdy : daysB d
  · rw [show ansBo a b c p q r d s = failV from by unfold ansBo dysG; rw [h, hdy]; rfl]
    go_enter Tryd.func14, Tryd.ntmps14
    go_wp2_with fail
    refine (hdAsked_any _ _ _ _ _ _ s _ HS.out).mono ?_
    rintro e w1 ⟨rfl, hb1⟩
    rw [h]
    go_wp2_with fail
    refine (cnDays_any d _ HD.out).mono ?_
    rintro e w2 ⟨rfl, rfl⟩
    rw [hdy]
    go_wp2_with fail
    go_ret3
    exact ⟨rfl, bel_trans (bel_alloc (Below.refl _ _) _) hb1⟩
  by_cases hq : (d.size : Int) = (s.size : Int)
  rotate_left
  · have hq2 : ((d.size : Int) == (s.size : Int)) = false := by simpa using hq
    have hq3 : ((d.size : Int) != (s.size : Int)) = true := by simpa using hq
    rw [show ansBo a b c p q r d s = failV from by unfold ansBo dysG; rw [h, hdy, hq2]; rfl]
    clear hq hq2
    go_enter Tryd.func14, Tryd.ntmps14
    go_wp2_with fail
    refine (hdAsked_any _ _ _ _ _ _ s _ HS.out).mono ?_
    rintro e w1 ⟨rfl, hb1⟩
    rw [h]
    go_wp2_with fail
    refine (cnDays_any d _ HD.out).mono ?_
    rintro e w2 ⟨rfl, rfl⟩
    rw [hdy]
    go_wp2_with fail
    go_ret3
    exact ⟨rfl, bel_trans (bel_alloc (Below.refl _ _) _) hb1⟩
  · have hdg : dysG s d = true := by unfold dysG; rw [hdy]; simpa using hq
    have h' := h
    rw [Bool.and_eq_true] at h'
    obtain ⟨hr, hp⟩ := goodH_in h'.1
    obtain ⟨h1, h6, ha⟩ := signs_in h'.2
    have c1 : 1 ≤ c ∧ c ≤ 10 ∧ 1 ≤ r ∧ r ≤ 10 := by unfold inR at hr hp; omega
    obtain ⟨c1, c2, c3, c4⟩ := c1
    obtain ⟨p0, p1⟩ := prtV_le6 c1 c2 c3 c4 s.size h6
    obtain ⟨hda, hde⟩ := dys_in hdg
    rw [show ansBo a b c p q r d s = lowV (bth a b c p q r d s) (prtV c r s.size) from by unfold ansBo; rw [h, hdg]; rfl]
    obtain ⟨x0, x1⟩ : 0 ≤ bth a b c p q r d s ∧ bth a b c p q r d s ≤ 100000000000000 := bthK_le hr hp d s _ (by omega) (by omega)
    have hA : Hid (∀ W : World, Calls Tryd.prog 36 #[hdn a b c p q r, .string d, .string s] W fun e w' => e = .returned (.int .i64 (bth a b c p q r d s)) ∧ Below W.heap.size W w') := Lib.hid (fun W => hdBoth_any a b c p q r d s W hr hp hda ha (by omega) (by omega) (by omega))
    have hB : Hid (∀ W : World, Calls Tryd.prog 37 #[hdn a b c p q r, .int .i64 d.size] W fun e w' => e = .returned (.int .i64 (prtV c r s.size)) ∧ Below W.heap.size W w') := Lib.hid (fun W => by rw [hde]; exact hdParts_any a b c p q r s.size W hr hp h6)
    have hC : Hid (∀ W : World, Calls Tryd.prog 35 #[.int .i64 (bth a b c p q r d s), .int .i64 (prtV c r s.size)] W fun e w' => e = .returned (.tuple #[.int .i64 (low (bth a b c p q r d s) (bth a b c p q r d s) (prtV c r s.size)), .int .i64 (low (prtV c r s.size) (bth a b c p q r d s) (prtV c r s.size))]) ∧ ∃ n, w' = W.drewN n) := Lib.hid (fun W => cnLow_big _ _ W x0 p0 (by omega) (by omega))
    unfold lowV at *
    generalize bth a b c p q r d s = X at *
    generalize prtV c r s.size = D at *
    clear hr hp ha h' x0 x1 p0 p1 c1 c2 c3 c4 hda hde
    have hq3 : ((d.size : Int) != (s.size : Int)) = false := by simpa using hq
    clear hq
    go_enter Tryd.func14, Tryd.ntmps14
    go_wp2_with fail
    refine (hdAsked_any _ _ _ _ _ _ s _ HS.out).mono ?_
    rintro e w1 ⟨rfl, hb1⟩
    rw [h]
    have bx1 := Lib.hid (bx.out.keep hb1)
    have bl1 := bel_trans (bel_alloc (Below.refl _ w) _) hb1
    obtain ⟨d0, d1, d2, d3, d4, d5, d6⟩ := bx1.out
    clear hb1
    go_wp2_with fail
    refine (cnDays_any d _ HD.out).mono ?_
    rintro e w2 ⟨rfl, rfl⟩
    rw [hdy]
    go_wp2_with fail
    go_region_held3 (fun w' => w'.cell? ⟨w.heap.size, 0, none⟩ = some (.int .i64 a) ∧ w'.cell? ⟨w.heap.size, 1, none⟩ = some (.int .i64 b) ∧ w'.cell? ⟨w.heap.size, 2, none⟩ = some (.int .i64 c) ∧ w'.cell? ⟨w.heap.size, 3, none⟩ = some (.int .i64 p) ∧ w'.cell? ⟨w.heap.size, 4, none⟩ = some (.int .i64 q) ∧ w'.cell? ⟨w.heap.size, 5, none⟩ = some (.int .i64 r) ∧ w.heap.size < w'.heap.size ∧ Below w.heap.size w w')
      (first | exact h6_start bx1.out bl1 | exact h6_keep (by assumption) hb2 | exact h6_keep (by assumption) hb3 | exact h6_drewN (by assumption) _ | assumption | go_keep)
      (first | (go_at_call 36; refine (hA.out _).mono ?_; rintro e w2 ⟨rfl, hb2⟩) | (go_at_call 37; refine (hB.out _).mono ?_; rintro e w3 ⟨rfl, hb3⟩) | (go_at_call 35; refine (hC.out _).mono ?_; rintro e w4 ⟨rfl, n4, rfl⟩))
    all_goals
      obtain ⟨hbx9, hbl9⟩ := h6_below (by assumption)
      clear hbx9
      go_wp2
      go_ret3
      exact ⟨rfl, hbl9⟩

set_option maxRecDepth 100000 in
set_option maxHeartbeats 3200000 in
theorem implBo_any (a b c p q r : Int) (d s : ByteArray) (w : World) (hd : d.size ≤ maxLen) (hs : s.size ≤ maxLen) :
    Calls Tryd.prog 16 #[hdn a b c p q r, .string d, .string s] w fun e w' => e = .returned (ansBo a b c p q r d s) ∧ Below w.heap.size w w' := by
  have HS := Lib.hid hs
  have HD := Lib.hid hd
  have bx := Lib.hid (Box6.new w a b c p q r 31)
  cases h : (goodH a b c p q r && signsB s)
  · rw [show ansBo a b c p q r d s = failV from by unfold ansBo; rw [h]; rfl]
    go_enter Tryd.func16, Tryd.ntmps16
    go_wp2_with fail
    refine (isSigned_any _ _ _ _ _ _ s _ HS.out).mono ?_
    rintro e w1 ⟨rfl, hb1⟩
    rw [h]
    go_wp2_with fail
    go_ret3
    exact ⟨rfl, bel_trans (bel_alloc (Below.refl _ _) _) hb1⟩
  cases hdg : dysG s d
  · rw [show ansBo a b c p q r d s = failV from by unfold ansBo; rw [h, hdg]; rfl]
    go_enter Tryd.func16, Tryd.ntmps16
    go_wp2_with fail
    refine (isSigned_any _ _ _ _ _ _ s _ HS.out).mono ?_
    rintro e w1 ⟨rfl, hb1⟩
    rw [h]
    go_wp2_with fail
    refine (areDaysOf_any s d _ HS.out HD.out).mono ?_
    rintro e w2 ⟨rfl, rfl⟩
    rw [hdg]
    go_wp2_with fail
    go_ret3
    exact ⟨rfl, bel_trans (bel_alloc (Below.refl _ _) _) hb1⟩
  · skip
    have h' := h
    rw [Bool.and_eq_true] at h'
    obtain ⟨hr, hp⟩ := goodH_in h'.1
    obtain ⟨h1, h6, ha⟩ := signs_in h'.2
    have c1 : 1 ≤ c ∧ c ≤ 10 ∧ 1 ≤ r ∧ r ≤ 10 := by unfold inR at hr hp; omega
    obtain ⟨c1, c2, c3, c4⟩ := c1
    obtain ⟨p0, p1⟩ := prtV_le6 c1 c2 c3 c4 s.size h6
    obtain ⟨hda, hde⟩ := dys_in hdg
    rw [show ansBo a b c p q r d s = lowV (bth a b c p q r d s) (prtV c r s.size) from by unfold ansBo; rw [h, hdg]; rfl]
    obtain ⟨x0, x1⟩ : 0 ≤ bth a b c p q r d s ∧ bth a b c p q r d s ≤ 100000000000000 := bthK_le hr hp d s _ (by omega) (by omega)
    have hA : Hid (∀ W : World, Calls Tryd.prog 42 #[hdn a b c p q r, .string d, .string s] W fun e w' => e = .returned (.int .i64 (bth a b c p q r d s)) ∧ Below W.heap.size W w') := Lib.hid (fun W => both_any a b c p q r d s W hr hp hda ha (by omega) (by omega) (by omega))
    have hB : Hid (∀ W : World, Calls Tryd.prog 43 #[hdn a b c p q r, .int .i64 d.size] W fun e w' => e = .returned (.int .i64 (prtV c r s.size)) ∧ Below W.heap.size W w') := Lib.hid (fun W => by rw [hde]; exact bothOf_any a b c p q r s.size W hr hp h1 h6)
    have hC : Hid (∀ W : World, Calls Tryd.prog 41 #[.int .i64 (bth a b c p q r d s), .int .i64 (prtV c r s.size)] W fun e w' => e = .returned (lowV (bth a b c p q r d s) (prtV c r s.size)) ∧ ∃ n, w' = W.drewN n) := Lib.hid (fun W => told_big _ _ W x0 p0 (by omega) (by omega))
    unfold lowV at *
    generalize bth a b c p q r d s = X at *
    generalize prtV c r s.size = D at *
    clear hr hp ha h' x0 x1 p0 p1 c1 c2 c3 c4 hda hde
    go_enter Tryd.func16, Tryd.ntmps16
    go_wp2_with fail
    refine (isSigned_any _ _ _ _ _ _ s _ HS.out).mono ?_
    rintro e w1 ⟨rfl, hb1⟩
    rw [h]
    have bx1 := Lib.hid (bx.out.keep hb1)
    have bl1 := bel_trans (bel_alloc (Below.refl _ w) _) hb1
    obtain ⟨d0, d1, d2, d3, d4, d5, d6⟩ := bx1.out
    clear hb1
    go_wp2_with fail
    refine (areDaysOf_any s d _ HS.out HD.out).mono ?_
    rintro e w2 ⟨rfl, rfl⟩
    rw [hdg]
    go_wp2_with fail
    go_region_held3 (fun w' => w'.cell? ⟨w.heap.size, 0, none⟩ = some (.int .i64 a) ∧ w'.cell? ⟨w.heap.size, 1, none⟩ = some (.int .i64 b) ∧ w'.cell? ⟨w.heap.size, 2, none⟩ = some (.int .i64 c) ∧ w'.cell? ⟨w.heap.size, 3, none⟩ = some (.int .i64 p) ∧ w'.cell? ⟨w.heap.size, 4, none⟩ = some (.int .i64 q) ∧ w'.cell? ⟨w.heap.size, 5, none⟩ = some (.int .i64 r) ∧ w.heap.size < w'.heap.size ∧ Below w.heap.size w w')
      (first | exact h6_start bx1.out bl1 | exact h6_keep (by assumption) hb2 | exact h6_keep (by assumption) hb3 | exact h6_drewN (by assumption) _ | assumption | go_keep)
      (first | (go_at_call 42; refine (hA.out _).mono ?_; rintro e w2 ⟨rfl, hb2⟩) | (go_at_call 43; refine (hB.out _).mono ?_; rintro e w3 ⟨rfl, hb3⟩) | (go_at_call 41; refine (hC.out _).mono ?_; rintro e w4 ⟨rfl, n4, rfl⟩))
    all_goals
      obtain ⟨hbx9, hbl9⟩ := h6_below (by assumption)
      clear hbx9
      go_wp2
      go_ret3
      exact ⟨rfl, hbl9⟩

set_option maxRecDepth 100000 in
set_option maxHeartbeats 3200000 in
theorem walkExactChanceBoth (a b c p q r : Int) (d : ByteArray) (s : ByteArray) (w : World) (ha : (Lit.int .i64 a).wf = true) (hb : (Lit.int .i64 b).wf = true) (hc : (Lit.int .i64 c).wf = true) (hp : (Lit.int .i64 p).wf = true) (hq : (Lit.int .i64 q).wf = true) (hr : (Lit.int .i64 r).wf = true) (zd : d.size ≤ maxLen) (zs : s.size ≤ maxLen) :
    Calls Tryd.prog 4 #[hdn a b c p q r, .string d, .string s] w fun e w' => e = .returned (.bool true) ∧ Below w.heap.size w w' := by
  clear ha hb hc hp hq hr
  by_cases ld : d.size ≤ 1048576
  · skip
    by_cases ls : s.size ≤ 1048576
    · skip
      obtain ⟨x, y, ok, hv⟩ := ansBo_form a b c p q r d s
      have Zd := Lib.hid zd
      have Zs := Lib.hid zs
      have Hv := Lib.hid hv
      clear hv zd zs
      have bx := Lib.hid (Box6.new w a b c p q r 26)
      go_enter Tryd.func4, Tryd.ntmps4
      go_wp2_with fail
      refine (toHidden_any _ _ _ _ _ _ _).mono ?_
      rintro e w1 ⟨rfl, hb1⟩
      have bx1 := Lib.hid (bx.out.keep hb1)
      go_wp2_with fail
      refine (specBo_any _ _ _ _ _ _ d s _ Zd.out Zs.out).mono ?_
      rw [Hv.out]
      rintro e w2 ⟨rfl, hb2⟩
      obtain ⟨c0, c1, c2, c3, c4, c5, hk⟩ := bx1.out.keep hb2
      go_wp2_with fail
      refine (toHidden_any _ _ _ _ _ _ _).mono ?_
      rintro e w3 ⟨rfl, hb3⟩
      go_wp2_with fail
      refine (implBo_any _ _ _ _ _ _ d s _ Zd.out Zs.out).mono ?_
      rw [Hv.out]
      rintro e w4 ⟨rfl, hb4⟩
      go_wp2_with fail
      go_ret
      exact ⟨rfl, bel_trans (bel_trans (bel_trans (bel_trans (bel_alloc (Below.refl _ _) _) hb1) hb2) hb3) hb4⟩
    · go_enter Tryd.func4, Tryd.ntmps4
      go_wp2
      go_ret
      exact ⟨rfl, bel_alloc (Below.refl _ _) _⟩
  · go_enter Tryd.func4, Tryd.ntmps4
    go_wp2
    go_ret
    exact ⟨rfl, bel_alloc (Below.refl _ _) _⟩

end Go.Proofs.YtjfcpbedmdnjcaaDoor
