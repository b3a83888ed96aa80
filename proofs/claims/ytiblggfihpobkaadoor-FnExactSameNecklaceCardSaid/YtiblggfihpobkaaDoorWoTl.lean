/- TurnWord, FirstTurn, SameNecklace: contracts and walks. -/
import Derived.Test.YtiblggfihpobkaaDoorWoTn
namespace Go.Proofs.YtiblggfihpobkaaDoor
set_option linter.unusedSimpArgs false
open Go.ChangeShapes Go.WideShapes Go.ChangeAt Go.RowKit
set_option linter.unusedVariables false

def noT : Value := .tuple #[.string ⟨#[]⟩, .bool false]
def ansTn (s : ByteArray) (a : Int) : Value := if woG 26 s && (decide (0 ≤ a) && decide (a < s.size)) then .tuple #[.string (trn s a.toNat), .bool true] else noT
theorem specTn_any (s : ByteArray) (a : Int) (w : World) (hs : s.size ≤ maxLen) :
    Calls Tryd.prog 26 #[.string s, .int .i64 a] w fun e w' => e = .returned (ansTn s a) ∧ Below w.heap.size w w' := by
  cases h1 : woG 26 s
  · rw [show ansTn s a = noT from by unfold ansTn; rw [h1]; rfl]
    unfold noT
    go_enter Tryd.func26, Tryd.ntmps26
    go_wp2_with fail
    refine (woAny_any s _ hs).mono ?_
    rintro e w' ⟨rfl, rfl⟩
    rw [h1]
    go_wp2_with fail
    go_ret2
    exact ⟨rfl, Below.refl _ _⟩
  · obtain ⟨p1, p2, p3⟩ := wo_in h1
    have hwr : IntKind.i64.wrap ((s.size : Int) - 1) = (s.size : Int) - 1 := IntWalk.i64_in _ (by omega)
    cases h2 : inB a 0 ((s.size : Int) - 1)
    · have h3 : (decide (0 ≤ a) && decide (a < s.size)) = false := by
        rw [← h2]; unfold inB; rw [Bool.eq_iff_iff]; simp; omega
      rw [show ansTn s a = noT from by unfold ansTn; rw [h1, h3]; rfl]
      unfold noT
      clear h3
      go_enter Tryd.func26, Tryd.ntmps26
      go_wp2_with fail
      refine (woAny_any s _ hs).mono ?_
      rintro e w' ⟨rfl, rfl⟩
      rw [h1]
      go_wp2_with fail
      refine (l1In_any _ _ _ _).mono ?_
      rintro e w' ⟨rfl, rfl⟩
      rw [h2]
      go_wp2_with fail
      go_ret2
      exact ⟨rfl, Below.refl _ _⟩
    · have h3 : (decide (0 ≤ a) && decide (a < s.size)) = true := by
        rw [← h2]; unfold inB; rw [Bool.eq_iff_iff]; simp; omega
      obtain ⟨k, rfl, hk⟩ : ∃ k : Nat, a = k ∧ k < s.size := by simp at h3; exact ⟨a.toNat, by omega, by omega⟩
      have hfin : Hid (ansTn s k = .tuple #[.string (s.extract k s.size ++ s.extract 0 k), .bool true]) := Lib.hid (by unfold ansTn; rw [h1, h3]; rfl)
      rw [hfin.out]
      have z1 := ext_size s k s.size (Nat.le_refl _)
      have z2 := ext_size s 0 k (by omega)
      have t1 : ¬ 9223372036854775807 < (s.extract k s.size).size + (s.extract 0 k).size := by omega
      clear h3 z1 z2 hfin
      go_enter Tryd.func26, Tryd.ntmps26
      go_wp2_with fail
      refine (woAny_any s _ hs).mono ?_
      rintro e w' ⟨rfl, rfl⟩
      rw [h1]
      go_wp2_with fail
      refine (l1In_any _ _ _ _).mono ?_
      rintro e w' ⟨rfl, rfl⟩
      rw [h2]
      clear h1 h2
      go_wp2_with fail
      go_quiet (fail)
      go_wp2
      go_ret2
      exact ⟨rfl, bel_drewN (Below.refl _ _) _⟩
theorem implTn_any (s : ByteArray) (a : Int) (w : World) (hs : s.size ≤ maxLen) :
    Calls Tryd.prog 27 #[.string s, .int .i64 a] w fun e w' => e = .returned (ansTn s a) ∧ Below w.heap.size w w' := by
  cases h1 : woG 26 s
  · rw [show ansTn s a = noT from by unfold ansTn; rw [h1]; rfl]
    unfold noT
    go_enter Tryd.func27, Tryd.ntmps27
    go_wp2_with fail
    refine (isWord_any s _ hs).mono ?_
    rintro e w' ⟨rfl, hb⟩
    rw [h1]
    go_wp2_with fail
    go_ret2
    exact ⟨rfl, hb⟩
  · obtain ⟨p1, p2, p3⟩ := wo_in h1
    by_cases h2 : 0 ≤ a
    · by_cases h3 : a < s.size
      · obtain ⟨k, rfl, hk⟩ : ∃ k : Nat, a = k ∧ k < s.size := ⟨a.toNat, by omega, by omega⟩
        have hfin : Hid (ansTn s k = .tuple #[.string (trn s k), .bool true]) := Lib.hid (by unfold ansTn; rw [h1]; simp [hk])
        rw [hfin.out]
        have hz := trn_size s k (by omega)
        generalize hx : trn s k = x at *
        have Hx := Lib.hid hx
        have Hz := Lib.hid hz
        clear hx hz hfin
        go_enter Tryd.func27, Tryd.ntmps27
        go_wp2_with fail
        refine (isWord_any s _ hs).mono ?_
        rintro e w' ⟨rfl, hb⟩
        rw [h1]
        go_wp2_with fail
        refine (turned_any s k _ (by omega) p2).mono ?_
        rintro e w2 ⟨rfl, n2, rfl⟩
        rw [Hx.out]
        go_wp2_with fail
        refine (clone_any_str x _ (by have := Hz.out; omega)).mono ?_
        rintro e w3 ⟨rfl, b3⟩
        go_wp2_with fail
        go_ret2
        exact ⟨rfl, bel_trans (bel_drewN hb n2) b3⟩
      · have h3' : (s.size : Int) ≤ a := by omega
        rw [show ansTn s a = noT from by unfold ansTn; simp [h1, h3]]
        clear h3
        unfold noT
        go_enter Tryd.func27, Tryd.ntmps27
        go_wp2_with fail
        refine (isWord_any s _ hs).mono ?_
        rintro e w' ⟨rfl, hb⟩
        rw [h1]
        go_wp2_with fail
        go_ret2
        exact ⟨rfl, hb⟩
    · rw [show ansTn s a = noT from by unfold ansTn; simp [h1, h2]]
      unfold noT
      go_enter Tryd.func27, Tryd.ntmps27
      go_wp2_with fail
      refine (isWord_any s _ hs).mono ?_
      rintro e w' ⟨rfl, hb⟩
      rw [h1]
      go_wp2_with fail
      go_ret2
      exact ⟨rfl, hb⟩
theorem ansTn_form (s : ByteArray) (a : Int) : ∃ (x : ByteArray) (o : Bool), ansTn s a = .tuple #[.string x, .bool o] := by
  unfold ansTn noT
  split
  · exact ⟨_, _, rfl⟩
  · exact ⟨_, _, rfl⟩
theorem walkExactTurnWord (s : ByteArray) (a : Int) (w : World) (hs : s.size ≤ maxLen) (ha : (Lit.int .i64 a).wf = true) :
    Calls Tryd.prog 8 #[.string s, .int .i64 a] w fun e w' => e = .returned (.bool true) ∧ Below w.heap.size w w' := by
  clear ha
  by_cases z0 : s.size ≤ 1048576
  rotate_left
  · go_enter Tryd.func8, Tryd.ntmps8
    go_wp2
    go_ret
    exact ⟨rfl, Below.refl _ _⟩
  obtain ⟨x, o, hf⟩ := ansTn_form s a
  have Hf := Lib.hid hf
  clear hf
  go_enter Tryd.func8, Tryd.ntmps8
  go_wp2_with fail
  refine (specTn_any s a _ hs).mono ?_
  rw [Hf.out]
  rintro e w1 ⟨rfl, b1⟩
  go_wp2_with fail
  refine (implTn_any s a _ hs).mono ?_
  rw [Hf.out]
  rintro e w2 ⟨rfl, b2⟩
  go_wp2_with fail
  go_ret
  exact ⟨rfl, bel_trans b1 b2⟩
def ansFt (s : ByteArray) : Value := if woG 26 s then .tuple #[.string (fstW s), .bool true] else noT
theorem fstW_size (s : ByteArray) : (fstW s).size = s.size := fstK_size s _ (by omega)
theorem specFt_any (s : ByteArray) (w : World) (hs : s.size ≤ maxLen) :
    Calls Tryd.prog 28 #[.string s] w fun e w' => e = .returned (ansFt s) ∧ Below w.heap.size w w' := by
  cases h1 : woG 26 s
  · rw [show ansFt s = noT from by unfold ansFt; rw [h1]; rfl]
    unfold noT
    go_enter Tryd.func28, Tryd.ntmps28
    go_wp2_with fail
    refine (woAny_any s _ hs).mono ?_
    rintro e w' ⟨rfl, rfl⟩
    rw [h1]
    go_wp2_with fail
    go_ret2
    exact ⟨rfl, Below.refl _ _⟩
  · obtain ⟨p1, p2, p3⟩ := wo_in h1
    rw [show ansFt s = .tuple #[.string (fstW s), .bool true] from by unfold ansFt; rw [h1]; rfl]
    go_enter Tryd.func28, Tryd.ntmps28
    go_wp2_with fail
    refine (woAny_any s _ hs).mono ?_
    rintro e w' ⟨rfl, rfl⟩
    rw [h1]
    go_wp2_with fail
    refine (woFirst_any s _ p1 p2).mono ?_
    rintro e w' ⟨rfl, n, rfl⟩
    go_wp2_with fail
    go_ret2
    exact ⟨rfl, bel_drewN (Below.refl _ _) _⟩
theorem implFt_any (s : ByteArray) (w : World) (hs : s.size ≤ maxLen) :
    Calls Tryd.prog 29 #[.string s] w fun e w' => e = .returned (ansFt s) ∧ Below w.heap.size w w' := by
  cases h1 : woG 26 s
  · rw [show ansFt s = noT from by unfold ansFt; rw [h1]; rfl]
    unfold noT
    go_enter Tryd.func29, Tryd.ntmps29
    go_wp2_with fail
    refine (isWord_any s _ hs).mono ?_
    rintro e w' ⟨rfl, hb⟩
    rw [h1]
    go_wp2_with fail
    go_ret2
    exact ⟨rfl, hb⟩
  · obtain ⟨p1, p2, p3⟩ := wo_in h1
    rw [show ansFt s = .tuple #[.string (fstW s), .bool true] from by unfold ansFt; rw [h1]; rfl]
    have Hz := Lib.hid (fstW_size s)
    go_enter Tryd.func29, Tryd.ntmps29
    go_wp2_with fail
    refine (isWord_any s _ hs).mono ?_
    rintro e w' ⟨rfl, hb⟩
    rw [h1]
    go_wp2_with fail
    refine (firstTurn_any s _ p1 p2).mono ?_
    rintro e w2 ⟨rfl, b2⟩
    go_wp2_with fail
    refine (clone_any_str _ _ (by have := Hz.out; omega)).mono ?_
    rintro e w3 ⟨rfl, b3⟩
    go_wp2_with fail
    go_ret2
    exact ⟨rfl, bel_trans (bel_trans hb b2) b3⟩
theorem ansFt_form (s : ByteArray) : ∃ (x : ByteArray) (o : Bool), ansFt s = .tuple #[.string x, .bool o] := by
  unfold ansFt noT
  split
  · exact ⟨_, _, rfl⟩
  · exact ⟨_, _, rfl⟩
theorem walkExactFirstTurn (s : ByteArray) (w : World) (hs : s.size ≤ maxLen) :
    Calls Tryd.prog 9 #[.string s] w fun e w' => e = .returned (.bool true) ∧ Below w.heap.size w w' := by
  by_cases z0 : s.size ≤ 1048576
  rotate_left
  · go_enter Tryd.func9, Tryd.ntmps9
    go_wp2
    go_ret
    exact ⟨rfl, Below.refl _ _⟩
  obtain ⟨x, o, hf⟩ := ansFt_form s
  have Hf := Lib.hid hf
  clear hf
  go_enter Tryd.func9, Tryd.ntmps9
  go_wp2_with fail
  refine (specFt_any s _ hs).mono ?_
  rw [Hf.out]
  rintro e w1 ⟨rfl, b1⟩
  go_wp2_with fail
  refine (implFt_any s _ hs).mono ?_
  rw [Hf.out]
  rintro e w2 ⟨rfl, b2⟩
  go_wp2_with fail
  go_ret
  exact ⟨rfl, bel_trans b1 b2⟩
def ansSn (s t : ByteArray) : Value := if woG 26 s && woG 26 t then .tuple #[.bool (decide (fstW s = fstW t)), .bool true] else .tuple #[.bool false, .bool false]
theorem specSn_any (s t : ByteArray) (w : World) (hs : s.size ≤ maxLen) (ht : t.size ≤ maxLen) :
    Calls Tryd.prog 30 #[.string s, .string t] w fun e w' => e = .returned (ansSn s t) ∧ Below w.heap.size w w' := by
  cases h1 : woG 26 s
  · rw [show ansSn s t = .tuple #[.bool false, .bool false] from by unfold ansSn; rw [h1]; rfl]
    go_enter Tryd.func30, Tryd.ntmps30
    go_wp2_with fail
    refine (woAny_any s _ hs).mono ?_
    rintro e w1 ⟨rfl, rfl⟩
    rw [h1]
    go_wp2_with fail
    go_ret2
    exact ⟨rfl, Below.refl _ _⟩
  · cases h2 : woG 26 t
    · rw [show ansSn s t = .tuple #[.bool false, .bool false] from by unfold ansSn; rw [h1, h2]; rfl]
      go_enter Tryd.func30, Tryd.ntmps30
      go_wp2_with fail
      refine (woAny_any s _ hs).mono ?_
      rintro e w1 ⟨rfl, rfl⟩
      rw [h1]
      go_wp2_with fail
      refine (woAny_any t _ ht).mono ?_
      rintro e w2 ⟨rfl, rfl⟩
      rw [h2]
      go_wp2_with fail
      go_ret2
      exact ⟨rfl, Below.refl _ _⟩
    · rw [show ansSn s t = .tuple #[.bool (decide (fstW s = fstW t)), .bool true] from by unfold ansSn; rw [h1, h2]; rfl]
      obtain ⟨p1, p2, p3⟩ := wo_in h1
      obtain ⟨q1, q2, q3⟩ := wo_in h2
      have hbe := ba_bq (fstW s) (fstW t)
      go_enter Tryd.func30, Tryd.ntmps30
      go_wp2_with fail
      refine (woAny_any s _ hs).mono ?_
      rintro e w1 ⟨rfl, rfl⟩
      rw [h1]
      go_wp2_with fail
      refine (woAny_any t _ ht).mono ?_
      rintro e w2 ⟨rfl, rfl⟩
      rw [h2]
      clear h1 h2
      go_wp2_with fail
      refine (woFirst_any s _ p1 p2).mono ?_
      rintro e w3 ⟨rfl, n3, rfl⟩
      go_wp2_with fail
      refine (woFirst_any t _ q1 q2).mono ?_
      rintro e w4 ⟨rfl, n4, rfl⟩
      go_wp2_with fail
      go_ret2
      exact ⟨rfl, bel_drewN (Below.refl _ _) _⟩
theorem implSn_any (s t : ByteArray) (w : World) (hs : s.size ≤ maxLen) (ht : t.size ≤ maxLen) :
    Calls Tryd.prog 31 #[.string s, .string t] w fun e w' => e = .returned (ansSn s t) ∧ Below w.heap.size w w' := by
  cases h1 : woG 26 s
  · rw [show ansSn s t = .tuple #[.bool false, .bool false] from by unfold ansSn; rw [h1]; rfl]
    go_enter Tryd.func31, Tryd.ntmps31
    go_wp2_with fail
    refine (isWord_any s _ hs).mono ?_
    rintro e w1 ⟨rfl, hb1⟩
    rw [h1]
    go_wp2_with fail
    go_ret2
    exact ⟨rfl, hb1⟩
  · cases h2 : woG 26 t
    · rw [show ansSn s t = .tuple #[.bool false, .bool false] from by unfold ansSn; rw [h1, h2]; rfl]
      go_enter Tryd.func31, Tryd.ntmps31
      go_wp2_with fail
      refine (isWord_any s _ hs).mono ?_
      rintro e w1 ⟨rfl, hb1⟩
      rw [h1]
      go_wp2_with fail
      refine (isWord_any t _ ht).mono ?_
      rintro e w2 ⟨rfl, hb2⟩
      rw [h2]
      go_wp2_with fail
      go_ret2
      exact ⟨rfl, bel_trans hb1 hb2⟩
    · rw [show ansSn s t = .tuple #[.bool (decide (fstW s = fstW t)), .bool true] from by unfold ansSn; rw [h1, h2]; rfl]
      obtain ⟨p1, p2, p3⟩ := wo_in h1
      obtain ⟨q1, q2, q3⟩ := wo_in h2
      have hbe := ba_bq (fstW s) (fstW t)
      go_enter Tryd.func31, Tryd.ntmps31
      go_wp2_with fail
      refine (isWord_any s _ hs).mono ?_
      rintro e w1 ⟨rfl, hb1⟩
      rw [h1]
      go_wp2_with fail
      refine (isWord_any t _ ht).mono ?_
      rintro e w2 ⟨rfl, hb2⟩
      rw [h2]
      clear h1 h2
      go_wp2_with fail
      refine (firstTurn_any s _ p1 p2).mono ?_
      rintro e w3 ⟨rfl, hb3⟩
      go_wp2_with fail
      refine (firstTurn_any t _ q1 q2).mono ?_
      rintro e w4 ⟨rfl, hb4⟩
      go_wp2_with fail
      go_ret2
      exact ⟨rfl, bel_trans (bel_trans (bel_trans hb1 hb2) hb3) hb4⟩
theorem ansSn_form (s t : ByteArray) : ∃ (x : Bool) (o : Bool), ansSn s t = .tuple #[.bool x, .bool o] := by
  unfold ansSn
  split
  · exact ⟨_, _, rfl⟩
  · exact ⟨_, _, rfl⟩
theorem walkExactSameNecklace (s t : ByteArray) (w : World) (hs : s.size ≤ maxLen) (ht : t.size ≤ maxLen) :
    Calls Tryd.prog 10 #[.string s, .string t] w fun e w' => e = .returned (.bool true) ∧ Below w.heap.size w w' := by
  by_cases z0 : s.size ≤ 1048576
  rotate_left
  · go_enter Tryd.func10, Tryd.ntmps10
    go_wp2
    go_ret
    exact ⟨rfl, Below.refl _ _⟩
  by_cases z1 : t.size ≤ 1048576
  rotate_left
  · go_enter Tryd.func10, Tryd.ntmps10
    go_wp2
    go_ret
    exact ⟨rfl, Below.refl _ _⟩
  obtain ⟨x, o, hf⟩ := ansSn_form s t
  have Hf := Lib.hid hf
  clear hf
  go_enter Tryd.func10, Tryd.ntmps10
  go_wp2_with fail
  refine (specSn_any s t _ hs ht).mono ?_
  rw [Hf.out]
  rintro e w1 ⟨rfl, b1⟩
  go_wp2_with fail
  refine (implSn_any s t _ hs ht).mono ?_
  rw [Hf.out]
  rintro e w2 ⟨rfl, b2⟩
  go_wp2_with fail
  go_ret
  exact ⟨rfl, bel_trans b1 b2⟩
end Go.Proofs.YtiblggfihpobkaaDoor
