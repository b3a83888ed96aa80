/- WordOverlaps: contracts and the walk. -/
import Derived.Test.YtiblggfihpobkaaDoorWo
import Derived.Test.YtiblggfihpobkaaDoorRowI
namespace Go.Proofs.YtiblggfihpobkaaDoor
set_option linter.unusedSimpArgs false
open Go.ChangeShapes Go.WideShapes Go.ChangeAt Go.RowKit
set_option linter.unusedVariables false

theorem suffix_any (s p : ByteArray) (w : World) (hs : s.size ≤ 9223372036854775807) :
    Calls Tryd.prog 62 #[.string s, .string p] w fun e w' => e = .returned (.bool (Lib.hasSuffix s.data.toList p.data.toList)) ∧ w = w' :=
  (Tryd.strings_HasSuffix s p w hs).mono fun _ _ ⟨a, b⟩ => ⟨a, b.symm⟩

set_option maxRecDepth 100000 in
set_option maxHeartbeats 1600000 in
theorem implOvl_any (s : ByteArray) (w : World) (h1 : 1 ≤ s.size) (h8 : s.size ≤ 8) :
    Calls Tryd.prog 43 #[.string s] w (RowOne (selR (ovlB s) 1 (s.size - 1)) w) := by
  go_enter Tryd.func43, Tryd.ntmps43
  go_wp2_with fail
  go_loopw [3, 4] (fun v x wr => ∃ k : Nat, k + 1 ≤ s.size ∧ x = .int .i64 ((k : Int) + 1) ∧ Hid (IRow wr w.heap.size v (selR (ovlB s) 1 k)) ∧ Below w.heap.size w wr) (fun _ x _ => s.size - (intOf x).toNat)
  case atStart => exact ⟨0, by omega, rfl, IRow.nil _ _, Below.refl _ _⟩
  case round =>
    obtain ⟨k, hk, rfl, hI, hb⟩ := hrel
    obtain ⟨wa, rfl⟩ : ∃ wa : World, wa = wr := ⟨_, rfl⟩
    have hsa := hb.size
    by_cases hlt : k + 1 < s.size
    · have hl := selR_len (ovlB s) 1 k
      have hsuf : Lib.hasSuffix s.data.toList (s.extract 0 (k + 1)).data.toList = ovlB s (1 + k) := by rw [Nat.add_comm 1 k]; exact suf_ovl s (k + 1) (by omega)
      cases hq : ovlB s (1 + k) with
      | true =>
        have hS : Hid (selR (ovlB s) 1 (k + 1) = selR (ovlB s) 1 k ++ [(k : Int) + 1]) := by
          refine Lib.hid ?_
          rw [selR_yes hq]
          simp
          omega
        rw [hq] at hsuf
        have Hs := Lib.hid hsuf
        clear hsuf hq
        go_wp2_with fail
        refine (suffix_any s _ _ (by omega)).mono ?_
        rintro e w2 ⟨rfl, rfl⟩
        rw [Hs.out]
        go_wp2_with (at_builtin; refine wpList_push1 rfl (.tmp 16) (.tmp 18) rfl _ _ _ hI.out (by omega) hsa ((k : Int) + 1) rfl rfl ?_)
        intro v' w3 hI3 hb3
        go_wp2_with fail
        exact ⟨⟨k + 1, by omega, by go_num, by rw [hS.out]; exact hI3, hb.trans hb3⟩, by simp [intOf]; omega⟩
      | false =>
        have hS := Lib.hid (selR_no hq)
        rw [hq] at hsuf
        have Hs := Lib.hid hsuf
        clear hsuf hq
        go_wp2_with fail
        refine (suffix_any s _ _ (by omega)).mono ?_
        rintro e w2 ⟨rfl, rfl⟩
        rw [Hs.out]
        go_wp2_with fail
        exact ⟨⟨k + 1, by omega, by go_num, by rw [hS.out]; exact hI, hb⟩, by simp [intOf]; omega⟩
    · obtain rfl : s.size - 1 = k := by omega
      go_wp2_with fail
      go_ret
      exact ⟨_, rfl, hI.out, hb⟩

theorem ba_beq (a b : ByteArray) : (a.toList == b.toList) = decide (a = b) := by
  rw [Bool.eq_iff_iff, beq_iff_eq, decide_eq_true_iff, ba_eq, ByteArray.toList_eq, ByteArray.toList_eq]

set_option maxRecDepth 100000 in
set_option maxHeartbeats 1600000 in
theorem woOvl_any (s : ByteArray) (w : World) (h1 : 1 ≤ s.size) (h8 : s.size ≤ 8) :
    Calls Tryd.prog 41 #[.string s] w (RowOne (selR (ovlB s) 1 (s.size - 1)) w) := by
  go_enter Tryd.func41, Tryd.ntmps41
  go_wp2_with fail
  go_loopw [3, 4] (fun v x wr => ∃ k : Nat, k + 1 ≤ s.size ∧ x = .int .i64 ((k : Int) + 1) ∧ Hid (IRow wr w.heap.size v (selR (ovlB s) 1 k)) ∧ Below w.heap.size w wr) (fun _ x _ => s.size - (intOf x).toNat)
  case atStart => exact ⟨0, by omega, rfl, IRow.nil _ _, Below.refl _ _⟩
  case round =>
    obtain ⟨k, hk, rfl, hI, hb⟩ := hrel
    obtain ⟨wa, rfl⟩ : ∃ wa : World, wa = wr := ⟨_, rfl⟩
    have hsa := hb.size
    by_cases hlt : k + 1 < s.size
    · have hl := selR_len (ovlB s) 1 k
      have hw1 : IntKind.i64.wrap ((s.size : Int) - ((k + 1 : Nat) : Int)) = ((s.size - (k + 1) : Nat) : Int) := by rw [IntWalk.i64_in _ (by omega)]; omega
      have hbe : ((s.extract 0 (k + 1)).toList == (s.extract (s.size - (k + 1)) s.size).toList) = ovlB s (1 + k) := by rw [Nat.add_comm 1 k]; exact ba_beq _ _
      cases hq : ovlB s (1 + k) with
      | true =>
        have hS : Hid (selR (ovlB s) 1 (k + 1) = selR (ovlB s) 1 k ++ [(k : Int) + 1]) := by
          refine Lib.hid ?_
          rw [selR_yes hq]
          simp
          omega
        rw [hq] at hbe
        clear hq
        go_wp2_with fail
        go_quiet (fail)
        go_wp2_with (at_builtin; refine wpList_push1 rfl (.tmp 21) (.tmp 23) rfl _ _ _ (hI.out.drewN _) (by omega) hsa ((k : Int) + 1) rfl rfl ?_)
        intro v' w3 hI3 hb3
        go_wp2_with fail
        exact ⟨⟨k + 1, by omega, by go_num, by rw [hS.out]; exact hI3, (bel_drewN hb _).trans hb3⟩, by simp [intOf]; omega⟩
      | false =>
        have hS := Lib.hid (selR_no hq)
        rw [hq] at hbe
        clear hq
        go_wp2_with fail
        go_quiet (fail)
        go_wp2_with fail
        exact ⟨⟨k + 1, by omega, by go_num, by rw [hS.out]; exact hI.out.drewN _, bel_drewN hb _⟩, by simp [intOf]; omega⟩
    · obtain rfl : s.size - 1 = k := by omega
      go_wp2_with fail
      go_ret
      exact ⟨_, rfl, hI.out, hb⟩

def ansWov (s : ByteArray) : List Int := if woG 26 s then selR (ovlB s) 1 (s.size - 1) else []
theorem ansWov_len (s : ByteArray) : (ansWov s).length ≤ 1000 := by
  unfold ansWov
  split
  · rename_i h
    have := selR_len (ovlB s) 1 (s.size - 1)
    have := wo_in h
    omega
  · simp
theorem specWov_any (s : ByteArray) (w : World) (hs : s.size ≤ maxLen) :
    Calls Tryd.prog 15 #[.string s] w (RowAns (ansWov s) (woG 26 s) w) := by
  cases h1 : woG 26 s
  · rw [show ansWov s = [] from by unfold ansWov; rw [h1]; rfl]
    go_enter Tryd.func15, Tryd.ntmps15
    go_wp2_with fail
    refine (woAny_any s _ hs).mono ?_
    rintro e w1 ⟨rfl, rfl⟩
    rw [h1]
    go_wp2_with fail
    go_ret2
    exact ⟨_, rfl, IRow.nil _ _, Below.refl _ _⟩
  · rw [show ansWov s = selR (ovlB s) 1 (s.size - 1) from by unfold ansWov; rw [h1]; rfl]
    obtain ⟨p1, p2, p3⟩ := wo_in h1
    go_enter Tryd.func15, Tryd.ntmps15
    go_wp2_with fail
    refine (woAny_any s _ hs).mono ?_
    rintro e w1 ⟨rfl, rfl⟩
    rw [h1]
    go_wp2_with fail
    refine (woOvl_any s _ p1 p2).mono ?_
    rintro e w3 ⟨v, rfl, r3, b3⟩
    go_wp2_with fail
    go_ret2
    exact ⟨_, rfl, r3, b3⟩
theorem implWov_any (s : ByteArray) (w : World) (hs : s.size ≤ maxLen) :
    Calls Tryd.prog 16 #[.string s] w (RowAns (ansWov s) (woG 26 s) w) := by
  cases h1 : woG 26 s
  · rw [show ansWov s = [] from by unfold ansWov; rw [h1]; rfl]
    go_enter Tryd.func16, Tryd.ntmps16
    go_wp2_with fail
    refine (isWord_any s _ hs).mono ?_
    rintro e w1 ⟨rfl, b1⟩
    rw [h1]
    go_wp2_with fail
    go_ret2
    exact ⟨_, rfl, IRow.nil _ _, b1⟩
  · rw [show ansWov s = selR (ovlB s) 1 (s.size - 1) from by unfold ansWov; rw [h1]; rfl]
    obtain ⟨p1, p2, p3⟩ := wo_in h1
    go_enter Tryd.func16, Tryd.ntmps16
    go_wp2_with fail
    refine (isWord_any s _ hs).mono ?_
    rintro e w1 ⟨rfl, b1⟩
    rw [h1]
    go_wp2_with fail
    refine (implOvl_any s _ p1 p2).mono ?_
    rintro e w3 ⟨v, rfl, r3, b3⟩
    go_wp2_with fail
    go_ret2
    exact ⟨_, rfl, r3.mono b1.size, bel_trans b1 b3⟩
set_option maxRecDepth 100000 in
set_option maxHeartbeats 1600000 in
theorem walkExactWordOverlaps (s : ByteArray) (w : World) (hs : s.size ≤ maxLen) :
    Calls Tryd.prog 4 #[.string s] w fun e w' => e = .returned (.bool true) ∧ Below w.heap.size w w' := by
  by_cases z0 : s.size ≤ 1048576
  rotate_left
  · go_enter Tryd.func4, Tryd.ntmps4
    go_wp2
    go_ret
    exact ⟨rfl, Below.refl _ _⟩
  have hlen : (ansWov s).length ≤ 1000 := ansWov_len s
  generalize hxs : ansWov s = xs at *
  have Hxs := Lib.hid hxs
  clear hxs
  generalize hok : woG 26 s = ok at *
  have Hok := Lib.hid hok
  clear hok
  go_enter Tryd.func4, Tryd.ntmps4
  go_wp2_with fail
  refine (specWov_any s _ hs).mono ?_
  rw [Hxs.out, Hok.out]
  rintro e w1 ⟨v0, rfl, r0, bl1⟩
  have R0 := Lib.hid r0
  clear r0
  go_wp2_with fail
  refine (implWov_any s _ hs).mono ?_
  rw [Hxs.out, Hok.out]
  rintro e w2 ⟨v1, rfl, r1, hb2⟩
  have R1 := Lib.hid r1
  clear r1
  have R0b := Lib.hid (R0.out.below hb2)
  have bl2 := bel_trans bl1 hb2
  go_wp2_with fail
  refine (eqInt_same xs v1 v0 _ _ _ R1.out R0b.out).mono ?_
  rintro e w3 ⟨rfl, n3, rfl⟩
  go_wp2_with fail
  refine (mark_any xs v1 _ 1 _ (R1.out.drewN n3) (by omega) (by omega)).mono ?_
  rintro e w4 ⟨rfl, r4, hg4⟩
  have R4 := Lib.hid r4
  clear r4
  have bl4 := bel_grown (bel_drewN bl2 n3) hg4 (R1.out.drewN n3) (Nat.le_trans bl1.size (Nat.le_refl _))
  have R0c := Lib.hid ((R0b.out.drewN n3).kept_by hg4 (R1.out.drewN n3) bl1.size (R0.out))
  go_wp2_with fail
  refine (held_any xs v1 _ 1 _ R4.out (by omega) (by omega)).mono ?_
  rintro e w5 ⟨rfl, n5, rfl⟩
  have t1 : decide ((1 : Int) + (xs.length : Int) < 0) = false := by simp; omega
  go_wp2_with fail
  refine (implWov_any s _ hs).mono ?_
  rw [Hxs.out, Hok.out]
  rintro e w6 ⟨v2, rfl, r6, hb6⟩
  have R2 := Lib.hid r6
  clear r6
  have hb6b := bel_undrewN hb6
  have R0d := Lib.hid (R0c.out.below hb6b)
  have R1d := Lib.hid (R4.out.below hb6b)
  have bl6 := bel_trans bl4 hb6b
  go_wp2_with fail
  refine (eqInt_same xs v2 v0 _ _ _ R2.out R0d.out).mono ?_
  rintro e w7 ⟨rfl, n7, rfl⟩
  go_wp2_with fail
  refine (held_any xs v1 _ 1 _ (R1d.out.drewN n7) (by omega) (by omega)).mono ?_
  rintro e w8 ⟨rfl, n8, rfl⟩
  go_wp2_with fail
  go_ret
  refine ⟨rfl, ?_⟩
  repeat (first | assumption | with_reducible exact Below.refl _ _ | refine bel_alloc ?_ _ | refine bel_drewN ?_ _ | refine Below.drew ?_ | (refine Below.setCell ?_ (by simp) _) | (refine bel_trans ?_ (by assumption)))
end Go.Proofs.YtiblggfihpobkaaDoor
