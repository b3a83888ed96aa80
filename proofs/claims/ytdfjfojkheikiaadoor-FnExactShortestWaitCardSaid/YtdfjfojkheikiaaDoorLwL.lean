/- LongestWait, ShortestWait: the walks through the laws. -/
import Derived.Test.YtdfjfojkheikiaaDoorLwI
namespace Go.Proofs.YtdfjfojkheikiaaDoor
set_option linter.unusedSimpArgs false
open Go.ChangeShapes Go.WideShapes Go.ChangeAt Go.RowKit
set_option linter.unusedVariables false

theorem ansLW_len (most : Bool) (n : Int) : (ansLW most n).length ≤ 300 := by
  unfold ansLW
  split
  · rename_i h
    obtain ⟨k, rfl, k1, k8⟩ := okLW_yes h
    have := grp_len (allTx k) (mxW most k) (allTx k).length
    have h2 := tx8 k k8
    rw [← allTx_len] at h2
    exact Nat.le_trans this (by omega)
  · simp
set_option maxRecDepth 100000 in
set_option maxHeartbeats 1600000 in
theorem specLongestWait_any (n : Int) (w : World) : Calls Tryd.prog 6 #[.int .i64 n] w (RowSIB (ansLW true n) (numLW true n) (okLW n) w) := by
  have hin := Lib.hid (fun W => l1In_any n 1 8 W)
  have hoo : inB n 1 8 = okLW n := rfl
  rw [hoo] at hin
  clear hoo
  cases ho : okLW n with
  | false =>
    rw [show ansLW true n = [] from by simp [ansLW, ho], show numLW true n = 0 from by simp [numLW, ho]]
    rw [ho] at hin
    clear ho
    go_enter Tryd.func6, Tryd.ntmps6
    go_wp2_with fail
    refine (hin.out _).mono ?_
    rintro e w1 ⟨rfl, rfl⟩
    go_wp2_with fail
    go_ret3
    exact ⟨_, rfl, World.ownsRow_nil _ _ _ _, Below.refl _ _⟩
  | true =>
    rw [ho] at hin
    obtain ⟨k, rfl, k1, k8⟩ := okLW_yes ho
    rw [show ansLW true k = exW true k from by simp [ansLW, ho], show numLW true k = mxW true k from by simp [numLW, ho]]
    have HE := Lib.hid (fun W => ptEx_true k W k1 k8)
    clear ho
    generalize exW true k = xs at *
    generalize mxW true k = m at *
    go_enter Tryd.func6, Tryd.ntmps6
    go_wp2_with fail
    refine (hin.out _).mono ?_
    rintro e w1 ⟨rfl, rfl⟩
    go_wp2_with fail
    refine (HE.out _).mono ?_
    rintro e w2 ⟨v, rfl, r0, b0⟩
    obtain ⟨A, cap, rfl, _, _⟩ := r0.formL
    have R0 := Lib.hid r0
    generalize xs.length = K at *
    clear r0
    go_wp2_with fail
    go_ret3
    exact ⟨_, rfl, R0.out, b0⟩
set_option maxRecDepth 100000 in
set_option maxHeartbeats 1600000 in
theorem implLongestWait_any (n : Int) (w : World) : Calls Tryd.prog 7 #[.int .i64 n] w (RowSIB (ansLW true n) (numLW true n) (okLW n) w) := by
  have HE := Lib.hid (fun W => chosen_true n W)
  generalize ansLW true n = xs at *
  generalize numLW true n = m at *
  generalize okLW n = ok at *
  go_enter Tryd.func7, Tryd.ntmps7
  go_wp2_with fail
  refine (HE.out _).mono ?_
  rintro e w2 ⟨v, rfl, r0, b0⟩
  obtain ⟨A, cap, rfl, _, _⟩ := r0.formL
  have R0 := Lib.hid r0
  generalize xs.length = K at *
  clear r0
  go_wp2_with fail
  go_ret3
  exact ⟨_, rfl, R0.out, b0⟩
set_option maxRecDepth 100000 in
set_option maxHeartbeats 3200000 in
theorem walkExactLongestWait (n : Int) (w : World) (hn : (Lit.int .i64 n).wf = true) :
    Calls Tryd.prog 3 #[.int .i64 n] w fun e w' => e = .returned (.bool true) ∧ Below w.heap.size w w' := by
  clear hn
  have hlen := ansLW_len true n
  have HS := Lib.hid (fun W => specLongestWait_any n W)
  have HI := Lib.hid (fun W => implLongestWait_any n W)
  generalize ansLW true n = xs at *
  generalize numLW true n = m at *
  generalize okLW n = ok at *
  go_enter Tryd.func3, Tryd.ntmps3
  go_wp2_with fail
  refine (HS.out _).mono ?_
  rintro e w1 ⟨v0, rfl, r0, b1⟩
  have R0 := Lib.hid r0
  have s1 := b1.size
  have bl := b1
  clear r0 b1
  go_wp2_with fail
  refine (HI.out _).mono ?_
  rintro e w2 ⟨v1, rfl, r1, b2⟩
  have R1 := Lib.hid r1
  have R0b := R0
  have bl1 := bl
  replace R0 := Lib.hid (R0.out.below b2)
  replace bl := bel_trans bl b2
  clear r1
  go_wp2_with fail
  refine (eqStr_same xs v1 v0 _ _ _ R1.out R0.out).mono ?_
  rintro e w3 ⟨rfl, n3, rfl⟩
  go_wp2_with fail
  refine (markS_any xs v1 _ 1 _ (R1.out.drewN n3) (by omega) (by omega) b2.size).mono ?_
  rintro e w4 ⟨rfl, r4, g4⟩
  have R4 := Lib.hid r4
  clear r4
  have g4' : Below w1.heap.size w1 w4 := b2.trans (show Below w1.heap.size w2 w4 from ⟨g4.os, g4.tape, g4.output, g4.size, g4.block⟩)
  replace bl := bel_trans bl1 g4'
  replace R0 := Lib.hid (R0b.out.below g4')
  clear R0b bl1
  go_wp2_with fail
  refine (heldS_any xs v1 _ 1 _ R4.out (by omega) (by omega)).mono ?_
  rintro e w5 ⟨rfl, b5⟩
  replace bl := bel_trans bl b5
  replace R0 := Lib.hid (R0.out.below b5)
  replace R4 := Lib.hid (R4.out.below b5)
  have t1 : decide ((1 : Int) + (xs.length : Int) < 0) = false := by simp; omega
  go_wp2_with fail
  refine (HI.out _).mono ?_
  rintro e w6 ⟨v2, rfl, r6, b6⟩
  have R2 := Lib.hid r6
  clear r6
  replace bl := bel_trans bl b6
  replace R0 := Lib.hid (R0.out.below b6)
  replace R4 := Lib.hid (R4.out.below b6)
  go_wp2_with fail
  refine (eqStr_same xs v2 v0 _ _ _ R2.out R0.out).mono ?_
  rintro e w7 ⟨rfl, n7, rfl⟩
  go_wp2_with fail
  refine (heldS_any xs v1 _ 1 _ (R4.out.drewN n7) (by omega) (by omega)).mono ?_
  rintro e w8 ⟨rfl, b8⟩
  replace bl := bel_trans (bel_drewN bl n7) b8
  go_wp2_with fail
  go_ret
  exact ⟨rfl, bl⟩
set_option maxRecDepth 100000 in
set_option maxHeartbeats 1600000 in
theorem specShortestWait_any (n : Int) (w : World) : Calls Tryd.prog 11 #[.int .i64 n] w (RowSIB (ansLW false n) (numLW false n) (okLW n) w) := by
  have hin := Lib.hid (fun W => l1In_any n 1 8 W)
  have hoo : inB n 1 8 = okLW n := rfl
  rw [hoo] at hin
  clear hoo
  cases ho : okLW n with
  | false =>
    rw [show ansLW false n = [] from by simp [ansLW, ho], show numLW false n = 0 from by simp [numLW, ho]]
    rw [ho] at hin
    clear ho
    go_enter Tryd.func11, Tryd.ntmps11
    go_wp2_with fail
    refine (hin.out _).mono ?_
    rintro e w1 ⟨rfl, rfl⟩
    go_wp2_with fail
    go_ret3
    exact ⟨_, rfl, World.ownsRow_nil _ _ _ _, Below.refl _ _⟩
  | true =>
    rw [ho] at hin
    obtain ⟨k, rfl, k1, k8⟩ := okLW_yes ho
    rw [show ansLW false k = exW false k from by simp [ansLW, ho], show numLW false k = mxW false k from by simp [numLW, ho]]
    have HE := Lib.hid (fun W => ptEx_false k W k1 k8)
    clear ho
    generalize exW false k = xs at *
    generalize mxW false k = m at *
    go_enter Tryd.func11, Tryd.ntmps11
    go_wp2_with fail
    refine (hin.out _).mono ?_
    rintro e w1 ⟨rfl, rfl⟩
    go_wp2_with fail
    refine (HE.out _).mono ?_
    rintro e w2 ⟨v, rfl, r0, b0⟩
    obtain ⟨A, cap, rfl, _, _⟩ := r0.formL
    have R0 := Lib.hid r0
    generalize xs.length = K at *
    clear r0
    go_wp2_with fail
    go_ret3
    exact ⟨_, rfl, R0.out, b0⟩
set_option maxRecDepth 100000 in
set_option maxHeartbeats 1600000 in
theorem implShortestWait_any (n : Int) (w : World) : Calls Tryd.prog 12 #[.int .i64 n] w (RowSIB (ansLW false n) (numLW false n) (okLW n) w) := by
  have HE := Lib.hid (fun W => chosen_false n W)
  generalize ansLW false n = xs at *
  generalize numLW false n = m at *
  generalize okLW n = ok at *
  go_enter Tryd.func12, Tryd.ntmps12
  go_wp2_with fail
  refine (HE.out _).mono ?_
  rintro e w2 ⟨v, rfl, r0, b0⟩
  obtain ⟨A, cap, rfl, _, _⟩ := r0.formL
  have R0 := Lib.hid r0
  generalize xs.length = K at *
  clear r0
  go_wp2_with fail
  go_ret3
  exact ⟨_, rfl, R0.out, b0⟩
set_option maxRecDepth 100000 in
set_option maxHeartbeats 3200000 in
theorem walkExactShortestWait (n : Int) (w : World) (hn : (Lit.int .i64 n).wf = true) :
    Calls Tryd.prog 4 #[.int .i64 n] w fun e w' => e = .returned (.bool true) ∧ Below w.heap.size w w' := by
  clear hn
  have hlen := ansLW_len false n
  have HS := Lib.hid (fun W => specShortestWait_any n W)
  have HI := Lib.hid (fun W => implShortestWait_any n W)
  generalize ansLW false n = xs at *
  generalize numLW false n = m at *
  generalize okLW n = ok at *
  go_enter Tryd.func4, Tryd.ntmps4
  go_wp2_with fail
  refine (HS.out _).mono ?_
  rintro e w1 ⟨v0, rfl, r0, b1⟩
  have R0 := Lib.hid r0
  have s1 := b1.size
  have bl := b1
  clear r0 b1
  go_wp2_with fail
  refine (HI.out _).mono ?_
  rintro e w2 ⟨v1, rfl, r1, b2⟩
  have R1 := Lib.hid r1
  have R0b := R0
  have bl1 := bl
  replace R0 := Lib.hid (R0.out.below b2)
  replace bl := bel_trans bl b2
  clear r1
  go_wp2_with fail
  refine (eqStr_same xs v1 v0 _ _ _ R1.out R0.out).mono ?_
  rintro e w3 ⟨rfl, n3, rfl⟩
  go_wp2_with fail
  refine (markS_any xs v1 _ 1 _ (R1.out.drewN n3) (by omega) (by omega) b2.size).mono ?_
  rintro e w4 ⟨rfl, r4, g4⟩
  have R4 := Lib.hid r4
  clear r4
  have g4' : Below w1.heap.size w1 w4 := b2.trans (show Below w1.heap.size w2 w4 from ⟨g4.os, g4.tape, g4.output, g4.size, g4.block⟩)
  replace bl := bel_trans bl1 g4'
  replace R0 := Lib.hid (R0b.out.below g4')
  clear R0b bl1
  go_wp2_with fail
  refine (heldS_any xs v1 _ 1 _ R4.out (by omega) (by omega)).mono ?_
  rintro e w5 ⟨rfl, b5⟩
  replace bl := bel_trans bl b5
  replace R0 := Lib.hid (R0.out.below b5)
  replace R4 := Lib.hid (R4.out.below b5)
  have t1 : decide ((1 : Int) + (xs.length : Int) < 0) = false := by simp; omega
  go_wp2_with fail
  refine (HI.out _).mono ?_
  rintro e w6 ⟨v2, rfl, r6, b6⟩
  have R2 := Lib.hid r6
  clear r6
  replace bl := bel_trans bl b6
  replace R0 := Lib.hid (R0.out.below b6)
  replace R4 := Lib.hid (R4.out.below b6)
  go_wp2_with fail
  refine (eqStr_same xs v2 v0 _ _ _ R2.out R0.out).mono ?_
  rintro e w7 ⟨rfl, n7, rfl⟩
  go_wp2_with fail
  refine (heldS_any xs v1 _ 1 _ (R4.out.drewN n7) (by omega) (by omega)).mono ?_
  rintro e w8 ⟨rfl, b8⟩
  replace bl := bel_trans (bel_drewN bl n7) b8
  go_wp2_with fail
  go_ret
  exact ⟨rfl, bl⟩
end Go.Proofs.YtdfjfojkheikiaaDoor
