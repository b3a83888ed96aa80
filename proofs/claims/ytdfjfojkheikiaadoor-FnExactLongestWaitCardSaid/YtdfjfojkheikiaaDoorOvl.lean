/- OverlapsOf: the contracts of the program and of its model. -/
import Derived.Test.YtdfjfojkheikiaaDoorPtInts
namespace Go.Proofs.YtdfjfojkheikiaaDoor
set_option linter.unusedSimpArgs false
open Go.ChangeShapes Go.WideShapes Go.ChangeAt Go.RowKit
set_option linter.unusedVariables false

theorem suffix_any (s p : ByteArray) (w : World) (hs : s.size ≤ 9223372036854775807) :
    Calls Tryd.prog 50 #[.string s, .string p] w fun e w' => e = .returned (.bool (Lib.hasSuffix s.data.toList p.data.toList)) ∧ w = w' :=
  (Tryd.strings_HasSuffix s p w hs).mono fun _ _ ⟨a, b⟩ => ⟨a, b.symm⟩

set_option maxRecDepth 100000 in
set_option maxHeartbeats 1600000 in
theorem implOvl_any (s : ByteArray) (w : World) (h1 : 1 ≤ s.size) (h8 : s.size ≤ 8) :
    Calls Tryd.prog 39 #[.string s] w (RowOne (selR (ovlB s) 1 (s.size - 1)) w) := by
  go_enter Tryd.func39, Tryd.ntmps39
  go_wp2_with fail
  go_loopw [3, 4] (fun v x wr => ∃ k : Nat, k + 1 ≤ s.size ∧ x = .int .i64 ((k : Int) + 1) ∧ Hid (IRow wr w.heap.size v (selR (ovlB s) 1 k)) ∧ Below w.heap.size w wr) (fun _ x _ => s.size - (intOf x).toNat)
  case atStart => exact ⟨0, by omega, rfl, IRow.nil _ _, Below.refl _ _⟩
  case round =>
    obtain ⟨k, hk, rfl, hI, hb⟩ := hrel
    obtain ⟨wa, rfl⟩ : ∃ wa : World, wa = wr := ⟨_, rfl⟩
    have hsa := hb.size
    by_cases hlt : k + 1 < s.size
    · have hl := selR_len (ovlB s) 1 k
      have hsuf : Lib.hasSuffix s.data.toList (s.extract 0 (k + 1)).data.toList = ovlB s (1 + k) := by rw [Nat.add_comm 1 k]; exact suf_ovl s (k + 1) (by omega)
      cases hq : ovlB s (1 + k) with
      | true =>
        have hS : Hid (selR (ovlB s) 1 (k + 1) = selR (ovlB s) 1 k ++ [(k : Int) + 1]) := by
          refine Lib.hid ?_
          rw [selR_yes hq]
          simp
          omega
        rw [hq] at hsuf
        have Hs := Lib.hid hsuf
        clear hsuf hq
        go_wp2_with fail
        refine (suffix_any s _ _ (by omega)).mono ?_
        rintro e w2 ⟨rfl, rfl⟩
        rw [Hs.out]
        go_wp2_with (at_builtin; refine wpList_push1 rfl (.tmp 16) (.tmp 18) rfl _ _ _ hI.out (by omega) hsa ((k : Int) + 1) rfl rfl ?_)
        intro v' w3 hI3 hb3
        go_wp2_with fail
        exact ⟨⟨k + 1, by omega, by go_num, by rw [hS.out]; exact hI3, hb.trans hb3⟩, by simp [intOf]; omega⟩
      | false =>
        have hS := Lib.hid (selR_no hq)
        rw [hq] at hsuf
        have Hs := Lib.hid hsuf
        clear hsuf hq
        go_wp2_with fail
        refine (suffix_any s _ _ (by omega)).mono ?_
        rintro e w2 ⟨rfl, rfl⟩
        rw [Hs.out]
        go_wp2_with fail
        exact ⟨⟨k + 1, by omega, by go_num, by rw [hS.out]; exact hI, hb⟩, by simp [intOf]; omega⟩
    · obtain rfl : s.size - 1 = k := by omega
      go_wp2_with fail
      go_ret
      exact ⟨_, rfl, hI.out, hb⟩

theorem ba_beq (a b : ByteArray) : (a.toList == b.toList) = decide (a = b) := by
  rw [Bool.eq_iff_iff, beq_iff_eq, decide_eq_true_iff, ba_eq, ByteArray.toList_eq, ByteArray.toList_eq]

set_option maxRecDepth 100000 in
set_option maxHeartbeats 1600000 in
theorem specOvl_any (s : ByteArray) (w : World) (h1 : 1 ≤ s.size) (h8 : s.size ≤ 8) :
    Calls Tryd.prog 35 #[.string s] w (RowOne (selR (ovlB s) 1 (s.size - 1)) w) := by
  go_enter Tryd.func35, Tryd.ntmps35
  go_wp2_with fail
  go_loopw [3, 4] (fun v x wr => ∃ k : Nat, k + 1 ≤ s.size ∧ x = .int .i64 ((k : Int) + 1) ∧ Hid (IRow wr w.heap.size v (selR (ovlB s) 1 k)) ∧ Below w.heap.size w wr) (fun _ x _ => s.size - (intOf x).toNat)
  case atStart => exact ⟨0, by omega, rfl, IRow.nil _ _, Below.refl _ _⟩
  case round =>
    obtain ⟨k, hk, rfl, hI, hb⟩ := hrel
    obtain ⟨wa, rfl⟩ : ∃ wa : World, wa = wr := ⟨_, rfl⟩
    have hsa := hb.size
    by_cases hlt : k + 1 < s.size
    · have hl := selR_len (ovlB s) 1 k
      have hw1 : IntKind.i64.wrap ((s.size : Int) - ((k + 1 : Nat) : Int)) = ((s.size - (k + 1) : Nat) : Int) := by rw [IntWalk.i64_in _ (by omega)]; omega
      have hbe : ((s.extract 0 (k + 1)).toList == (s.extract (s.size - (k + 1)) s.size).toList) = ovlB s (1 + k) := by rw [Nat.add_comm 1 k]; exact ba_beq _ _
      cases hq : ovlB s (1 + k) with
      | true =>
        have hS : Hid (selR (ovlB s) 1 (k + 1) = selR (ovlB s) 1 k ++ [(k : Int) + 1]) := by
          refine Lib.hid ?_
          rw [selR_yes hq]
          simp
          omega
        rw [hq] at hbe
        clear hq
        go_wp2_with fail
        go_quiet (fail)
        go_wp2_with (at_builtin; refine wpList_push1 rfl (.tmp 21) (.tmp 23) rfl _ _ _ (hI.out.drewN _) (by omega) hsa ((k : Int) + 1) rfl rfl ?_)
        intro v' w3 hI3 hb3
        go_wp2_with fail
        exact ⟨⟨k + 1, by omega, by go_num, by rw [hS.out]; exact hI3, (bel_drewN hb _).trans hb3⟩, by simp [intOf]; omega⟩
      | false =>
        have hS := Lib.hid (selR_no hq)
        rw [hq] at hbe
        clear hq
        go_wp2_with fail
        go_quiet (fail)
        go_wp2_with fail
        exact ⟨⟨k + 1, by omega, by go_num, by rw [hS.out]; exact hI.out.drewN _, bel_drewN hb _⟩, by simp [intOf]; omega⟩
    · obtain rfl : s.size - 1 = k := by omega
      go_wp2_with fail
      go_ret
      exact ⟨_, rfl, hI.out, hb⟩
end Go.Proofs.YtdfjfojkheikiaaDoor
