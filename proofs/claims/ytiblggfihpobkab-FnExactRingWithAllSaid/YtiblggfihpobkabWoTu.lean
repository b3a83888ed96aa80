/- Turns of words: contracts. -/
import Derived.Test.YtiblggfihpobkabWoP
import Derived.Test.YtiblggfihpobkabSPush
import Derived.Sort.Walk0
namespace Go.Proofs.Ytiblggfihpobkab
set_option linter.unusedSimpArgs false
open Go.ChangeShapes Go.WideShapes Go.ChangeAt Go.RowKit
set_option linter.unusedVariables false

theorem bl_lt (a b : ByteArray) : Op.bytesLess a.toList b.toList = ltS a b := by
  unfold ltS
  rw [Go.Proofs.bytesLess_eq, ByteArray.toList_eq, ByteArray.toList_eq]
theorem ba_bq (a b : ByteArray) : (a.toList == b.toList) = decide (a = b) := by
  rw [Bool.eq_iff_iff, beq_iff_eq, decide_eq_true_iff, ba_eq, ByteArray.toList_eq, ByteArray.toList_eq]
theorem ba_nq (a b : ByteArray) : (a.toList != b.toList) = !decide (a = b) := by
  rw [bne, ba_bq]
set_option maxHeartbeats 800000 in
theorem turned_any (s : ByteArray) (k : Nat) (w : World) (hk : k ≤ s.size) (h8 : s.size ≤ 8) :
    Calls Try.prog 91 #[.string s, .int .i64 k] w fun e w' => e = .returned (.string (trn s k)) ∧ ∃ n, w' = w.drewN n := by
  have z1 := ext_size s k s.size (Nat.le_refl _)
  have z2 := ext_size s 0 k hk
  have t1 : ¬ 9223372036854775807 < (s.extract k s.size).size + (s.extract 0 k).size := by omega
  have hfin : Hid (s.extract k s.size ++ s.extract 0 k = trn s k) := rfl
  clear z1 z2
  go_enter Try.func91, Try.ntmps91
  go_wp2_with fail
  go_quiet (fail)
  go_wp2
  go_ret
  exact ⟨by rw [← hfin.out]; rfl, _, rfl⟩
/-- The first k turns. -/
def trnL (s : ByteArray) (k : Nat) : List ByteArray := (List.range k).map (trn s)
theorem trnL_len (s : ByteArray) (k : Nat) : (trnL s k).length = k := by simp [trnL]
theorem trnL_succ (s : ByteArray) (k : Nat) : trnL s (k + 1) = trnL s k ++ [trn s k] := by simp [trnL, List.range_succ]
theorem trnL_get (s : ByteArray) (n k : Nat) (h : k < n) : (trnL s n).getD k ByteArray.empty = trn s k := by
  rw [List.getD_eq_getElem?_getD, List.getElem?_eq_getElem (by rw [trnL_len]; exact h)]
  simp [trnL]
set_option maxRecDepth 100000 in
set_option maxHeartbeats 1600000 in
theorem turnsOf_any (s : ByteArray) (w : World) (h8 : s.size ≤ 8) :
    Calls Try.prog 87 #[.string s] w (RowS (trnL s s.size) w) := by
  go_enter Try.func87, Try.ntmps87
  go_wp2_with fail
  go_loopw [3, 7] (fun v x wr => ∃ k : Nat, k ≤ s.size ∧ x = .int .i64 k ∧ Hid (SRow wr w.heap.size v (trnL s k)) ∧ Below w.heap.size w wr) (fun _ x _ => s.size - (intOf x).toNat)
  case atStart => exact ⟨0, by omega, rfl, SRow.nil _ _, Below.refl _ _⟩
  case round =>
    obtain ⟨k, hk, rfl, hI, hb⟩ := hrel
    obtain ⟨wa, rfl⟩ : ∃ wa : World, wa = wr := ⟨_, rfl⟩
    have hsa := hb.size
    have hl := trnL_len s k
    by_cases hlt : k < s.size
    · have hS := Lib.hid (trnL_succ s k)
      have Hl := Lib.hid hl
      clear hl
      go_wp2_with fail
      refine (turned_any s k _ (by omega) h8).mono ?_
      rintro e w2 ⟨rfl, n2, rfl⟩
      go_wp2_with (at_builtin; refine wpList_pushS1 (trn s k) rfl (.tmp 10) (.tmp 14) rfl _ _ _ (hI.out.drewN n2) (by have := Hl.out; omega) hsa rfl rfl ?_)
      intro v' w3 hI3 hb3
      go_wp2_with fail
      exact ⟨⟨k + 1, by omega, by go_num, by rw [hS.out]; exact hI3, (bel_drewN hb n2).trans hb3⟩, by simp [intOf]; omega⟩
    · obtain rfl : k = s.size := by omega
      clear hl
      go_wp2_with fail
      go_ret
      exact ⟨_, rfl, hI.out, hb⟩
/-- The first one of the first k + 1 of some texts. -/
def mnK (xs : List ByteArray) : Nat → ByteArray
  | 0 => xs.getD 0 ByteArray.empty
  | k + 1 => if ltS (xs.getD (k + 1) ByteArray.empty) (mnK xs k) then xs.getD (k + 1) ByteArray.empty else mnK xs k
theorem mnK_trn (s : ByteArray) (n : Nat) : ∀ k, k < n → mnK (trnL s n) k = fstK s k
  | 0, h => by
    show (trnL s n).getD 0 ByteArray.empty = s
    rw [trnL_get s n 0 h, trn_zero]
  | k + 1, h => by
    unfold mnK fstK
    rw [trnL_get s n (k + 1) h, mnK_trn s n k (by omega)]
theorem fst_yes {s : ByteArray} {k : Nat} (h : ltS (trn s (k + 1)) (fstK s k) = true) : fstK s (k + 1) = trn s (k + 1) := if_pos h
theorem fst_no {s : ByteArray} {k : Nat} (h : ltS (trn s (k + 1)) (fstK s k) = false) : fstK s (k + 1) = fstK s k := by rw [fstK, h]; rfl
set_option maxRecDepth 100000 in
set_option maxHeartbeats 1600000 in
theorem woFirst_any (s : ByteArray) (w : World) (h1 : 1 ≤ s.size) (h8 : s.size ≤ 8) :
    Calls Try.prog 81 #[.string s] w fun e w' => e = .returned (.string (fstW s)) ∧ ∃ n, w' = w.drewN n := by
  have hfin : Hid (fstK s (s.size - 1) = fstW s) := rfl
  go_enter Try.func81, Try.ntmps81
  go_wp2_with fail
  go_loopw [3, 4, 5] (fun x i z wr => ∃ k : Nat, k + 1 ≤ s.size ∧ i = .int .i64 ((k : Int) + 1) ∧ x = .string (fstK s k) ∧ ∃ n, wr = w.drewN n) (fun _ i _ _ => s.size - (intOf i).toNat)
  case atStart => exact ⟨0, by omega, rfl, rfl, 0, rfl⟩
  case round =>
    obtain ⟨k, hk, rfl, rfl, n, rfl⟩ := hrel
    by_cases hlt : k + 1 < s.size
    · have z1 := ext_size s (k + 1) s.size (Nat.le_refl _)
      have z2 := ext_size s 0 (k + 1) (by omega)
      have t1 : ¬ 9223372036854775807 < (s.extract (k + 1) s.size).size + (s.extract 0 (k + 1)).size := by omega
      have hbl : Op.bytesLess (s.extract (k + 1) s.size ++ s.extract 0 (k + 1)).toList (fstK s k).toList = ltS (trn s (k + 1)) (fstK s k) := bl_lt _ _
      clear z1 z2
      cases hq : ltS (trn s (k + 1)) (fstK s k) with
      | true =>
        have hS : Hid (fstK s (k + 1) = s.extract (k + 1) s.size ++ s.extract 0 (k + 1)) := Lib.hid (fst_yes hq)
        rw [hq] at hbl
        clear hq
        go_wp2_with fail
        go_quiet (fail)
        go_wp2_with fail
        exact ⟨⟨k + 1, by omega, by go_num, by rw [hS.out], _, rfl⟩, by simp [intOf]; omega⟩
      | false =>
        have hS := Lib.hid (fst_no hq)
        rw [hq] at hbl
        clear hq
        go_wp2_with fail
        go_quiet (fail)
        go_wp2_with fail
        exact ⟨⟨k + 1, by omega, by go_num, by rw [hS.out], _, rfl⟩, by simp [intOf]; omega⟩
    · obtain rfl : k = s.size - 1 := by omega
      go_wp2_with fail
      go_ret
      exact ⟨by rw [← hfin.out]; rfl, n, rfl⟩
end Go.Proofs.Ytiblggfihpobkab
