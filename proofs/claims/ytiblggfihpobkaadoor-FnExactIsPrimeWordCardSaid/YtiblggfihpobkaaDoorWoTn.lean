/- Turns of words: contracts. -/
import Derived.Test.YtiblggfihpobkaaDoorWo
import Derived.Test.YtiblggfihpobkaaDoorSPush
import Derived.Test.YtiblggfihpobkaaDoorShelfC
import Derived.Shelf.Strconv.Clone
import Derived.Sort.Walk0
namespace Go.Proofs.YtiblggfihpobkaaDoor
set_option linter.unusedSimpArgs false
open Go.ChangeShapes Go.WideShapes Go.ChangeAt Go.RowKit
set_option linter.unusedVariables false

theorem bl_lt (a b : ByteArray) : Op.bytesLess a.toList b.toList = ltS a b := by
  unfold ltS
  rw [Go.Proofs.bytesLess_eq, ByteArray.toList_eq, ByteArray.toList_eq]
theorem ba_bq (a b : ByteArray) : (a.toList == b.toList) = decide (a = b) := by
  rw [Bool.eq_iff_iff, beq_iff_eq, decide_eq_true_iff, ba_eq, ByteArray.toList_eq, ByteArray.toList_eq]
theorem ba_nq (a b : ByteArray) : (a.toList != b.toList) = !decide (a = b) := by
  rw [bne, ba_bq]
set_option maxHeartbeats 800000 in
theorem turned_any (s : ByteArray) (k : Nat) (w : World) (hk : k ≤ s.size) (h8 : s.size ≤ 8) :
    Calls Tryd.prog 56 #[.string s, .int .i64 k] w fun e w' => e = .returned (.string (trn s k)) ∧ ∃ n, w' = w.drewN n := by
  have z1 := ext_size s k s.size (Nat.le_refl _)
  have z2 := ext_size s 0 k hk
  have t1 : ¬ 9223372036854775807 < (s.extract k s.size).size + (s.extract 0 k).size := by omega
  have hfin : Hid (s.extract k s.size ++ s.extract 0 k = trn s k) := rfl
  clear z1 z2
  go_enter Tryd.func56, Tryd.ntmps56
  go_wp2_with fail
  go_quiet (fail)
  go_wp2
  go_ret
  exact ⟨by rw [← hfin.out]; rfl, _, rfl⟩
theorem clone_any_str (s : ByteArray) (w : World) (h8 : s.size ≤ 100) :
    Calls Tryd.prog 55 #[.string s] w fun e w' => e = .returned (.string s) ∧ Below w.heap.size w w' := by
  go_enter Tryd.func55, Tryd.ntmps55
  go_wp2_with fail
  refine (Any.stringslite_Clone Tryd.laysM316 s _ (by omega)).mono ?_
  rintro e w' ⟨rfl, hb⟩
  go_wp2_with fail
  go_ret
  exact ⟨rfl, hb⟩
/-- The first k turns. -/
def trnL (s : ByteArray) (k : Nat) : List ByteArray := (List.range k).map (trn s)
theorem trnL_len (s : ByteArray) (k : Nat) : (trnL s k).length = k := by simp [trnL]
theorem trnL_succ (s : ByteArray) (k : Nat) : trnL s (k + 1) = trnL s k ++ [trn s k] := by simp [trnL, List.range_succ]
theorem trnL_get (s : ByteArray) (n k : Nat) (h : k < n) : (trnL s n).getD k ByteArray.empty = trn s k := by
  rw [List.getD_eq_getElem?_getD, List.getElem?_eq_getElem (by rw [trnL_len]; exact h)]
  simp [trnL]
set_option maxRecDepth 100000 in
set_option maxHeartbeats 1600000 in
theorem turnsOf_any (s : ByteArray) (w : World) (h8 : s.size ≤ 8) :
    Calls Tryd.prog 69 #[.string s] w (RowS (trnL s s.size) w) := by
  go_enter Tryd.func69, Tryd.ntmps69
  go_wp2_with fail
  go_loopw [3, 7] (fun v x wr => ∃ k : Nat, k ≤ s.size ∧ x = .int .i64 k ∧ Hid (SRow wr w.heap.size v (trnL s k)) ∧ Below w.heap.size w wr) (fun _ x _ => s.size - (intOf x).toNat)
  case atStart => exact ⟨0, by omega, rfl, SRow.nil _ _, Below.refl _ _⟩
  case round =>
    obtain ⟨k, hk, rfl, hI, hb⟩ := hrel
    obtain ⟨wa, rfl⟩ : ∃ wa : World, wa = wr := ⟨_, rfl⟩
    have hsa := hb.size
    have hl := trnL_len s k
    by_cases hlt : k < s.size
    · have hS := Lib.hid (trnL_succ s k)
      have Hl := Lib.hid hl
      clear hl
      go_wp2_with fail
      refine (turned_any s k _ (by omega) h8).mono ?_
      rintro e w2 ⟨rfl, n2, rfl⟩
      go_wp2_with (at_builtin; refine wpList_pushS1 (trn s k) rfl (.tmp 10) (.tmp 14) rfl _ _ _ (hI.out.drewN n2) (by have := Hl.out; omega) hsa rfl rfl ?_)
      intro v' w3 hI3 hb3
      go_wp2_with fail
      exact ⟨⟨k + 1, by omega, by go_num, by rw [hS.out]; exact hI3, (bel_drewN hb n2).trans hb3⟩, by simp [intOf]; omega⟩
    · obtain rfl : k = s.size := by omega
      clear hl
      go_wp2_with fail
      go_ret
      exact ⟨_, rfl, hI.out, hb⟩
theorem nan_any (s : ByteArray) (w : World) :
    Calls Tryd.prog 81 #[.string s] w fun e w' => e = .returned (.bool false) ∧ w = w' := by
  go_enter Tryd.func81, Tryd.ntmps81
  go_wp2
  go_ret
  exact ⟨rfl, rfl⟩
theorem less_any (a b : ByteArray) (w : World) :
    Calls Tryd.prog 70 #[.string a, .string b] w fun e w' => e = .returned (.bool (ltS a b)) ∧ w = w' := by
  have hl := bl_lt a b
  go_enter Tryd.func70, Tryd.ntmps70
  go_wp2_with fail
  refine (nan_any a _).mono ?_
  rintro e w2 ⟨rfl, rfl⟩
  go_wp2_with fail
  go_ret
  exact ⟨rfl, rfl⟩
/-- The first one of the first k + 1 of some texts. -/
def mnK (xs : List ByteArray) : Nat → ByteArray
  | 0 => xs.getD 0 ByteArray.empty
  | k + 1 => if ltS (xs.getD (k + 1) ByteArray.empty) (mnK xs k) then xs.getD (k + 1) ByteArray.empty else mnK xs k
theorem mnK_trn (s : ByteArray) (n : Nat) : ∀ k, k < n → mnK (trnL s n) k = fstK s k
  | 0, h => by
    show (trnL s n).getD 0 ByteArray.empty = s
    rw [trnL_get s n 0 h, trn_zero]
  | k + 1, h => by
    unfold mnK fstK
    rw [trnL_get s n (k + 1) h, mnK_trn s n k (by omega)]
set_option maxRecDepth 100000 in
set_option maxHeartbeats 1600000 in
theorem firstOf_any (xs : List ByteArray) (g cap base : Nat) (w : World) (hR : SRow w base (.slice (some ⟨g, 0, none⟩) xs.length cap) xs) (hpos : 0 < xs.length) (hsm : xs.length ≤ 1000) (hc : xs.length ≤ cap) (hcm : cap ≤ maxLen) :
    Calls Tryd.prog 68 #[.slice (some ⟨g, 0, none⟩) xs.length cap, .func (.func 70) #[] #[]] w fun e w' => e = .returned (.string (mnK xs (xs.length - 1))) ∧ w = w' := by
  have eg : ∀ args w, (callFunc 70 args).run Tryd.prog w = .ok (.enter 70 args) w := Go.Proofs.enters_of Tryd.func70 (by kernel_rfl) rfl
  unfold maxLen at hcm
  have HR := Lib.hid hR
  have c0 := hR.at_ 0 hpos
  have m0 : Hid (mnK xs 0 = xs.getD 0 ByteArray.empty) := rfl
  clear hR
  generalize hx0 : xs.getD 0 ByteArray.empty = x0 at *
  generalize hN : xs.length = N at *
  have HN := Lib.hid hN
  clear hN
  by_cases hc1 : cap = 1
  · subst hc1
    obtain rfl : N = 1 := by omega
    go_enter Tryd.func68, Tryd.ntmps68
    go_wp2_with fail
    go_loop [5, 14] (fun x i => i = .int .i64 0 ∧ x = .string x0) (fun _ _ => 0)
    case atStart => exact ⟨rfl, rfl⟩
    case round =>
      obtain ⟨rfl, rfl⟩ := hrel
      go_wp2_with fail
      go_ret
      exact ⟨by rw [← m0.out]; rfl, rfl⟩
  go_enter Tryd.func68, Tryd.ntmps68
  go_wp2_with fail
  go_loop [5, 14] (fun x i => ∃ k : Nat, k + 1 ≤ N ∧ i = .int .i64 k ∧ x = .string (mnK xs k)) (fun _ i => N - (intOf i).toNat)
  case atStart => exact ⟨0, by omega, rfl, by rw [m0.out]⟩
  case round =>
    obtain ⟨k, hk, rfl, rfl⟩ := hrel
    by_cases hlt : k + 1 < N
    · have hR2 := HR.out
      rw [← HN.out] at hR2
      have c1 : w.cell? ⟨g, 1 + k, none⟩ = some (.string (xs.getD (k + 1) ByteArray.empty)) := by rw [Nat.add_comm 1 k]; exact hR2.at_ (k + 1) (by rw [HN.out]; exact hlt)
      clear hR2
      have hst : Hid (mnK xs (k + 1) = if ltS (xs.getD (k + 1) ByteArray.empty) (mnK xs k) then xs.getD (k + 1) ByteArray.empty else mnK xs k) := rfl
      generalize xs.getD (k + 1) ByteArray.empty = y at *
      cases hq : ltS y (mnK xs k) with
      | true =>
        rw [hq] at hst
        have Hq := Lib.hid hq
        clear hq
        go_wp2_with fail
        refine (less_any y (mnK xs k) _).mono ?_
        rintro e w2 ⟨rfl, rfl⟩
        rw [Hq.out]
        go_wp2_with fail
        exact ⟨⟨k + 1, by omega, by go_num, by rw [hst.out]; rfl⟩, by simp [intOf]; omega⟩
      | false =>
        rw [hq] at hst
        have Hq := Lib.hid hq
        clear hq
        go_wp2_with fail
        refine (less_any y (mnK xs k) _).mono ?_
        rintro e w2 ⟨rfl, rfl⟩
        rw [Hq.out]
        go_wp2_with fail
        exact ⟨⟨k + 1, by omega, by go_num, by rw [hst.out]; rfl⟩, by simp [intOf]; omega⟩
    · obtain rfl : k = N - 1 := by omega
      go_wp2_with fail
      go_ret
      exact ⟨rfl, rfl⟩
set_option maxHeartbeats 800000 in
theorem firstTurn_any (s : ByteArray) (w : World) (h1 : 1 ≤ s.size) (h8 : s.size ≤ 8) :
    Calls Tryd.prog 58 #[.string s] w fun e w' => e = .returned (.string (fstW s)) ∧ Below w.heap.size w w' := by
  have hl := trnL_len s s.size
  have hfin : Hid (mnK (trnL s s.size) ((trnL s s.size).length - 1) = fstW s) := Lib.hid (by rw [hl]; exact mnK_trn s s.size _ (by omega))
  go_enter Tryd.func58, Tryd.ntmps58
  go_wp2_with fail
  refine (turnsOf_any s _ h8).mono ?_
  rintro e w1 ⟨v, rfl, r1, b1⟩
  rcases r1.form with ⟨hx, _⟩ | ⟨hx, g, cap, rfl, hbg, hgl, hlc, hcm⟩
  · rw [hx] at hl; simp at hl; omega
  · have R1 := Lib.hid r1
    clear r1
    have Hl := Lib.hid hl
    clear hl
    go_wp2_with fail
    refine (firstOf_any _ g cap _ _ R1.out hx (by have := Hl.out; omega) hlc hcm).mono ?_
    rintro e w2 ⟨rfl, rfl⟩
    go_wp2_with fail
    go_ret
    exact ⟨by rw [← hfin.out]; rfl, b1⟩
theorem fst_yes {s : ByteArray} {k : Nat} (h : ltS (trn s (k + 1)) (fstK s k) = true) : fstK s (k + 1) = trn s (k + 1) := if_pos h
theorem fst_no {s : ByteArray} {k : Nat} (h : ltS (trn s (k + 1)) (fstK s k) = false) : fstK s (k + 1) = fstK s k := by rw [fstK, h]; rfl
set_option maxRecDepth 100000 in
set_option maxHeartbeats 1600000 in
theorem woFirst_any (s : ByteArray) (w : World) (h1 : 1 ≤ s.size) (h8 : s.size ≤ 8) :
    Calls Tryd.prog 57 #[.string s] w fun e w' => e = .returned (.string (fstW s)) ∧ ∃ n, w' = w.drewN n := by
  have hfin : Hid (fstK s (s.size - 1) = fstW s) := rfl
  go_enter Tryd.func57, Tryd.ntmps57
  go_wp2_with fail
  go_loopw [3, 4, 5] (fun x i z wr => ∃ k : Nat, k + 1 ≤ s.size ∧ i = .int .i64 ((k : Int) + 1) ∧ x = .string (fstK s k) ∧ ∃ n, wr = w.drewN n) (fun _ i _ _ => s.size - (intOf i).toNat)
  case atStart => exact ⟨0, by omega, rfl, rfl, 0, rfl⟩
  case round =>
    obtain ⟨k, hk, rfl, rfl, n, rfl⟩ := hrel
    by_cases hlt : k + 1 < s.size
    · have z1 := ext_size s (k + 1) s.size (Nat.le_refl _)
      have z2 := ext_size s 0 (k + 1) (by omega)
      have t1 : ¬ 9223372036854775807 < (s.extract (k + 1) s.size).size + (s.extract 0 (k + 1)).size := by omega
      have hbl : Op.bytesLess (s.extract (k + 1) s.size ++ s.extract 0 (k + 1)).toList (fstK s k).toList = ltS (trn s (k + 1)) (fstK s k) := bl_lt _ _
      clear z1 z2
      cases hq : ltS (trn s (k + 1)) (fstK s k) with
      | true =>
        have hS : Hid (fstK s (k + 1) = s.extract (k + 1) s.size ++ s.extract 0 (k + 1)) := Lib.hid (fst_yes hq)
        rw [hq] at hbl
        clear hq
        go_wp2_with fail
        go_quiet (fail)
        go_wp2_with fail
        exact ⟨⟨k + 1, by omega, by go_num, by rw [hS.out], _, rfl⟩, by simp [intOf]; omega⟩
      | false =>
        have hS := Lib.hid (fst_no hq)
        rw [hq] at hbl
        clear hq
        go_wp2_with fail
        go_quiet (fail)
        go_wp2_with fail
        exact ⟨⟨k + 1, by omega, by go_num, by rw [hS.out], _, rfl⟩, by simp [intOf]; omega⟩
    · obtain rfl : k = s.size - 1 := by omega
      go_wp2_with fail
      go_ret
      exact ⟨by rw [← hfin.out]; rfl, n, rfl⟩
end Go.Proofs.YtiblggfihpobkaaDoor
