/- CountTextsWithout and CountFirstTyped: the contracts of the program, and the walks. -/
import Derived.Test.YtjfcpbedmdnjcabDoorCtU
namespace Go.Proofs.YtjfcpbedmdnjcabDoor
set_option linter.unusedSimpArgs false
open Go.ChangeShapes Go.WideShapes Go.ChangeAt Go.RowKit
set_option linter.unusedVariables false

set_option maxRecDepth 100000 in
set_option maxHeartbeats 1600000 in
theorem implWo_any (a b : Int) (s : ByteArray) (w : World) (hs : s.size ≤ maxLen) :
    Calls Tryd.prog 17 #[.int .i64 a, .string s, .int .i64 b] w fun e w' => e = .returned (ansWo a s b) ∧ Below w.heap.size w w' := by
  cases h1 : askC a s b
  · rw [show ansWo a s b = ansNo from by unfold ansWo; rw [h1]; rfl]
    unfold ansNo
    go_enter Tryd.func17, Tryd.ntmps17
    go_wp2_with fail
    refine (isCounted_any a b s _ hs).mono ?_
    rintro e w' ⟨rfl, hb⟩
    rw [h1]
    go_wp2_with fail
    go_ret2
    exact ⟨rfl, hb⟩
  · obtain ⟨n, L, rfl, rfl, n2, hL, p1, p8⟩ := ask_in h1
    rw [show ansWo n s L = ctT (ctW (ctV s n L) s.size) from by unfold ansWo; rw [h1]; rfl]
    have H1 := Lib.hid h1
    have HV := Lib.hid (ctV_in s n L)
    have HC := Lib.hid (fun W : World => textsTyped_any n s L W n2 p1 p8 hL)
    clear h1
    generalize ctV s n L = V at *
    have hse : (s.size : Int) ≤ 9 := by omega
    have hs9 : (s.size : Int) < 9 := by omega
    have hs0 : (0 : Int) ≤ (s.size : Int) := by omega
    go_enter Tryd.func17, Tryd.ntmps17
    go_wp2_with fail
    refine (isCounted_any n L s _ hs).mono ?_
    rintro e w1 ⟨rfl, hb1⟩
    rw [H1.out]
    go_wp2_with fail
    refine (HC.out _).mono ?_
    rintro e w2 ⟨rfl, hb2⟩
    have hbl := Lib.hid (bel_alloc (bel_trans hb1 hb2) (.cells (iN 9 V) 67))
    have HX := Lib.hid (fun (k : Nat) (hk : k < 9) => cell_heap (heap_alloc_new w2 (.cells (iN 9 V) 67)) (iN_get 9 V k hk))
    clear hb1 hb2
    have t0 : Hid ((0 : Int) = ctW V 0) := rfl
    go_wp2_with (first
      | (refine wpList_alloc_row rfl 67 rfl (iN 9 noI) (end_zero _) ?_)
      | (refine wpList_store_new (k := w2.heap.size) (c' := iN 9 V) rfl 67 (.tmp 8) (.tmp 20) rfl rfl ?_ ?_ (by rw [iN_size]; exact end_info) (by rw [iN_size, iN_size]) (iN_one _ _) ?_; (· simp [Act.put, Act.eval]); (· simp [Act.put, Act.eval])))
    go_loop [9, 25] (fun x i => ∃ k : Nat, k ≤ s.size ∧ i = .int .i64 k ∧ x = .int .i64 (ctW V k)) (fun _ i => s.size - (intOf i).toNat)
    case atStart => exact ⟨0, by omega, rfl, by rw [← t0.out]⟩
    case round =>
      obtain ⟨k, hk, rfl, rfl⟩ := hrel
      by_cases hlt : k < s.size
      · have x0 := HX.out k (by omega)
        obtain ⟨d0, d1⟩ := HV.out k
        obtain ⟨d2, d3⟩ := ctW_in V HV.out k
        have d4 : (k : Int) * ctX ≤ 8 * ctX := Int.mul_le_mul_of_nonneg_right (by omega) (by unfold ctX; omega)
        unfold ctX at d1 d3 d4
        have hw : IntKind.i64.wrap (ctW V k + V k) = ctW V k + V k := IntWalk.i64_in _ (by omega)
        have hsum : Hid (ctW V (k + 1) = ctW V k + V k) := rfl
        clear d0 d1 d2 d3 d4
        generalize ctW V k = X at *
        generalize V k = y at *
        go_wp2_with fail
        exact ⟨⟨k + 1, by omega, by go_num, by rw [hsum.out]⟩, by simp [intOf]; omega⟩
      · obtain rfl : k = s.size := by omega
        obtain ⟨y, o, hf⟩ := ctT_form (ctW V s.size)
        have Hf := Lib.hid hf
        clear hf
        go_wp2_with fail
        refine (toldTexts_any _ _).mono ?_
        rw [Hf.out]
        rintro e w3 ⟨rfl, rfl⟩
        go_wp2_with fail
        go_ret2
        exact ⟨congrArg Ending.returned Hf.out.symm, hbl.out⟩
set_option maxRecDepth 100000 in
set_option maxHeartbeats 1600000 in
theorem implFi_any (a b : Int) (s : ByteArray) (w : World) (hs : s.size ≤ maxLen) :
    Calls Tryd.prog 19 #[.int .i64 a, .string s, .int .i64 b] w fun e w' => e = .returned (ansFi a s b) ∧ Below w.heap.size w w' := by
  cases h1 : askC a s b
  · rw [show ansFi a s b = ansNo from by unfold ansFi; rw [h1]; rfl]
    unfold ansNo
    go_enter Tryd.func19, Tryd.ntmps19
    go_wp2_with fail
    refine (isCounted_any a b s _ hs).mono ?_
    rintro e w' ⟨rfl, hb⟩
    rw [h1]
    go_wp2_with fail
    go_ret2
    exact ⟨rfl, hb⟩
  · obtain ⟨n, L, rfl, rfl, n2, hL, p1, p8⟩ := ask_in h1
    rw [show ansFi n s L = ctT (ctV s n L s.size) from by unfold ansFi; rw [h1]; rfl]
    have H1 := Lib.hid h1
    have HV := Lib.hid (ctV_in s n L)
    have HC := Lib.hid (fun W : World => textsTyped_any n s L W n2 p1 p8 hL)
    clear h1
    generalize ctV s n L = V at *
    have hse : (s.size : Int) ≤ 9 := by omega
    have hs9 : (s.size : Int) < 9 := by omega
    have hs0 : (0 : Int) ≤ (s.size : Int) := by omega
    go_enter Tryd.func19, Tryd.ntmps19
    go_wp2_with fail
    refine (isCounted_any n L s _ hs).mono ?_
    rintro e w1 ⟨rfl, hb1⟩
    rw [H1.out]
    go_wp2_with fail
    refine (HC.out _).mono ?_
    rintro e w2 ⟨rfl, hb2⟩
    have hbl := Lib.hid (bel_alloc (bel_trans hb1 hb2) (.cells (iN 9 V) 67))
    have HX := Lib.hid (fun (k : Nat) (hk : k < 9) => cell_heap (heap_alloc_new w2 (.cells (iN 9 V) 67)) (iN_get 9 V k hk))
    clear hb1 hb2
    have x0 := HX.out s.size (by omega)
    go_wp2_with (first
      | (refine wpList_alloc_row rfl 67 rfl (iN 9 noI) (end_zero _) ?_)
      | (refine wpList_store_new (k := w2.heap.size) (c' := iN 9 V) rfl 67 (.tmp 8) (.tmp 17) rfl rfl ?_ ?_ (by rw [iN_size]; exact end_info) (by rw [iN_size, iN_size]) (iN_one _ _) ?_; (· simp [Act.put, Act.eval]); (· simp [Act.put, Act.eval])))
    obtain ⟨y, o, hf⟩ := ctT_form (V s.size)
    have Hf := Lib.hid hf
    clear hf
    refine (toldTexts_any _ _).mono ?_
    rw [Hf.out]
    rintro e w3 ⟨rfl, rfl⟩
    go_wp2_with fail
    go_ret2
    exact ⟨congrArg Ending.returned Hf.out.symm, hbl.out⟩
theorem walkExactCountTextsWithout (a : Int) (s : ByteArray) (b : Int) (w : World) (ha : (Lit.int .i64 a).wf = true) (hs : s.size ≤ maxLen) (hb : (Lit.int .i64 b).wf = true) :
    Calls Tryd.prog 6 #[.int .i64 a, .string s, .int .i64 b] w fun e w' => e = .returned (.bool true) ∧ Below w.heap.size w w' := by
  clear ha hb
  by_cases z0 : s.size ≤ 1048576
  rotate_left
  · go_enter Tryd.func6, Tryd.ntmps6
    go_wp2
    go_ret
    exact ⟨rfl, Below.refl _ _⟩
  obtain ⟨x, o, hf⟩ := ansWo_form a b s
  have Hf := Lib.hid hf
  clear hf
  go_enter Tryd.func6, Tryd.ntmps6
  go_wp2_with fail
  refine (specWo_any a b s _ hs).mono ?_
  rw [Hf.out]
  rintro e w1 ⟨rfl, b1⟩
  go_wp2_with fail
  refine (implWo_any a b s _ hs).mono ?_
  rw [Hf.out]
  rintro e w2 ⟨rfl, b2⟩
  go_wp2_with fail
  go_ret
  exact ⟨rfl, bel_trans b1 b2⟩
theorem walkExactCountFirstTyped (a : Int) (s : ByteArray) (b : Int) (w : World) (ha : (Lit.int .i64 a).wf = true) (hs : s.size ≤ maxLen) (hb : (Lit.int .i64 b).wf = true) :
    Calls Tryd.prog 7 #[.int .i64 a, .string s, .int .i64 b] w fun e w' => e = .returned (.bool true) ∧ Below w.heap.size w w' := by
  clear ha hb
  by_cases z0 : s.size ≤ 1048576
  rotate_left
  · go_enter Tryd.func7, Tryd.ntmps7
    go_wp2
    go_ret
    exact ⟨rfl, Below.refl _ _⟩
  obtain ⟨x, o, hf⟩ := ansFi_form a b s
  have Hf := Lib.hid hf
  clear hf
  go_enter Tryd.func7, Tryd.ntmps7
  go_wp2_with fail
  refine (specFi_any a b s _ hs).mono ?_
  rw [Hf.out]
  rintro e w1 ⟨rfl, b1⟩
  go_wp2_with fail
  refine (implFi_any a b s _ hs).mono ?_
  rw [Hf.out]
  rintro e w2 ⟨rfl, b2⟩
  go_wp2_with fail
  go_ret
  exact ⟨rfl, bel_trans b1 b2⟩
end Go.Proofs.YtjfcpbedmdnjcabDoor
