/- WinnerOfMany and WinnerOfRace: the walks. -/
import Derived.Test.YtjgcjeaddnodaaaDoorWin2
namespace Go.Proofs.YtjgcjeaddnodaaaDoor
open Go.ChangeShapes Go.WideShapes Go.ChangeAt Go.RowKit
set_option linter.unusedVariables false

set_option maxRecDepth 100000 in
set_option maxHeartbeats 1600000 in
theorem implWoR_any (a b : ByteArray) (t : ByteArray) (w : World) (ha : a.size ≤ maxLen) (hb : b.size ≤ maxLen) (ht : t.size ≤ maxLen) :
    Calls Tryd.prog 31 #[.string a, .string b, .string t] w fun e w' => e = .returned (ansTwo a b t) ∧ Below w.heap.size w w' := by
  have hR := Lib.hid (SRow.lit2 w a b)
  have hm := Lib.hid (two_mem ha hb)
  have HF := Lib.hid (implWoM_any [a, b] _ _ t _ hR.out hm.out ht)
  have hbl := bel_alloc (Below.refl _ w) (.cells #[.string a, .string b] 9)
  cases h1 : (twoG a b && tossG t)
  · rw [show ansTwo a b t = noneV from by unfold ansTwo; rw [h1]; rfl]
    rw [show ansWin [a, b] t = noneV from by unfold ansWin; rw [two_many, h1]; rfl] at HF
    unfold noneV at HF ⊢
    go_enter Tryd.func31, Tryd.ntmps31
    go_wp2_with fail
    refine HF.out.mono ?_
    rintro e w1 ⟨rfl, b1⟩
    go_wp2_with fail
    go_ret3
    exact ⟨rfl, bel_trans hbl b1⟩
  · rw [show ansTwo a b t = wonV 1 (win [a, b] t) from by unfold ansTwo; rw [h1]; rfl]
    rw [show ansWin [a, b] t = wonV 0 (win [a, b] t) from by unfold ansWin; rw [two_many, h1]; rfl] at HF
    rcases hw : win [a, b] t with _ | ⟨k, n⟩
    · rw [hw] at HF
      unfold wonV noneV at HF
      unfold wonV noneV
      go_enter Tryd.func31, Tryd.ntmps31
      go_wp2_with fail
      refine HF.out.mono ?_
      rintro e w1 ⟨rfl, b1⟩
      go_wp2_with fail
      go_ret3
      exact ⟨rfl, bel_trans hbl b1⟩
    · rw [hw] at HF
      rw [show wonV 0 (some (k, n)) = .tuple #[.int .i64 (k : Int), .int .i64 n, .bool true] from rfl] at HF
      rw [show wonV 1 (some (k, n)) = .tuple #[.int .i64 ((k + 1 : Nat) : Int), .int .i64 n, .bool true] from rfl]
      have hkl := (winN_lt (show winN [a, b] t (t.size + 1) 0 = some (k, n) from hw)).1
      simp at hkl
      have hw1 : IntKind.i64.wrap ((k : Int) + 1) = ((k + 1 : Nat) : Int) := by rw [IntWalk.i64_in _ (by omega)]; omega
      have Hw := Lib.hid hw
      clear hw
      go_enter Tryd.func31, Tryd.ntmps31
      go_wp2_with fail
      refine HF.out.mono ?_
      rintro e w1 ⟨rfl, b1⟩
      go_wp2_with fail
      go_ret3
      exact ⟨rfl, bel_trans hbl b1⟩

theorem ansTwo_form (a b t : ByteArray) : ∃ (x y : Int) (ok : Bool), ansTwo a b t = .tuple #[.int .i64 x, .int .i64 y, .bool ok] := by
  unfold ansTwo
  split
  · exact wonV_form _ _
  · exact ⟨0, 0, false, rfl⟩
theorem ansWin_form (xs : List ByteArray) (t : ByteArray) : ∃ (x y : Int) (ok : Bool), ansWin xs t = .tuple #[.int .i64 x, .int .i64 y, .bool ok] := by
  unfold ansWin
  split
  · exact wonV_form _ _
  · exact ⟨0, 0, false, rfl⟩

set_option maxHeartbeats 1600000 in
theorem walkExactWinnerOfRace (a b t : ByteArray) (w : World) (ha : a.size ≤ maxLen) (hb : b.size ≤ maxLen) (ht : t.size ≤ maxLen) :
    Calls Tryd.prog 9 #[.string a, .string b, .string t] w fun e w' => e = .returned (.bool true) ∧ Below w.heap.size w w' := by
  by_cases za : a.size ≤ 1048576
  case neg =>
    go_enter Tryd.func9, Tryd.ntmps9
    go_wp2
    go_ret
    exact ⟨rfl, Below.refl _ _⟩
  by_cases zb : b.size ≤ 1048576
  case neg =>
    go_enter Tryd.func9, Tryd.ntmps9
    go_wp2
    go_ret
    exact ⟨rfl, Below.refl _ _⟩
  by_cases zt : t.size ≤ 1048576
  case neg =>
    go_enter Tryd.func9, Tryd.ntmps9
    go_wp2
    go_ret
    exact ⟨rfl, Below.refl _ _⟩
  obtain ⟨x, y, ok, hv⟩ := ansTwo_form a b t
  have Hv := Lib.hid hv
  clear hv
  go_enter Tryd.func9, Tryd.ntmps9
  go_wp2_with fail
  refine (specWoR_any a b t _ ha hb ht).mono ?_
  rintro e w1 ⟨rfl, b1⟩
  rw [Hv.out]
  go_wp2_with fail
  refine (implWoR_any a b t _ ha hb ht).mono ?_
  rintro e w2 ⟨rfl, b2⟩
  rw [Hv.out]
  go_wp2_with fail
  go_ret
  exact ⟨rfl, bel_trans b1 b2⟩

set_option maxRecDepth 100000 in
set_option maxHeartbeats 1600000 in
theorem walkExactWinnerOfMany (xs : List ByteArray) (v : Value) (t : ByteArray) (w : World) (h : RdS w w.heap.size v xs) (ht : t.size ≤ maxLen) :
    Calls Tryd.prog 10 #[v, .string t] w fun e w' => e = .returned (.bool true) ∧ Below w.heap.size w w' := by
  obtain ⟨A, cap, rfl, hc1, hc2⟩ := h.form
  have HR := Lib.hid h
  have HS := Lib.hid h.sz
  clear h hc1 hc2
  by_cases zt : t.size ≤ 1048576
  case neg =>
    go_enter Tryd.func10, Tryd.ntmps10
    go_wp2
    go_ret
    exact ⟨rfl, Below.refl _ _⟩
  obtain ⟨x, y, ok, hv⟩ := ansWin_form xs t
  have Hv := Lib.hid hv
  clear hv
  go_enter Tryd.func10, Tryd.ntmps10
  go_wp2_with fail
  refine (szStr_any xs _ _ _ HR.out).mono ?_
  rintro e w1 ⟨z, rfl, hz, rfl⟩
  by_cases hz0 : z < 0
  · clear hz
    go_wp2_with fail
    go_ret
    exact ⟨rfl, Below.refl _ _⟩
  · have hn : xs.length ≤ 1048576 := by omega
    clear hz
    go_wp2_with fail
    refine (toStr_any xs _ _ _ HR.out (Nat.le_refl _) hn).mono ?_
    rintro e w2 ⟨v2, rfl, r2, b2⟩
    have R2 := Lib.hid r2
    clear r2
    go_wp2_with fail
    refine (specWoM_any xs v2 _ t _ R2.out HS.out ht).mono ?_
    rintro e w3 ⟨rfl, n3, rfl⟩
    rw [Hv.out]
    go_wp2_with fail
    refine (toStr_any xs _ _ _ ((HR.out.below b2 (Nat.le_refl _)).drewN n3) (by show _ ≤ w2.heap.size; exact b2.size) hn).mono ?_
    rintro e w4 ⟨v4, rfl, r4, b4⟩
    have R4 := Lib.hid r4
    have bl4 := bel_trans (bel_drewN b2 n3) b4
    clear r4 b4
    go_wp2_with fail
    refine (implWoM_any xs v4 _ t _ R4.out HS.out ht).mono ?_
    rintro e w5 ⟨rfl, b5⟩
    rw [Hv.out]
    have R5 := Lib.hid (R4.out.below b5)
    have bl5 := bel_trans bl4 b5
    clear b5
    go_wp2_with fail
    refine (toStr_any xs _ _ _ (HR.out.below bl5 (Nat.le_refl _)) (by exact bl5.size) hn).mono ?_
    rintro e w6 ⟨v6, rfl, r6, b6⟩
    have R6 := Lib.hid (R5.out.below b6)
    have R66 := Lib.hid r6
    have bl6 := bel_trans bl5 b6
    clear b6 r6
    go_wp2_with fail
    refine (eqStr_same xs v4 v6 _ _ _ R6.out R66.out).mono ?_
    rintro e w7 ⟨rfl, n7, rfl⟩
    go_wp2_with fail
    go_ret
    exact ⟨rfl, bel_drewN bl6 n7⟩
end Go.Proofs.YtjgcjeaddnodaaaDoor
