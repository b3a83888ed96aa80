/- WinnerOfMany and WinnerOfRace: the walks. -/
import Derived.Test.YtjckmnbpfmcadabDoorWin2
namespace Go.Proofs.YtjckmnbpfmcadabDoor
set_option linter.unusedSimpArgs false
open Go.ChangeShapes Go.WideShapes Go.ChangeAt Go.RowKit
set_option linter.unusedVariables false

set_option maxRecDepth 100000 in
set_option maxHeartbeats 1600000 in
theorem implWoR_any (a b : ByteArray) (t : ByteArray) (w : World) (ha : a.size ≤ maxLen) (hb : b.size ≤ maxLen) (ht : t.size ≤ maxLen) :
    Calls Tryd.prog 22 #[.string a, .string b, .string t] w fun e w' => e = .returned (ansTwo a b t) ∧ Below w.heap.size w w' := by
  have hR := Lib.hid (SRow.lit2 w a b)
  have hm := Lib.hid (two_mem ha hb)
  have HF := Lib.hid (implWoM_any [a, b] _ _ t _ hR.out hm.out ht)
  have hbl := bel_alloc (Below.refl _ w) (.cells #[.string a, .string b] 9)
  cases h1 : (twoG a b && tossG t)
  · rw [show ansTwo a b t = noneV from by unfold ansTwo; rw [h1]; rfl]
    rw [show ansWin [a, b] t = noneV from by unfold ansWin; rw [two_many, h1]; rfl] at HF
    unfold noneV at HF ⊢
    go_enter Tryd.func22, Tryd.ntmps22
    go_wp2_with fail
    refine HF.out.mono ?_
    rintro e w1 ⟨rfl, b1⟩
    go_wp2_with fail
    go_ret3
    exact ⟨rfl, bel_trans hbl b1⟩
  · rw [show ansTwo a b t = wonV 1 (win [a, b] t) from by unfold ansTwo; rw [h1]; rfl]
    rw [show ansWin [a, b] t = wonV 0 (win [a, b] t) from by unfold ansWin; rw [two_many, h1]; rfl] at HF
    rcases hw : win [a, b] t with _ | ⟨k, n⟩
    · rw [hw] at HF
      unfold wonV noneV at HF
      unfold wonV noneV
      go_enter Tryd.func22, Tryd.ntmps22
      go_wp2_with fail
      refine HF.out.mono ?_
      rintro e w1 ⟨rfl, b1⟩
      go_wp2_with fail
      go_ret3
      exact ⟨rfl, bel_trans hbl b1⟩
    · rw [hw] at HF
      rw [show wonV 0 (some (k, n)) = .tuple #[.int .i64 (k : Int), .int .i64 n, .bool true] from rfl] at HF
      rw [show wonV 1 (some (k, n)) = .tuple #[.int .i64 ((k + 1 : Nat) : Int), .int .i64 n, .bool true] from rfl]
      have hkl := (winN_lt (show winN [a, b] t (t.size + 1) 0 = some (k, n) from hw)).1
      simp at hkl
      have hw1 : IntKind.i64.wrap ((k : Int) + 1) = ((k + 1 : Nat) : Int) := by rw [IntWalk.i64_in _ (by omega)]; omega
      have Hw := Lib.hid hw
      clear hw
      go_enter Tryd.func22, Tryd.ntmps22
      go_wp2_with fail
      refine HF.out.mono ?_
      rintro e w1 ⟨rfl, b1⟩
      go_wp2_with fail
      go_ret3
      exact ⟨rfl, bel_trans hbl b1⟩

theorem ansTwo_form (a b t : ByteArray) : ∃ (x y : Int) (ok : Bool), ansTwo a b t = .tuple #[.int .i64 x, .int .i64 y, .bool ok] := by
  unfold ansTwo
  split
  · exact wonV_form _ _
  · exact ⟨0, 0, false, rfl⟩
theorem ansWin_form (xs : List ByteArray) (t : ByteArray) : ∃ (x y : Int) (ok : Bool), ansWin xs t = .tuple #[.int .i64 x, .int .i64 y, .bool ok] := by
  unfold ansWin
  split
  · exact wonV_form _ _
  · exact ⟨0, 0, false, rfl⟩

set_option maxHeartbeats 1600000 in
theorem walkExactWinnerOfRace (a b t : ByteArray) (w : World) (ha : a.size ≤ maxLen) (hb : b.size ≤ maxLen) (ht : t.size ≤ maxLen) :
    Calls Tryd.prog 7 #[.string a, .string b, .string t] w fun e w' => e = .returned (.bool true) ∧ Below w.heap.size w w' := by
  by_cases za : a.size ≤ 1048576
  case neg =>
    go_enter Tryd.func7, Tryd.ntmps7
    go_wp2
    go_ret
    exact ⟨rfl, Below.refl _ _⟩
  by_cases zb : b.size ≤ 1048576
  case neg =>
    go_enter Tryd.func7, Tryd.ntmps7
    go_wp2
    go_ret
    exact ⟨rfl, Below.refl _ _⟩
  by_cases zt : t.size ≤ 1048576
  case neg =>
    go_enter Tryd.func7, Tryd.ntmps7
    go_wp2
    go_ret
    exact ⟨rfl, Below.refl _ _⟩
  obtain ⟨x, y, ok, hv⟩ := ansTwo_form a b t
  have Hv := Lib.hid hv
  clear hv
  go_enter Tryd.func7, Tryd.ntmps7
  go_wp2_with fail
  refine (specWoR_any a b t _ ha hb ht).mono ?_
  rintro e w1 ⟨rfl, b1⟩
  rw [Hv.out]
  go_wp2_with fail
  refine (implWoR_any a b t _ ha hb ht).mono ?_
  rintro e w2 ⟨rfl, b2⟩
  rw [Hv.out]
  go_wp2_with fail
  go_ret
  exact ⟨rfl, bel_trans b1 b2⟩

end Go.Proofs.YtjckmnbpfmcadabDoor
