/- AreManyRacers: the walk. WinnerOfMany and WinnerOfRace: the contracts of the program and of its model, and the walks. -/
import Derived.Test.YtjckmnbpfmcadacDoorRdS
import Derived.Test.YtjckmnbpfmcadacDoorRac3
namespace Go.Proofs.YtjckmnbpfmcadacDoor
set_option linter.unusedSimpArgs false
open Go.ChangeShapes Go.WideShapes Go.ChangeAt Go.RowKit
set_option linter.unusedVariables false

theorem specAreMany_any (xs : List ByteArray) (v : Value) (base : Nat) (w : World) (hR : SRow w base v xs) (hs : ∀ x ∈ xs, x.size ≤ maxLen) :
    Calls Tryd.prog 30 #[v] w fun e w' => e = .returned (.bool (manyG xs)) ∧ ∃ n, w' = w.drewN n := by
  go_enter Tryd.func30, Tryd.ntmps30
  go_wp2_with fail
  refine (specMany_any xs v base _ hR hs).mono ?_
  rintro e w1 ⟨rfl, n, rfl⟩
  go_wp2_with fail
  go_ret
  exact ⟨rfl, n, rfl⟩

set_option maxRecDepth 100000 in
set_option maxHeartbeats 1600000 in
theorem walkExactAreManyRacers (xs : List ByteArray) (v : Value) (w : World) (h : RdS w w.heap.size v xs) :
    Calls Tryd.prog 10 #[v] w fun e w' => e = .returned (.bool true) ∧ Below w.heap.size w w' := by
  obtain ⟨A, cap, rfl, hc1, hc2⟩ := h.form
  have HR := Lib.hid h
  have HS := Lib.hid h.sz
  clear h hc1 hc2
  go_enter Tryd.func10, Tryd.ntmps10
  go_wp2_with fail
  refine (szStr_any xs _ _ _ HR.out).mono ?_
  rintro e w1 ⟨z, rfl, hz, rfl⟩
  by_cases hz0 : z < 0
  · clear hz
    go_wp2_with fail
    go_ret
    exact ⟨rfl, Below.refl _ _⟩
  · have hn : xs.length ≤ 1048576 := by omega
    clear hz
    go_wp2_with fail
    refine (toStr_any xs _ _ _ HR.out (Nat.le_refl _) hn).mono ?_
    rintro e w2 ⟨v2, rfl, r2, b2⟩
    have R2 := Lib.hid r2
    clear r2
    go_wp2_with fail
    refine (specAreMany_any xs v2 _ _ R2.out HS.out).mono ?_
    rintro e w3 ⟨rfl, n3, rfl⟩
    go_wp2_with fail
    refine (toStr_any xs _ _ _ ((HR.out.below b2 (Nat.le_refl _)).drewN n3) (by show _ ≤ w2.heap.size; exact b2.size) hn).mono ?_
    rintro e w4 ⟨v4, rfl, r4, b4⟩
    have R4 := Lib.hid r4
    have bl4 := bel_trans (bel_drewN b2 n3) b4
    clear r4 b4
    go_wp2_with fail
    refine (implMany_any xs v4 _ _ R4.out HS.out).mono ?_
    rintro e w5 ⟨rfl, b5⟩
    have R5 := Lib.hid (R4.out.below b5)
    have bl5 := bel_trans bl4 b5
    clear b5
    go_wp2_with fail
    refine (toStr_any xs _ _ _ (HR.out.below bl5 (Nat.le_refl _)) (by exact bl5.size) hn).mono ?_
    rintro e w6 ⟨v6, rfl, r6, b6⟩
    have R6 := Lib.hid (R5.out.below b6)
    have R66 := Lib.hid r6
    have bl6 := bel_trans bl5 b6
    clear b6 r6
    go_wp2_with fail
    refine (eqStr_same xs v4 v6 _ _ _ R6.out R66.out).mono ?_
    rintro e w7 ⟨rfl, n7, rfl⟩
    go_wp2_with fail
    go_ret
    exact ⟨rfl, bel_drewN bl6 n7⟩
end Go.Proofs.YtjckmnbpfmcadacDoor
