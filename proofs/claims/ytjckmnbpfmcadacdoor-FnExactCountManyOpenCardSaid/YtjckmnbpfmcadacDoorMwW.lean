/- CountManyWonAt, CountManyOpen: the walks. -/
import Derived.Test.YtjckmnbpfmcadacDoorMwC
namespace Go.Proofs.YtjckmnbpfmcadacDoor
set_option linter.unusedSimpArgs false
open Go.ChangeShapes Go.WideShapes Go.ChangeAt Go.RowKit
set_option linter.unusedVariables false

set_option maxRecDepth 100000 in
set_option maxHeartbeats 1600000 in
theorem walkExactCountManyOpen (xs : List ByteArray) (v : Value) (n : Int) (w : World) (h : RdS w w.heap.size v xs) (hn0 : (Lit.int .i64 n).wf = true) :
    Calls Tryd.prog 9 #[v, .int .i64 n] w fun e w' => e = .returned (.bool true) ∧ Below w.heap.size w w' := by
  obtain ⟨A, cap, rfl, hc1, hc2⟩ := h.form
  have HR := Lib.hid h
  have HS := Lib.hid h.sz
  clear h hc1 hc2 hn0
  obtain ⟨y, ok, hv⟩ : ∃ (y : Int) (ok : Bool), ansMO xs n = .tuple #[.int .i64 y, .bool ok] := pair_form _ _
  have Hv := Lib.hid hv
  clear hv
  go_enter Tryd.func9, Tryd.ntmps9
  go_wp2_with fail
  refine (szStr_any xs _ _ _ HR.out).mono ?_
  rintro e w1 ⟨z, rfl, hz, rfl⟩
  by_cases hz0 : z < 0
  · clear hz
    go_wp2_with fail
    go_ret
    exact ⟨rfl, Below.refl _ _⟩
  · have hn : xs.length ≤ 1048576 := by omega
    clear hz
    go_wp2_with fail
    refine (toStr_any xs _ _ _ HR.out (Nat.le_refl _) hn).mono ?_
    rintro e w2 ⟨v2, rfl, r2, b2⟩
    have R2 := Lib.hid r2
    clear r2
    go_wp2_with fail
    refine (specMO_any xs v2 _ n _ R2.out HS.out).mono ?_
    rintro e w3 ⟨rfl, b3⟩
    rw [Hv.out]
    have bl3 := bel_trans b2 b3
    clear b3
    go_wp2_with fail
    refine (toStr_any xs _ _ _ (HR.out.below bl3 (Nat.le_refl _)) (by exact bl3.size) hn).mono ?_
    rintro e w4 ⟨v4, rfl, r4, b4⟩
    have R4 := Lib.hid r4
    have bl4 := bel_trans bl3 b4
    clear r4 b4
    go_wp2_with fail
    refine (implMO_any xs v4 _ n _ R4.out HS.out).mono ?_
    rintro e w5 ⟨rfl, b5⟩
    rw [Hv.out]
    have R5 := Lib.hid (R4.out.below b5)
    have bl5 := bel_trans bl4 b5
    clear b5
    go_wp2_with fail
    refine (toStr_any xs _ _ _ (HR.out.below bl5 (Nat.le_refl _)) (by exact bl5.size) hn).mono ?_
    rintro e w6 ⟨v6, rfl, r6, b6⟩
    have R6 := Lib.hid (R5.out.below b6)
    have R66 := Lib.hid r6
    have bl6 := bel_trans bl5 b6
    clear b6 r6
    go_wp2_with fail
    refine (eqStr_same xs v4 v6 _ _ _ R6.out R66.out).mono ?_
    rintro e w7 ⟨rfl, n7, rfl⟩
    go_wp2_with fail
    go_ret
    exact ⟨rfl, bel_drewN bl6 n7⟩

set_option maxRecDepth 100000 in
set_option maxHeartbeats 1600000 in
theorem walkExactCountManyWonAt (xs : List ByteArray) (v : Value) (k n : Int) (w : World) (h : RdS w w.heap.size v xs) (hk0 : (Lit.int .i64 k).wf = true) (hn0 : (Lit.int .i64 n).wf = true) :
    Calls Tryd.prog 8 #[v, .int .i64 k, .int .i64 n] w fun e w' => e = .returned (.bool true) ∧ Below w.heap.size w w' := by
  obtain ⟨A, cap, rfl, hc1, hc2⟩ := h.form
  have HR := Lib.hid h
  have HS := Lib.hid h.sz
  clear h hc1 hc2 hk0 hn0
  obtain ⟨y, ok, hv⟩ : ∃ (y : Int) (ok : Bool), ansMW xs k n = .tuple #[.int .i64 y, .bool ok] := pair_form _ _
  have Hv := Lib.hid hv
  clear hv
  go_enter Tryd.func8, Tryd.ntmps8
  go_wp2_with fail
  refine (szStr_any xs _ _ _ HR.out).mono ?_
  rintro e w1 ⟨z, rfl, hz, rfl⟩
  by_cases hz0 : z < 0
  · clear hz
    go_wp2_with fail
    go_ret
    exact ⟨rfl, Below.refl _ _⟩
  · have hn : xs.length ≤ 1048576 := by omega
    clear hz
    go_wp2_with fail
    refine (toStr_any xs _ _ _ HR.out (Nat.le_refl _) hn).mono ?_
    rintro e w2 ⟨v2, rfl, r2, b2⟩
    have R2 := Lib.hid r2
    clear r2
    go_wp2_with fail
    refine (specMW_any xs v2 _ k n _ R2.out HS.out).mono ?_
    rintro e w3 ⟨rfl, b3⟩
    rw [Hv.out]
    have bl3 := bel_trans b2 b3
    clear b3
    go_wp2_with fail
    refine (toStr_any xs _ _ _ (HR.out.below bl3 (Nat.le_refl _)) (by exact bl3.size) hn).mono ?_
    rintro e w4 ⟨v4, rfl, r4, b4⟩
    have R4 := Lib.hid r4
    have bl4 := bel_trans bl3 b4
    clear r4 b4
    go_wp2_with fail
    refine (implMW_any xs v4 _ k n _ R4.out HS.out).mono ?_
    rintro e w5 ⟨rfl, b5⟩
    rw [Hv.out]
    have R5 := Lib.hid (R4.out.below b5)
    have bl5 := bel_trans bl4 b5
    clear b5
    go_wp2_with fail
    refine (toStr_any xs _ _ _ (HR.out.below bl5 (Nat.le_refl _)) (by exact bl5.size) hn).mono ?_
    rintro e w6 ⟨v6, rfl, r6, b6⟩
    have R6 := Lib.hid (R5.out.below b6)
    have R66 := Lib.hid r6
    have bl6 := bel_trans bl5 b6
    clear b6 r6
    go_wp2_with fail
    refine (eqStr_same xs v4 v6 _ _ _ R6.out R66.out).mono ?_
    rintro e w7 ⟨rfl, n7, rfl⟩
    go_wp2_with fail
    go_ret
    exact ⟨rfl, bel_drewN bl6 n7⟩
end Go.Proofs.YtjckmnbpfmcadacDoor
