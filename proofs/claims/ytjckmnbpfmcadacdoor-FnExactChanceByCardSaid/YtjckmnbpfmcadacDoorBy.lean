/- ChanceBy: the model where it says no, and the law's walk. -/
import Derived.Test.YtjckmnbpfmcadacDoorCby
import Derived.Test.YtjckmnbpfmcadacDoorByI
namespace Go.Proofs.YtjckmnbpfmcadacDoor
set_option linter.unusedSimpArgs false
open Go.ChangeShapes Go.WideShapes Go.ChangeAt Go.RowKit
set_option linter.unusedVariables false

set_option maxHeartbeats 1600000 in
theorem specBy_any (h o : Int) (s : ByteArray) (n : Int) (w : World) (hs : s.size ≤ maxLen) :
    Calls Tryd.prog 16 #[cn h o, .string s, .int .i64 n] w fun e w' => e = .returned (ansBy h o s n) ∧ Below w.heap.size w w' := by
  have bx0 := Lib.hid (Box2.new w (.int .i64 h) (.int .i64 o) 29)
  have bl0 : Below w.heap.size w (w.alloc (.cells #[.int .i64 h, .int .i64 o] 29)) := bel_alloc (Below.refl _ _) _
  cases h1 : (coinG h o && patG s)
  · rw [show ansBy h o s n = failV from by unfold ansBy; rw [h1]; rfl]
    unfold failV
    go_enter Tryd.func16, Tryd.ntmps16
    go_wp2_with fail
    refine (ptBoth_any h o s _ hs).mono ?_
    rintro e w1 ⟨rfl, hb1⟩
    rw [h1]
    have bl1 := bel_trans bl0 hb1
    go_wp2_with fail
    go_ret3
    exact ⟨rfl, bl1⟩
  · cases h2 : inB n 0 8
    · rw [show ansBy h o s n = failV from by unfold ansBy; rw [h1, h2]; rfl]
      unfold failV
      go_enter Tryd.func16, Tryd.ntmps16
      go_wp2_with fail
      refine (ptBoth_any h o s _ hs).mono ?_
      rintro e w1 ⟨rfl, hb1⟩
      rw [h1]
      have bl1 := bel_trans bl0 hb1
      go_wp2_with fail
      refine (l1In_any _ _ _ _).mono ?_
      rintro e w8 ⟨rfl, rfl⟩
      rw [h2]
      go_wp2_with fail
      go_ret3
      exact ⟨rfl, bl1⟩
    · obtain ⟨n0, n8⟩ := (inB_iff _ _ _).1 h2
      obtain ⟨t, rfl⟩ := Int.eq_ofNat_of_zero_le (show 0 ≤ n by omega)
      obtain ⟨g1, g2⟩ : coinG h o = true ∧ patG s = true := by simpa using h1
      have := specBy_yes s h o t w g1 g2 hs (by omega)
      rwa [show ansBy h o s (t : Int) = lowV (accB s h (o - h) o t) (o ^ t) from by unfold ansBy; rw [h1, h2]; rfl]

set_option maxHeartbeats 800000 in
theorem walkExactChanceBy (h o : Int) (s : ByteArray) (n : Int) (w : World) (ha : (Lit.int .i64 h).wf = true) (hb : (Lit.int .i64 o).wf = true) (hs : s.size ≤ maxLen) (hn : (Lit.int .i64 n).wf = true) :
    Calls Tryd.prog 5 #[cn h o, .string s, .int .i64 n] w fun e w' => e = .returned (.bool true) ∧ Below w.heap.size w w' := by
  clear ha hb hn
  by_cases zs : s.size ≤ 1048576
  · skip
    obtain ⟨x, y, ok, hv⟩ := ansBy_form h o s n
    have Hv := Lib.hid hv
    clear hv
    have bx0 := Lib.hid (Box2.new w (.int .i64 h) (.int .i64 o) 26)
    have bl0 : Below w.heap.size w (w.alloc (.cells #[.int .i64 h, .int .i64 o] 26)) := bel_alloc (Below.refl _ _) _
    go_enter Tryd.func5, Tryd.ntmps5
    go_wp2_with fail
    refine (toCoin_any _ _ _).mono ?_
    rintro e w1 ⟨rfl, hb1⟩
    have bx1 := Lib.hid (bx0.out.keep hb1)
    have bl1 := bel_trans bl0 hb1
    obtain ⟨c0_1, c1_1, hk1⟩ := bx1.out
    go_wp2_with fail
    refine (specBy_any h o s n _ hs).mono ?_
    rintro e w2 ⟨rfl, hb2⟩
    rw [Hv.out]
    have bx2 := Lib.hid (bx1.out.keep hb2)
    have bl2 := bel_trans bl1 hb2
    obtain ⟨c0_2, c1_2, hk2⟩ := bx2.out
    go_wp2_with fail
    refine (toCoin_any _ _ _).mono ?_
    rintro e w3 ⟨rfl, hb3⟩
    have bx3 := Lib.hid (bx2.out.keep hb3)
    have bl3 := bel_trans bl2 hb3
    obtain ⟨c0_3, c1_3, hk3⟩ := bx3.out
    go_wp2_with fail
    refine (implBy_any h o s n _ hs).mono ?_
    rintro e w4 ⟨rfl, hb4⟩
    rw [Hv.out]
    have bx4 := Lib.hid (bx3.out.keep hb4)
    have bl4 := bel_trans bl3 hb4
    obtain ⟨c0_4, c1_4, hk4⟩ := bx4.out
    go_wp2_with fail
    go_ret
    exact ⟨rfl, bl4⟩
  · go_enter Tryd.func5, Tryd.ntmps5
    go_wp2
    go_ret
    exact ⟨rfl, bel_alloc (Below.refl _ _) _⟩

end Go.Proofs.YtjckmnbpfmcadacDoor
