/- Coins and patterns together: what is asked of both. -/
import Derived.Test.YtdfjfojkheikiaaDoorPart
namespace Go.Proofs.YtdfjfojkheikiaaDoor
set_option linter.unusedSimpArgs false
open Go.ChangeShapes Go.WideShapes Go.ChangeAt Go.RowKit
set_option linter.unusedVariables false

theorem isTossed_any (h o : Int) (s : ByteArray) (w : World) (hs : s.size ≤ maxLen) :
    Calls Tryd.prog 38 #[cn h o, .string s] w fun e w' => e = .returned (.bool (coinG h o && patG s)) ∧ Below w.heap.size w w' := by
  have bl0 := bel_alloc (Below.refl _ w) (.cells #[.int .i64 h, .int .i64 o] 45)
  cases h1 : coinG h o
  · go_enter Tryd.func38, Tryd.ntmps38
    go_wp2_with fail
    refine (implIsCoin_any _ _ _).mono ?_
    rintro e w1 ⟨rfl, hb1⟩
    rw [h1]
    go_wp2_with fail
    go_ret
    exact ⟨rfl, bel_trans bl0 hb1⟩
  · go_enter Tryd.func38, Tryd.ntmps38
    go_wp2_with fail
    refine (implIsCoin_any _ _ _).mono ?_
    rintro e w1 ⟨rfl, hb1⟩
    rw [h1]
    go_wp2_with fail
    refine (implIsPattern_any s _ hs).mono ?_
    rintro e w2 ⟨rfl, hb2⟩
    go_wp2_with fail
    go_ret
    exact ⟨rfl, bel_trans (bel_trans bl0 hb1) hb2⟩

end Go.Proofs.YtdfjfojkheikiaaDoor
