/- ChanceOfPattern and MeanBetween: the contracts of the program and of its model, and the walks. -/
import Derived.Test.YtdfjfojkheikiaaDoorBoth
namespace Go.Proofs.YtdfjfojkheikiaaDoor
set_option linter.unusedSimpArgs false
open Go.ChangeShapes Go.WideShapes Go.ChangeAt Go.RowKit
set_option linter.unusedVariables false


theorem both_in {h o : Int} {s : ByteArray} (g : (coinG h o && patG s) = true) : coinG h o = true ∧ 1 ≤ s.size ∧ s.size ≤ 8 ∧ allT s = true := by
  rw [Bool.and_eq_true] at g
  exact ⟨g.1, pat_in g.2⟩
def ansPat (h o : Int) (s : ByteArray) : Value := if coinG h o && patG s then lowV (prA h o s) (o ^ s.size) else failV
theorem ansPat_form (h o : Int) (s : ByteArray) : ∃ (x y : Int) (ok : Bool), ansPat h o s = .tuple #[.int .i64 x, .int .i64 y, .bool ok] := if_form _ (lowV_form _ _) failV_form
def ansBet (h o : Int) (s : ByteArray) : Value := if coinG h o && patG s then lowV (o ^ s.size) (prA h o s) else failV
theorem ansBet_form (h o : Int) (s : ByteArray) : ∃ (x y : Int) (ok : Bool), ansBet h o s = .tuple #[.int .i64 x, .int .i64 y, .bool ok] := if_form _ (lowV_form _ _) failV_form

end Go.Proofs.YtdfjfojkheikiaaDoor
