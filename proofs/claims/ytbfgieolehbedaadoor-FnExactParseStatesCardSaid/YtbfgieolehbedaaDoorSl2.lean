/- Contracts of the law's own helpers over states: copied, sized. -/
import Derived.Test.YtbfgieolehbedaaDoorSl
namespace Go.Proofs.YtbfgieolehbedaaDoor
set_option linter.unusedSimpArgs false
open Go.ChangeShapes Go.WideShapes Go.ChangeAt Go.RowKit
set_option linter.unusedVariables false

/-- How much of the size is left behind i rows. -/
def szM (m : List (List Int)) (i : Nat) : Nat := m.length + offM m i
theorem szM_succ (m : List (List Int)) (i : Nat) : szM m (i + 1) = szM m i + (m.getD i []).length := by simp [szM, offM]; omega
theorem szM_mono (m : List (List Int)) (i j : Nat) (h : i ≤ j) : szM m i ≤ szM m j := by have := offM_mono m i j h; unfold szM; omega

abbrev sts (lim : Int) (v : Value) : Value := .agg #[.int .i64 lim, v]
end Go.Proofs.YtbfgieolehbedaaDoor
