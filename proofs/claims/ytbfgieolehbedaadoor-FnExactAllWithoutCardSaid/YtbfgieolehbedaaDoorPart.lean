/- The chance of tosses, as the program and as its model tell it. -/
import Derived.Test.YtbfgieolehbedaaDoorPt
import Derived.Test.YtbfgieolehbedaaDoorPow
import Derived.Deep.RegionHeld3
namespace Go.Proofs.YtbfgieolehbedaaDoor
set_option linter.unusedSimpArgs false
open Go.ChangeShapes Go.WideShapes Go.ChangeAt Go.RowKit
set_option linter.unusedVariables false

theorem count_any (s : ByteArray) (w : World) :
    Calls Tryd.prog 53 #[.string s, .string ⟨#[104]⟩] w fun e w' => e = .returned (.int .i64 (hds s s.size)) ∧ w = w' :=
  (Tryd.strings_Count_one s 104 w).mono fun _ _ ⟨a, b⟩ => ⟨by rw [hds_all]; exact a, b.symm⟩

end Go.Proofs.YtbfgieolehbedaaDoor
