/- ChanceOfGoal, ChanceOfRuin: the contracts of the program and of its model, and the walks. -/
import Derived.Test.YtfogipdhipipfabSkH
import Derived.Test.YtfogipdhipipfabSkB
namespace Go.Proofs.Ytfogipdhipipfab
set_option linter.unusedSimpArgs false
open Go.ChangeShapes Go.WideShapes Go.ChangeAt Go.RowKit
set_option linter.unusedVariables false

def s1 (h o p g : Int) : Int := sg1 h.toNat (o - h).toNat g.toNat p.toNat
def s2 (h o p g : Int) : Int := sg2 h.toNat (o - h).toNat g.toNat p.toNat
theorem s1_nat {H T G P : Nat} {o : Int} (hT : o - (H : Int) = (T : Int)) : s1 H o P G = sg1 H T G P := by unfold s1; rw [hT]; simp
theorem s2_nat {H T G P : Nat} {o : Int} (hT : o - (H : Int) = (T : Int)) : s2 H o P G = sg2 H T G P := by unfold s2; rw [hT]; simp
def ansCG (h o p g : Int) : Value := if csG h o p g then .tuple #[.int .i64 (s1 h o p g), .int .i64 (s2 h o p g), .bool true] else failV
theorem ansCG_form (h o p g : Int) : ∃ (x y : Int) (ok : Bool), ansCG h o p g = .tuple #[.int .i64 x, .int .i64 y, .bool ok] := if_form _ ⟨_, _, true, rfl⟩ failV_form
theorem ansCG_no {h o p g : Int} (a : csG h o p g = false) : ansCG h o p g = .tuple #[.int .i64 0, .int .i64 0, .bool false] := by unfold ansCG; rw [a]; rfl
theorem ansCG_yes {H T G P : Nat} {o : Int} (a : csG H o P G = true) (hT : o - (H : Int) = (T : Int)) : ansCG H o P G = .tuple #[.int .i64 (sg1 H T G P), .int .i64 (sg2 H T G P), .bool true] := by
  unfold ansCG
  rw [a, s1_nat hT, s2_nat hT]
  rfl
def ansCR (h o p g : Int) : Value := if csG h o p g then .tuple #[.int .i64 (s2 h o p g - s1 h o p g), .int .i64 (s2 h o p g), .bool true] else failV
theorem ansCR_form (h o p g : Int) : ∃ (x y : Int) (ok : Bool), ansCR h o p g = .tuple #[.int .i64 x, .int .i64 y, .bool ok] := if_form _ ⟨_, _, true, rfl⟩ failV_form
theorem ansCR_no {h o p g : Int} (a : csG h o p g = false) : ansCR h o p g = .tuple #[.int .i64 0, .int .i64 0, .bool false] := by unfold ansCR; rw [a]; rfl
theorem ansCR_yes {H T G P : Nat} {o : Int} (a : csG H o P G = true) (hT : o - (H : Int) = (T : Int)) : ansCR H o P G = .tuple #[.int .i64 (sg2 H T G P - sg1 H T G P), .int .i64 (sg2 H T G P), .bool true] := by
  unfold ansCR
  rw [a, s1_nat hT, s2_nat hT]
  rfl
end Go.Proofs.Ytfogipdhipipfab
