/-
  No cell of these rows narrows 'for every input' (looked for: loops, veiled, ifaces, maps, wideKeys, modest, calm, conditions, laid).
  DERIVED. THE GIVEN ROWS OF THIS SEAT. 12 by the template 'for every input the law returns true; each argument reads behind the call as it read before'; 0 by the template 'total and deterministic' (their statements: YtfogipdhipipfaaTotals.lean).
  GIVEN WITH THE SEED: the statements are not yours to turn. If you find one false, say at which input.
  Laid BY PROGRAM, IN A SANDBOX (cutbox-rows.mjs): the forced cells as the released guide's own fill.sh prints them over the translation 8b6a1c42477d7f3b… (all of the seat's roots in one cut). By AI agents, Wed Nov 11 2026. No macro, syntax, notation, axiom, sorry.
-/
import Derived.Test.YtfogipdhipipfaaChecked
import GoSem.Claim
import GoSem.ClaimJoined
import GoSem.ClaimMapViews
import Derived.JoinedTies
import Derived.KernelRfl
namespace Go.Proofs.Ytfogipdhipipfaa
/- THE CELL 'sum', in the pinned program and in every row, IS THE sha256 OF THE DUMP (.gsa) THAT YtfogipdhipipfaaProg.lean LOADS. Nothing in Lean hashes anything: it is a label: what it is worth is what the hold of that sum in a sandbox is worth. -/
noncomputable def Try.pinned : Pinned := { name := "ytfogipdhipipfaa", sum := "8b6a1c42477d7f3bd210ea89441805b9103ab0b731b06b53755daec5090cab51", checked := Try.checked }
namespace Rows
def none {H : Type} : Left H := { results := [], args := [] }

/-- 'laws.FnExactAreStakes': WHATEVER THE INPUT: true; the input reads as it did. -/
def fnExactAreStakesSpec : ChangeSpec := { name := "fnExactAreStakes", fn := fun _ => fun
  | [d] => { results := [.lit (.bool true)], args := [d] }
  | _ => none }
def fnExactAreStakesRow : OpenClaim := { program := "ytfogipdhipipfaa", sum := "8b6a1c42477d7f3bd210ea89441805b9103ab0b731b06b53755daec5090cab51", func := "loop.example/g01337/laws.FnExactAreStakes", spec := "fnExactAreStakes", apart := false }
def FnExactAreStakesSaid : Prop := fnExactAreStakesRow.holds Try.pinned (OpenSpec.ofChange fnExactAreStakesSpec)

/-- ITS FALSE NEIGHBOUR: 'it returns false'. Refute it at one input. -/
def fnExactAreStakesWrong : ChangeSpec := { name := "fnExactAreStakes", fn := fun _ => fun
  | [d] => { results := [.lit (.bool false)], args := [d] }
  | _ => none }
def FnExactAreStakesWrongFalsely : Prop := fnExactAreStakesRow.holds Try.pinned (OpenSpec.ofChange fnExactAreStakesWrong)

/-- 'laws.FnExactChanceOfGoal': WHATEVER THE INPUT: true; the input reads as it did. -/
def fnExactChanceOfGoalSpec : ChangeSpec := { name := "fnExactChanceOfGoal", fn := fun _ => fun
  | [d1, d2] => { results := [.lit (.bool true)], args := [d1, d2] }
  | _ => none }
def fnExactChanceOfGoalRow : OpenClaim := { program := "ytfogipdhipipfaa", sum := "8b6a1c42477d7f3bd210ea89441805b9103ab0b731b06b53755daec5090cab51", func := "loop.example/g01337/laws.FnExactChanceOfGoal", spec := "fnExactChanceOfGoal", apart := false }
def FnExactChanceOfGoalSaid : Prop := fnExactChanceOfGoalRow.holds Try.pinned (OpenSpec.ofChange fnExactChanceOfGoalSpec)

/-- ITS FALSE NEIGHBOUR: 'it returns false'. Refute it at one input. -/
def fnExactChanceOfGoalWrong : ChangeSpec := { name := "fnExactChanceOfGoal", fn := fun _ => fun
  | [d1, d2] => { results := [.lit (.bool false)], args := [d1, d2] }
  | _ => none }
def FnExactChanceOfGoalWrongFalsely : Prop := fnExactChanceOfGoalRow.holds Try.pinned (OpenSpec.ofChange fnExactChanceOfGoalWrong)

/-- 'laws.FnExactChanceOfRuin': WHATEVER THE INPUT: true; the input reads as it did. -/
def fnExactChanceOfRuinSpec : ChangeSpec := { name := "fnExactChanceOfRuin", fn := fun _ => fun
  | [d1, d2] => { results := [.lit (.bool true)], args := [d1, d2] }
  | _ => none }
def fnExactChanceOfRuinRow : OpenClaim := { program := "ytfogipdhipipfaa", sum := "8b6a1c42477d7f3bd210ea89441805b9103ab0b731b06b53755daec5090cab51", func := "loop.example/g01337/laws.FnExactChanceOfRuin", spec := "fnExactChanceOfRuin", apart := false }
def FnExactChanceOfRuinSaid : Prop := fnExactChanceOfRuinRow.holds Try.pinned (OpenSpec.ofChange fnExactChanceOfRuinSpec)

/-- ITS FALSE NEIGHBOUR: 'it returns false'. Refute it at one input. -/
def fnExactChanceOfRuinWrong : ChangeSpec := { name := "fnExactChanceOfRuin", fn := fun _ => fun
  | [d1, d2] => { results := [.lit (.bool false)], args := [d1, d2] }
  | _ => none }
def FnExactChanceOfRuinWrongFalsely : Prop := fnExactChanceOfRuinRow.holds Try.pinned (OpenSpec.ofChange fnExactChanceOfRuinWrong)

/-- 'laws.FnExactMeanPlays': WHATEVER THE INPUT: true; the input reads as it did. -/
def fnExactMeanPlaysSpec : ChangeSpec := { name := "fnExactMeanPlays", fn := fun _ => fun
  | [d1, d2] => { results := [.lit (.bool true)], args := [d1, d2] }
  | _ => none }
def fnExactMeanPlaysRow : OpenClaim := { program := "ytfogipdhipipfaa", sum := "8b6a1c42477d7f3bd210ea89441805b9103ab0b731b06b53755daec5090cab51", func := "loop.example/g01337/laws.FnExactMeanPlays", spec := "fnExactMeanPlays", apart := false }
def FnExactMeanPlaysSaid : Prop := fnExactMeanPlaysRow.holds Try.pinned (OpenSpec.ofChange fnExactMeanPlaysSpec)

/-- ITS FALSE NEIGHBOUR: 'it returns false'. Refute it at one input. -/
def fnExactMeanPlaysWrong : ChangeSpec := { name := "fnExactMeanPlays", fn := fun _ => fun
  | [d1, d2] => { results := [.lit (.bool false)], args := [d1, d2] }
  | _ => none }
def FnExactMeanPlaysWrongFalsely : Prop := fnExactMeanPlaysRow.holds Try.pinned (OpenSpec.ofChange fnExactMeanPlaysWrong)

/-- 'laws.FnExactBoldStake': WHATEVER THE INPUT: true; the input reads as it did. -/
def fnExactBoldStakeSpec : ChangeSpec := { name := "fnExactBoldStake", fn := fun _ => fun
  | [d] => { results := [.lit (.bool true)], args := [d] }
  | _ => none }
def fnExactBoldStakeRow : OpenClaim := { program := "ytfogipdhipipfaa", sum := "8b6a1c42477d7f3bd210ea89441805b9103ab0b731b06b53755daec5090cab51", func := "loop.example/g01337/laws.FnExactBoldStake", spec := "fnExactBoldStake", apart := false }
def FnExactBoldStakeSaid : Prop := fnExactBoldStakeRow.holds Try.pinned (OpenSpec.ofChange fnExactBoldStakeSpec)

/-- ITS FALSE NEIGHBOUR: 'it returns false'. Refute it at one input. -/
def fnExactBoldStakeWrong : ChangeSpec := { name := "fnExactBoldStake", fn := fun _ => fun
  | [d] => { results := [.lit (.bool false)], args := [d] }
  | _ => none }
def FnExactBoldStakeWrongFalsely : Prop := fnExactBoldStakeRow.holds Try.pinned (OpenSpec.ofChange fnExactBoldStakeWrong)

/-- 'laws.FnExactBoldWithin': WHATEVER THE INPUT: true; the input reads as it did. -/
def fnExactBoldWithinSpec : ChangeSpec := { name := "fnExactBoldWithin", fn := fun _ => fun
  | [d1, d2, d3] => { results := [.lit (.bool true)], args := [d1, d2, d3] }
  | _ => none }
def fnExactBoldWithinRow : OpenClaim := { program := "ytfogipdhipipfaa", sum := "8b6a1c42477d7f3bd210ea89441805b9103ab0b731b06b53755daec5090cab51", func := "loop.example/g01337/laws.FnExactBoldWithin", spec := "fnExactBoldWithin", unfollowed := true, recurses := true, apart := false }
def FnExactBoldWithinSaid : Prop := fnExactBoldWithinRow.holds Try.pinned (OpenSpec.ofChange fnExactBoldWithinSpec)

/-- ITS FALSE NEIGHBOUR: 'it returns false'. Refute it at one input. -/
def fnExactBoldWithinWrong : ChangeSpec := { name := "fnExactBoldWithin", fn := fun _ => fun
  | [d1, d2, d3] => { results := [.lit (.bool false)], args := [d1, d2, d3] }
  | _ => none }
def FnExactBoldWithinWrongFalsely : Prop := fnExactBoldWithinRow.holds Try.pinned (OpenSpec.ofChange fnExactBoldWithinWrong)

/-- 'laws.FnExactTimidWithin': WHATEVER THE INPUT: true; the input reads as it did. -/
def fnExactTimidWithinSpec : ChangeSpec := { name := "fnExactTimidWithin", fn := fun _ => fun
  | [d1, d2, d3] => { results := [.lit (.bool true)], args := [d1, d2, d3] }
  | _ => none }
def fnExactTimidWithinRow : OpenClaim := { program := "ytfogipdhipipfaa", sum := "8b6a1c42477d7f3bd210ea89441805b9103ab0b731b06b53755daec5090cab51", func := "loop.example/g01337/laws.FnExactTimidWithin", spec := "fnExactTimidWithin", unfollowed := true, recurses := true, apart := false }
def FnExactTimidWithinSaid : Prop := fnExactTimidWithinRow.holds Try.pinned (OpenSpec.ofChange fnExactTimidWithinSpec)

/-- ITS FALSE NEIGHBOUR: 'it returns false'. Refute it at one input. -/
def fnExactTimidWithinWrong : ChangeSpec := { name := "fnExactTimidWithin", fn := fun _ => fun
  | [d1, d2, d3] => { results := [.lit (.bool false)], args := [d1, d2, d3] }
  | _ => none }
def FnExactTimidWithinWrongFalsely : Prop := fnExactTimidWithinRow.holds Try.pinned (OpenSpec.ofChange fnExactTimidWithinWrong)

/-- 'laws.FnExactMostWithin': WHATEVER THE INPUT: true; the input reads as it did. -/
def fnExactMostWithinSpec : ChangeSpec := { name := "fnExactMostWithin", fn := fun _ => fun
  | [d1, d2, d3] => { results := [.lit (.bool true)], args := [d1, d2, d3] }
  | _ => none }
def fnExactMostWithinRow : OpenClaim := { program := "ytfogipdhipipfaa", sum := "8b6a1c42477d7f3bd210ea89441805b9103ab0b731b06b53755daec5090cab51", func := "loop.example/g01337/laws.FnExactMostWithin", spec := "fnExactMostWithin", unfollowed := true, recurses := true, apart := false }
def FnExactMostWithinSaid : Prop := fnExactMostWithinRow.holds Try.pinned (OpenSpec.ofChange fnExactMostWithinSpec)

/-- ITS FALSE NEIGHBOUR: 'it returns false'. Refute it at one input. -/
def fnExactMostWithinWrong : ChangeSpec := { name := "fnExactMostWithin", fn := fun _ => fun
  | [d1, d2, d3] => { results := [.lit (.bool false)], args := [d1, d2, d3] }
  | _ => none }
def FnExactMostWithinWrongFalsely : Prop := fnExactMostWithinRow.holds Try.pinned (OpenSpec.ofChange fnExactMostWithinWrong)

/-- 'laws.FnExactMeanPurse': WHATEVER THE INPUT: true; the input reads as it did. -/
def fnExactMeanPurseSpec : ChangeSpec := { name := "fnExactMeanPurse", fn := fun _ => fun
  | [d1, d2, d3] => { results := [.lit (.bool true)], args := [d1, d2, d3] }
  | _ => none }
def fnExactMeanPurseRow : OpenClaim := { program := "ytfogipdhipipfaa", sum := "8b6a1c42477d7f3bd210ea89441805b9103ab0b731b06b53755daec5090cab51", func := "loop.example/g01337/laws.FnExactMeanPurse", spec := "fnExactMeanPurse", apart := false }
def FnExactMeanPurseSaid : Prop := fnExactMeanPurseRow.holds Try.pinned (OpenSpec.ofChange fnExactMeanPurseSpec)

/-- ITS FALSE NEIGHBOUR: 'it returns false'. Refute it at one input. -/
def fnExactMeanPurseWrong : ChangeSpec := { name := "fnExactMeanPurse", fn := fun _ => fun
  | [d1, d2, d3] => { results := [.lit (.bool false)], args := [d1, d2, d3] }
  | _ => none }
def FnExactMeanPurseWrongFalsely : Prop := fnExactMeanPurseRow.holds Try.pinned (OpenSpec.ofChange fnExactMeanPurseWrong)

/-- 'laws.FnExactIsFairPlay': WHATEVER THE INPUT: true; the input reads as it did. -/
def fnExactIsFairPlaySpec : ChangeSpec := { name := "fnExactIsFairPlay", fn := fun _ => fun
  | [d1, d2, d3] => { results := [.lit (.bool true)], args := [d1, d2, d3] }
  | _ => none }
def fnExactIsFairPlayRow : OpenClaim := { program := "ytfogipdhipipfaa", sum := "8b6a1c42477d7f3bd210ea89441805b9103ab0b731b06b53755daec5090cab51", func := "loop.example/g01337/laws.FnExactIsFairPlay", spec := "fnExactIsFairPlay", apart := false }
def FnExactIsFairPlaySaid : Prop := fnExactIsFairPlayRow.holds Try.pinned (OpenSpec.ofChange fnExactIsFairPlaySpec)

/-- ITS FALSE NEIGHBOUR: 'it returns false'. Refute it at one input. -/
def fnExactIsFairPlayWrong : ChangeSpec := { name := "fnExactIsFairPlay", fn := fun _ => fun
  | [d1, d2, d3] => { results := [.lit (.bool false)], args := [d1, d2, d3] }
  | _ => none }
def FnExactIsFairPlayWrongFalsely : Prop := fnExactIsFairPlayRow.holds Try.pinned (OpenSpec.ofChange fnExactIsFairPlayWrong)

/-- 'laws.FnExactCountRuins': WHATEVER THE INPUT: true; the input reads as it did. -/
def fnExactCountRuinsSpec : ChangeSpec := { name := "fnExactCountRuins", fn := fun _ => fun
  | [d1, d2] => { results := [.lit (.bool true)], args := [d1, d2] }
  | _ => none }
def fnExactCountRuinsRow : OpenClaim := { program := "ytfogipdhipipfaa", sum := "8b6a1c42477d7f3bd210ea89441805b9103ab0b731b06b53755daec5090cab51", func := "loop.example/g01337/laws.FnExactCountRuins", spec := "fnExactCountRuins", apart := false }
def FnExactCountRuinsSaid : Prop := fnExactCountRuinsRow.holds Try.pinned (OpenSpec.ofChange fnExactCountRuinsSpec)

/-- ITS FALSE NEIGHBOUR: 'it returns false'. Refute it at one input. -/
def fnExactCountRuinsWrong : ChangeSpec := { name := "fnExactCountRuins", fn := fun _ => fun
  | [d1, d2] => { results := [.lit (.bool false)], args := [d1, d2] }
  | _ => none }
def FnExactCountRuinsWrongFalsely : Prop := fnExactCountRuinsRow.holds Try.pinned (OpenSpec.ofChange fnExactCountRuinsWrong)

/-- 'laws.FnExactCountGoals': WHATEVER THE INPUT: true; the input reads as it did. -/
def fnExactCountGoalsSpec : ChangeSpec := { name := "fnExactCountGoals", fn := fun _ => fun
  | [d1, d2] => { results := [.lit (.bool true)], args := [d1, d2] }
  | _ => none }
def fnExactCountGoalsRow : OpenClaim := { program := "ytfogipdhipipfaa", sum := "8b6a1c42477d7f3bd210ea89441805b9103ab0b731b06b53755daec5090cab51", func := "loop.example/g01337/laws.FnExactCountGoals", spec := "fnExactCountGoals", apart := false }
def FnExactCountGoalsSaid : Prop := fnExactCountGoalsRow.holds Try.pinned (OpenSpec.ofChange fnExactCountGoalsSpec)

/-- ITS FALSE NEIGHBOUR: 'it returns false'. Refute it at one input. -/
def fnExactCountGoalsWrong : ChangeSpec := { name := "fnExactCountGoals", fn := fun _ => fun
  | [d1, d2] => { results := [.lit (.bool false)], args := [d1, d2] }
  | _ => none }
def FnExactCountGoalsWrongFalsely : Prop := fnExactCountGoalsRow.holds Try.pinned (OpenSpec.ofChange fnExactCountGoalsWrong)

/- THE SECOND FORM. 'bulk': how many values and letters a reading holds, each counted each time it is reached (what is shared counts as often as it is met; a slice's spare places count too). A statement '..UptoSaid' is the law's where the arguments, and the package variables that the reading takes, are together of bulk at most 1048576: NARROWER than '..Said'. Prove '..Said' where nothing that the law and all that it calls make is longer than what came in: it says more and counts as full. Else prove '..UptoSaid'. A law counts once. -/
mutual
def uptoBulk {H : Type} : DataW H → Nat
  | .lit (.string bytes) => bytes.length + 1
  | .lit _ => 1
  | .nil => 1
  | .ptr d => uptoBulk d + 1
  | .slice elems spare => uptoBulkAll elems + uptoBulkAll spare + 1
  | .agg parts => uptoBulkAll parts + 1
  | .iface _ d => uptoBulk d + 1
  | .map entries => uptoBulkEntries entries + 1
  | .held _ => 1
def uptoBulkAll {H : Type} : List (DataW H) → Nat
  | [] => 0
  | d :: r => uptoBulk d + uptoBulkAll r
def uptoBulkEntries {H : Type} : List (Lit × DataW H) → Nat
  | [] => 0
  | x :: r => uptoBulkEntry x + uptoBulkEntries r
def uptoBulkEntry {H : Type} : Lit × DataW H → Nat
  | (.string bytes, d) => bytes.length + uptoBulk d + 1
  | (_, d) => uptoBulk d + 1
 end
def uptoSmall : (H : Type) → List (DataW H) → Bool := fun _ ds => decide (uptoBulkAll ds ≤ 1048576)
def OpenSpec.upto (s : _root_.Go.ChangeSpec) : _root_.Go.OpenSpec := { _root_.Go.OpenSpec.ofChange s with cond := some uptoSmall }

/-- 'laws.FnExactAreStakes', WHERE WHAT IT READS IS OF BULK AT MOST 1048576: true; the input reads as it did. -/
def fnExactAreStakesUptoRow : OpenClaim := { program := "ytfogipdhipipfaa", sum := "8b6a1c42477d7f3bd210ea89441805b9103ab0b731b06b53755daec5090cab51", func := "loop.example/g01337/laws.FnExactAreStakes", spec := "fnExactAreStakes", apart := false, narrowed := true }
def FnExactAreStakesUptoSaid : Prop := fnExactAreStakesUptoRow.holds Try.pinned (OpenSpec.upto fnExactAreStakesSpec)

/-- 'laws.FnExactChanceOfGoal', WHERE WHAT IT READS IS OF BULK AT MOST 1048576: true; the input reads as it did. -/
def fnExactChanceOfGoalUptoRow : OpenClaim := { program := "ytfogipdhipipfaa", sum := "8b6a1c42477d7f3bd210ea89441805b9103ab0b731b06b53755daec5090cab51", func := "loop.example/g01337/laws.FnExactChanceOfGoal", spec := "fnExactChanceOfGoal", apart := false, narrowed := true }
def FnExactChanceOfGoalUptoSaid : Prop := fnExactChanceOfGoalUptoRow.holds Try.pinned (OpenSpec.upto fnExactChanceOfGoalSpec)

/-- 'laws.FnExactChanceOfRuin', WHERE WHAT IT READS IS OF BULK AT MOST 1048576: true; the input reads as it did. -/
def fnExactChanceOfRuinUptoRow : OpenClaim := { program := "ytfogipdhipipfaa", sum := "8b6a1c42477d7f3bd210ea89441805b9103ab0b731b06b53755daec5090cab51", func := "loop.example/g01337/laws.FnExactChanceOfRuin", spec := "fnExactChanceOfRuin", apart := false, narrowed := true }
def FnExactChanceOfRuinUptoSaid : Prop := fnExactChanceOfRuinUptoRow.holds Try.pinned (OpenSpec.upto fnExactChanceOfRuinSpec)

/-- 'laws.FnExactMeanPlays', WHERE WHAT IT READS IS OF BULK AT MOST 1048576: true; the input reads as it did. -/
def fnExactMeanPlaysUptoRow : OpenClaim := { program := "ytfogipdhipipfaa", sum := "8b6a1c42477d7f3bd210ea89441805b9103ab0b731b06b53755daec5090cab51", func := "loop.example/g01337/laws.FnExactMeanPlays", spec := "fnExactMeanPlays", apart := false, narrowed := true }
def FnExactMeanPlaysUptoSaid : Prop := fnExactMeanPlaysUptoRow.holds Try.pinned (OpenSpec.upto fnExactMeanPlaysSpec)

/-- 'laws.FnExactBoldStake', WHERE WHAT IT READS IS OF BULK AT MOST 1048576: true; the input reads as it did. -/
def fnExactBoldStakeUptoRow : OpenClaim := { program := "ytfogipdhipipfaa", sum := "8b6a1c42477d7f3bd210ea89441805b9103ab0b731b06b53755daec5090cab51", func := "loop.example/g01337/laws.FnExactBoldStake", spec := "fnExactBoldStake", apart := false, narrowed := true }
def FnExactBoldStakeUptoSaid : Prop := fnExactBoldStakeUptoRow.holds Try.pinned (OpenSpec.upto fnExactBoldStakeSpec)

/-- 'laws.FnExactBoldWithin', WHERE WHAT IT READS IS OF BULK AT MOST 1048576: true; the input reads as it did. -/
def fnExactBoldWithinUptoRow : OpenClaim := { program := "ytfogipdhipipfaa", sum := "8b6a1c42477d7f3bd210ea89441805b9103ab0b731b06b53755daec5090cab51", func := "loop.example/g01337/laws.FnExactBoldWithin", spec := "fnExactBoldWithin", unfollowed := true, recurses := true, apart := false, narrowed := true }
def FnExactBoldWithinUptoSaid : Prop := fnExactBoldWithinUptoRow.holds Try.pinned (OpenSpec.upto fnExactBoldWithinSpec)

/-- 'laws.FnExactTimidWithin', WHERE WHAT IT READS IS OF BULK AT MOST 1048576: true; the input reads as it did. -/
def fnExactTimidWithinUptoRow : OpenClaim := { program := "ytfogipdhipipfaa", sum := "8b6a1c42477d7f3bd210ea89441805b9103ab0b731b06b53755daec5090cab51", func := "loop.example/g01337/laws.FnExactTimidWithin", spec := "fnExactTimidWithin", unfollowed := true, recurses := true, apart := false, narrowed := true }
def FnExactTimidWithinUptoSaid : Prop := fnExactTimidWithinUptoRow.holds Try.pinned (OpenSpec.upto fnExactTimidWithinSpec)

/-- 'laws.FnExactMostWithin', WHERE WHAT IT READS IS OF BULK AT MOST 1048576: true; the input reads as it did. -/
def fnExactMostWithinUptoRow : OpenClaim := { program := "ytfogipdhipipfaa", sum := "8b6a1c42477d7f3bd210ea89441805b9103ab0b731b06b53755daec5090cab51", func := "loop.example/g01337/laws.FnExactMostWithin", spec := "fnExactMostWithin", unfollowed := true, recurses := true, apart := false, narrowed := true }
def FnExactMostWithinUptoSaid : Prop := fnExactMostWithinUptoRow.holds Try.pinned (OpenSpec.upto fnExactMostWithinSpec)

/-- 'laws.FnExactMeanPurse', WHERE WHAT IT READS IS OF BULK AT MOST 1048576: true; the input reads as it did. -/
def fnExactMeanPurseUptoRow : OpenClaim := { program := "ytfogipdhipipfaa", sum := "8b6a1c42477d7f3bd210ea89441805b9103ab0b731b06b53755daec5090cab51", func := "loop.example/g01337/laws.FnExactMeanPurse", spec := "fnExactMeanPurse", apart := false, narrowed := true }
def FnExactMeanPurseUptoSaid : Prop := fnExactMeanPurseUptoRow.holds Try.pinned (OpenSpec.upto fnExactMeanPurseSpec)

/-- 'laws.FnExactIsFairPlay', WHERE WHAT IT READS IS OF BULK AT MOST 1048576: true; the input reads as it did. -/
def fnExactIsFairPlayUptoRow : OpenClaim := { program := "ytfogipdhipipfaa", sum := "8b6a1c42477d7f3bd210ea89441805b9103ab0b731b06b53755daec5090cab51", func := "loop.example/g01337/laws.FnExactIsFairPlay", spec := "fnExactIsFairPlay", apart := false, narrowed := true }
def FnExactIsFairPlayUptoSaid : Prop := fnExactIsFairPlayUptoRow.holds Try.pinned (OpenSpec.upto fnExactIsFairPlaySpec)

/-- 'laws.FnExactCountRuins', WHERE WHAT IT READS IS OF BULK AT MOST 1048576: true; the input reads as it did. -/
def fnExactCountRuinsUptoRow : OpenClaim := { program := "ytfogipdhipipfaa", sum := "8b6a1c42477d7f3bd210ea89441805b9103ab0b731b06b53755daec5090cab51", func := "loop.example/g01337/laws.FnExactCountRuins", spec := "fnExactCountRuins", apart := false, narrowed := true }
def FnExactCountRuinsUptoSaid : Prop := fnExactCountRuinsUptoRow.holds Try.pinned (OpenSpec.upto fnExactCountRuinsSpec)

/-- 'laws.FnExactCountGoals', WHERE WHAT IT READS IS OF BULK AT MOST 1048576: true; the input reads as it did. -/
def fnExactCountGoalsUptoRow : OpenClaim := { program := "ytfogipdhipipfaa", sum := "8b6a1c42477d7f3bd210ea89441805b9103ab0b731b06b53755daec5090cab51", func := "loop.example/g01337/laws.FnExactCountGoals", spec := "fnExactCountGoals", apart := false, narrowed := true }
def FnExactCountGoalsUptoSaid : Prop := fnExactCountGoalsUptoRow.holds Try.pinned (OpenSpec.upto fnExactCountGoalsSpec)

end Rows
end Go.Proofs.Ytfogipdhipipfaa
