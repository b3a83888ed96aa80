/-
  No cell of these rows narrows 'for every input' (looked for: loops, veiled, ifaces, maps, wideKeys, modest, calm, conditions, laid).
  DERIVED. THE GIVEN ROWS OF THIS SEAT. 17 by the template 'for every input the law returns true; each argument reads behind the call as it read before'; 0 by the template 'total and deterministic' (their statements: YthnjkjdfdhdcfaaTotals.lean).
  GIVEN WITH THE SEED: the statements are not yours to turn. If you find one false, say at which input.
  Laid BY PROGRAM, IN A SANDBOX (cutbox-rows.mjs): the forced cells as the released guide's own fill.sh prints them over the translation 95a148837996cd26… (all of the seat's roots in one cut). By AI agents, Wed Nov 11 2026. No macro, syntax, notation, axiom, sorry.
-/
import Derived.Test.YthnjkjdfdhdcfaaChecked
import GoSem.Claim
import GoSem.ClaimJoined
import GoSem.ClaimMapViews
import Derived.JoinedTies
import Derived.KernelRfl
namespace Go.Proofs.Ythnjkjdfdhdcfaa
/- THE CELL 'sum', in the pinned program and in every row, IS THE sha256 OF THE DUMP (.gsa) THAT YthnjkjdfdhdcfaaProg.lean LOADS. Nothing in Lean hashes anything: it is a label: what it is worth is what the hold of that sum in a sandbox is worth. -/
noncomputable def Try.pinned : Pinned := { name := "ythnjkjdfdhdcfaa", sum := "95a148837996cd26d196c58d0305d2b57fec2ee77d37ec22ace6fa62845b0211", checked := Try.checked }
namespace Rows
def none {H : Type} : Left H := { results := [], args := [] }

/-- 'laws.FnExactAreStates': WHATEVER THE INPUT: true; the input reads as it did. -/
def fnExactAreStatesSpec : ChangeSpec := { name := "fnExactAreStates", fn := fun _ => fun
  | [d] => { results := [.lit (.bool true)], args := [d] }
  | _ => none }
def fnExactAreStatesRow : OpenClaim := { program := "ythnjkjdfdhdcfaa", sum := "95a148837996cd26d196c58d0305d2b57fec2ee77d37ec22ace6fa62845b0211", func := "loop.example/g01337/laws.FnExactAreStates", spec := "fnExactAreStates", apart := false }
def FnExactAreStatesSaid : Prop := fnExactAreStatesRow.holds Try.pinned (OpenSpec.ofChange fnExactAreStatesSpec)

/-- ITS FALSE NEIGHBOUR: 'it returns false'. Refute it at one input. -/
def fnExactAreStatesWrong : ChangeSpec := { name := "fnExactAreStates", fn := fun _ => fun
  | [d] => { results := [.lit (.bool false)], args := [d] }
  | _ => none }
def FnExactAreStatesWrongFalsely : Prop := fnExactAreStatesRow.holds Try.pinned (OpenSpec.ofChange fnExactAreStatesWrong)

/-- 'laws.FnExactChanceOfStep': WHATEVER THE INPUT: true; the input reads as it did. -/
def fnExactChanceOfStepSpec : ChangeSpec := { name := "fnExactChanceOfStep", fn := fun _ => fun
  | [d1, d2, d3] => { results := [.lit (.bool true)], args := [d1, d2, d3] }
  | _ => none }
def fnExactChanceOfStepRow : OpenClaim := { program := "ythnjkjdfdhdcfaa", sum := "95a148837996cd26d196c58d0305d2b57fec2ee77d37ec22ace6fa62845b0211", func := "loop.example/g01337/laws.FnExactChanceOfStep", spec := "fnExactChanceOfStep", apart := false }
def FnExactChanceOfStepSaid : Prop := fnExactChanceOfStepRow.holds Try.pinned (OpenSpec.ofChange fnExactChanceOfStepSpec)

/-- ITS FALSE NEIGHBOUR: 'it returns false'. Refute it at one input. -/
def fnExactChanceOfStepWrong : ChangeSpec := { name := "fnExactChanceOfStep", fn := fun _ => fun
  | [d1, d2, d3] => { results := [.lit (.bool false)], args := [d1, d2, d3] }
  | _ => none }
def FnExactChanceOfStepWrongFalsely : Prop := fnExactChanceOfStepRow.holds Try.pinned (OpenSpec.ofChange fnExactChanceOfStepWrong)

/-- 'laws.FnExactStatesAfter': WHATEVER THE INPUT: true; the input reads as it did. -/
def fnExactStatesAfterSpec : ChangeSpec := { name := "fnExactStatesAfter", fn := fun _ => fun
  | [d1, d2, d3] => { results := [.lit (.bool true)], args := [d1, d2, d3] }
  | _ => none }
def fnExactStatesAfterRow : OpenClaim := { program := "ythnjkjdfdhdcfaa", sum := "95a148837996cd26d196c58d0305d2b57fec2ee77d37ec22ace6fa62845b0211", func := "loop.example/g01337/laws.FnExactStatesAfter", spec := "fnExactStatesAfter", apart := false }
def FnExactStatesAfterSaid : Prop := fnExactStatesAfterRow.holds Try.pinned (OpenSpec.ofChange fnExactStatesAfterSpec)

/-- ITS FALSE NEIGHBOUR: 'it returns false'. Refute it at one input. -/
def fnExactStatesAfterWrong : ChangeSpec := { name := "fnExactStatesAfter", fn := fun _ => fun
  | [d1, d2, d3] => { results := [.lit (.bool false)], args := [d1, d2, d3] }
  | _ => none }
def FnExactStatesAfterWrongFalsely : Prop := fnExactStatesAfterRow.holds Try.pinned (OpenSpec.ofChange fnExactStatesAfterWrong)

/-- 'laws.FnExactReachedStates': WHATEVER THE INPUT: true; the input reads as it did. -/
def fnExactReachedStatesSpec : ChangeSpec := { name := "fnExactReachedStates", fn := fun _ => fun
  | [d1, d2] => { results := [.lit (.bool true)], args := [d1, d2] }
  | _ => none }
def fnExactReachedStatesRow : OpenClaim := { program := "ythnjkjdfdhdcfaa", sum := "95a148837996cd26d196c58d0305d2b57fec2ee77d37ec22ace6fa62845b0211", func := "loop.example/g01337/laws.FnExactReachedStates", spec := "fnExactReachedStates", apart := false }
def FnExactReachedStatesSaid : Prop := fnExactReachedStatesRow.holds Try.pinned (OpenSpec.ofChange fnExactReachedStatesSpec)

/-- ITS FALSE NEIGHBOUR: 'it returns false'. Refute it at one input. -/
def fnExactReachedStatesWrong : ChangeSpec := { name := "fnExactReachedStates", fn := fun _ => fun
  | [d1, d2] => { results := [.lit (.bool false)], args := [d1, d2] }
  | _ => none }
def FnExactReachedStatesWrongFalsely : Prop := fnExactReachedStatesRow.holds Try.pinned (OpenSpec.ofChange fnExactReachedStatesWrong)

/-- 'laws.FnExactStateClasses': WHATEVER THE INPUT: true; the input reads as it did. -/
def fnExactStateClassesSpec : ChangeSpec := { name := "fnExactStateClasses", fn := fun _ => fun
  | [d] => { results := [.lit (.bool true)], args := [d] }
  | _ => none }
def fnExactStateClassesRow : OpenClaim := { program := "ythnjkjdfdhdcfaa", sum := "95a148837996cd26d196c58d0305d2b57fec2ee77d37ec22ace6fa62845b0211", func := "loop.example/g01337/laws.FnExactStateClasses", spec := "fnExactStateClasses", apart := false }
def FnExactStateClassesSaid : Prop := fnExactStateClassesRow.holds Try.pinned (OpenSpec.ofChange fnExactStateClassesSpec)

/-- ITS FALSE NEIGHBOUR: 'it returns false'. Refute it at one input. -/
def fnExactStateClassesWrong : ChangeSpec := { name := "fnExactStateClasses", fn := fun _ => fun
  | [d] => { results := [.lit (.bool false)], args := [d] }
  | _ => none }
def FnExactStateClassesWrongFalsely : Prop := fnExactStateClassesRow.holds Try.pinned (OpenSpec.ofChange fnExactStateClassesWrong)

/-- 'laws.FnExactIsOneClass': WHATEVER THE INPUT: true; the input reads as it did. -/
def fnExactIsOneClassSpec : ChangeSpec := { name := "fnExactIsOneClass", fn := fun _ => fun
  | [d] => { results := [.lit (.bool true)], args := [d] }
  | _ => none }
def fnExactIsOneClassRow : OpenClaim := { program := "ythnjkjdfdhdcfaa", sum := "95a148837996cd26d196c58d0305d2b57fec2ee77d37ec22ace6fa62845b0211", func := "loop.example/g01337/laws.FnExactIsOneClass", spec := "fnExactIsOneClass", apart := false }
def FnExactIsOneClassSaid : Prop := fnExactIsOneClassRow.holds Try.pinned (OpenSpec.ofChange fnExactIsOneClassSpec)

/-- ITS FALSE NEIGHBOUR: 'it returns false'. Refute it at one input. -/
def fnExactIsOneClassWrong : ChangeSpec := { name := "fnExactIsOneClass", fn := fun _ => fun
  | [d] => { results := [.lit (.bool false)], args := [d] }
  | _ => none }
def FnExactIsOneClassWrongFalsely : Prop := fnExactIsOneClassRow.holds Try.pinned (OpenSpec.ofChange fnExactIsOneClassWrong)

/-- 'laws.FnExactLastingStates': WHATEVER THE INPUT: true; the input reads as it did. -/
def fnExactLastingStatesSpec : ChangeSpec := { name := "fnExactLastingStates", fn := fun _ => fun
  | [d] => { results := [.lit (.bool true)], args := [d] }
  | _ => none }
def fnExactLastingStatesRow : OpenClaim := { program := "ythnjkjdfdhdcfaa", sum := "95a148837996cd26d196c58d0305d2b57fec2ee77d37ec22ace6fa62845b0211", func := "loop.example/g01337/laws.FnExactLastingStates", spec := "fnExactLastingStates", apart := false }
def FnExactLastingStatesSaid : Prop := fnExactLastingStatesRow.holds Try.pinned (OpenSpec.ofChange fnExactLastingStatesSpec)

/-- ITS FALSE NEIGHBOUR: 'it returns false'. Refute it at one input. -/
def fnExactLastingStatesWrong : ChangeSpec := { name := "fnExactLastingStates", fn := fun _ => fun
  | [d] => { results := [.lit (.bool false)], args := [d] }
  | _ => none }
def FnExactLastingStatesWrongFalsely : Prop := fnExactLastingStatesRow.holds Try.pinned (OpenSpec.ofChange fnExactLastingStatesWrong)

/-- 'laws.FnExactEndStates': WHATEVER THE INPUT: true; the input reads as it did. -/
def fnExactEndStatesSpec : ChangeSpec := { name := "fnExactEndStates", fn := fun _ => fun
  | [d] => { results := [.lit (.bool true)], args := [d] }
  | _ => none }
def fnExactEndStatesRow : OpenClaim := { program := "ythnjkjdfdhdcfaa", sum := "95a148837996cd26d196c58d0305d2b57fec2ee77d37ec22ace6fa62845b0211", func := "loop.example/g01337/laws.FnExactEndStates", spec := "fnExactEndStates", apart := false }
def FnExactEndStatesSaid : Prop := fnExactEndStatesRow.holds Try.pinned (OpenSpec.ofChange fnExactEndStatesSpec)

/-- ITS FALSE NEIGHBOUR: 'it returns false'. Refute it at one input. -/
def fnExactEndStatesWrong : ChangeSpec := { name := "fnExactEndStates", fn := fun _ => fun
  | [d] => { results := [.lit (.bool false)], args := [d] }
  | _ => none }
def FnExactEndStatesWrongFalsely : Prop := fnExactEndStatesRow.holds Try.pinned (OpenSpec.ofChange fnExactEndStatesWrong)

/-- 'laws.FnExactPeriodOfState': WHATEVER THE INPUT: true; the input reads as it did. -/
def fnExactPeriodOfStateSpec : ChangeSpec := { name := "fnExactPeriodOfState", fn := fun _ => fun
  | [d1, d2] => { results := [.lit (.bool true)], args := [d1, d2] }
  | _ => none }
def fnExactPeriodOfStateRow : OpenClaim := { program := "ythnjkjdfdhdcfaa", sum := "95a148837996cd26d196c58d0305d2b57fec2ee77d37ec22ace6fa62845b0211", func := "loop.example/g01337/laws.FnExactPeriodOfState", spec := "fnExactPeriodOfState", apart := false }
def FnExactPeriodOfStateSaid : Prop := fnExactPeriodOfStateRow.holds Try.pinned (OpenSpec.ofChange fnExactPeriodOfStateSpec)

/-- ITS FALSE NEIGHBOUR: 'it returns false'. Refute it at one input. -/
def fnExactPeriodOfStateWrong : ChangeSpec := { name := "fnExactPeriodOfState", fn := fun _ => fun
  | [d1, d2] => { results := [.lit (.bool false)], args := [d1, d2] }
  | _ => none }
def FnExactPeriodOfStateWrongFalsely : Prop := fnExactPeriodOfStateRow.holds Try.pinned (OpenSpec.ofChange fnExactPeriodOfStateWrong)

/-- 'laws.FnExactMeanUntilState': WHATEVER THE INPUT: true; the input reads as it did. -/
def fnExactMeanUntilStateSpec : ChangeSpec := { name := "fnExactMeanUntilState", fn := fun _ => fun
  | [d1, d2, d3] => { results := [.lit (.bool true)], args := [d1, d2, d3] }
  | _ => none }
def fnExactMeanUntilStateRow : OpenClaim := { program := "ythnjkjdfdhdcfaa", sum := "95a148837996cd26d196c58d0305d2b57fec2ee77d37ec22ace6fa62845b0211", func := "loop.example/g01337/laws.FnExactMeanUntilState", spec := "fnExactMeanUntilState", recurses := true, apart := false }
def FnExactMeanUntilStateSaid : Prop := fnExactMeanUntilStateRow.holds Try.pinned (OpenSpec.ofChange fnExactMeanUntilStateSpec)

/-- ITS FALSE NEIGHBOUR: 'it returns false'. Refute it at one input. -/
def fnExactMeanUntilStateWrong : ChangeSpec := { name := "fnExactMeanUntilState", fn := fun _ => fun
  | [d1, d2, d3] => { results := [.lit (.bool false)], args := [d1, d2, d3] }
  | _ => none }
def FnExactMeanUntilStateWrongFalsely : Prop := fnExactMeanUntilStateRow.holds Try.pinned (OpenSpec.ofChange fnExactMeanUntilStateWrong)

/-- 'laws.FnExactChanceToVisit': WHATEVER THE INPUT: true; the input reads as it did. -/
def fnExactChanceToVisitSpec : ChangeSpec := { name := "fnExactChanceToVisit", fn := fun _ => fun
  | [d1, d2, d3] => { results := [.lit (.bool true)], args := [d1, d2, d3] }
  | _ => none }
def fnExactChanceToVisitRow : OpenClaim := { program := "ythnjkjdfdhdcfaa", sum := "95a148837996cd26d196c58d0305d2b57fec2ee77d37ec22ace6fa62845b0211", func := "loop.example/g01337/laws.FnExactChanceToVisit", spec := "fnExactChanceToVisit", recurses := true, apart := false }
def FnExactChanceToVisitSaid : Prop := fnExactChanceToVisitRow.holds Try.pinned (OpenSpec.ofChange fnExactChanceToVisitSpec)

/-- ITS FALSE NEIGHBOUR: 'it returns false'. Refute it at one input. -/
def fnExactChanceToVisitWrong : ChangeSpec := { name := "fnExactChanceToVisit", fn := fun _ => fun
  | [d1, d2, d3] => { results := [.lit (.bool false)], args := [d1, d2, d3] }
  | _ => none }
def FnExactChanceToVisitWrongFalsely : Prop := fnExactChanceToVisitRow.holds Try.pinned (OpenSpec.ofChange fnExactChanceToVisitWrong)

/-- 'laws.FnExactChanceToEnd': WHATEVER THE INPUT: true; the input reads as it did. -/
def fnExactChanceToEndSpec : ChangeSpec := { name := "fnExactChanceToEnd", fn := fun _ => fun
  | [d1, d2, d3] => { results := [.lit (.bool true)], args := [d1, d2, d3] }
  | _ => none }
def fnExactChanceToEndRow : OpenClaim := { program := "ythnjkjdfdhdcfaa", sum := "95a148837996cd26d196c58d0305d2b57fec2ee77d37ec22ace6fa62845b0211", func := "loop.example/g01337/laws.FnExactChanceToEnd", spec := "fnExactChanceToEnd", recurses := true, apart := false }
def FnExactChanceToEndSaid : Prop := fnExactChanceToEndRow.holds Try.pinned (OpenSpec.ofChange fnExactChanceToEndSpec)

/-- ITS FALSE NEIGHBOUR: 'it returns false'. Refute it at one input. -/
def fnExactChanceToEndWrong : ChangeSpec := { name := "fnExactChanceToEnd", fn := fun _ => fun
  | [d1, d2, d3] => { results := [.lit (.bool false)], args := [d1, d2, d3] }
  | _ => none }
def FnExactChanceToEndWrongFalsely : Prop := fnExactChanceToEndRow.holds Try.pinned (OpenSpec.ofChange fnExactChanceToEndWrong)

/-- 'laws.FnExactSharesOfStates': WHATEVER THE INPUT: true; the input reads as it did. -/
def fnExactSharesOfStatesSpec : ChangeSpec := { name := "fnExactSharesOfStates", fn := fun _ => fun
  | [d] => { results := [.lit (.bool true)], args := [d] }
  | _ => none }
def fnExactSharesOfStatesRow : OpenClaim := { program := "ythnjkjdfdhdcfaa", sum := "95a148837996cd26d196c58d0305d2b57fec2ee77d37ec22ace6fa62845b0211", func := "loop.example/g01337/laws.FnExactSharesOfStates", spec := "fnExactSharesOfStates", recurses := true, apart := false }
def FnExactSharesOfStatesSaid : Prop := fnExactSharesOfStatesRow.holds Try.pinned (OpenSpec.ofChange fnExactSharesOfStatesSpec)

/-- ITS FALSE NEIGHBOUR: 'it returns false'. Refute it at one input. -/
def fnExactSharesOfStatesWrong : ChangeSpec := { name := "fnExactSharesOfStates", fn := fun _ => fun
  | [d] => { results := [.lit (.bool false)], args := [d] }
  | _ => none }
def FnExactSharesOfStatesWrongFalsely : Prop := fnExactSharesOfStatesRow.holds Try.pinned (OpenSpec.ofChange fnExactSharesOfStatesWrong)

/-- 'laws.FnExactCountWays': WHATEVER THE INPUT: true; the input reads as it did. -/
def fnExactCountWaysSpec : ChangeSpec := { name := "fnExactCountWays", fn := fun _ => fun
  | [d1, d2, d3, d4] => { results := [.lit (.bool true)], args := [d1, d2, d3, d4] }
  | _ => none }
def fnExactCountWaysRow : OpenClaim := { program := "ythnjkjdfdhdcfaa", sum := "95a148837996cd26d196c58d0305d2b57fec2ee77d37ec22ace6fa62845b0211", func := "loop.example/g01337/laws.FnExactCountWays", spec := "fnExactCountWays", apart := false }
def FnExactCountWaysSaid : Prop := fnExactCountWaysRow.holds Try.pinned (OpenSpec.ofChange fnExactCountWaysSpec)

/-- ITS FALSE NEIGHBOUR: 'it returns false'. Refute it at one input. -/
def fnExactCountWaysWrong : ChangeSpec := { name := "fnExactCountWays", fn := fun _ => fun
  | [d1, d2, d3, d4] => { results := [.lit (.bool false)], args := [d1, d2, d3, d4] }
  | _ => none }
def FnExactCountWaysWrongFalsely : Prop := fnExactCountWaysRow.holds Try.pinned (OpenSpec.ofChange fnExactCountWaysWrong)

/-- 'laws.FnExactFirstWay': WHATEVER THE INPUT: true; the input reads as it did. -/
def fnExactFirstWaySpec : ChangeSpec := { name := "fnExactFirstWay", fn := fun _ => fun
  | [d1, d2, d3] => { results := [.lit (.bool true)], args := [d1, d2, d3] }
  | _ => none }
def fnExactFirstWayRow : OpenClaim := { program := "ythnjkjdfdhdcfaa", sum := "95a148837996cd26d196c58d0305d2b57fec2ee77d37ec22ace6fa62845b0211", func := "loop.example/g01337/laws.FnExactFirstWay", spec := "fnExactFirstWay", apart := false }
def FnExactFirstWaySaid : Prop := fnExactFirstWayRow.holds Try.pinned (OpenSpec.ofChange fnExactFirstWaySpec)

/-- ITS FALSE NEIGHBOUR: 'it returns false'. Refute it at one input. -/
def fnExactFirstWayWrong : ChangeSpec := { name := "fnExactFirstWay", fn := fun _ => fun
  | [d1, d2, d3] => { results := [.lit (.bool false)], args := [d1, d2, d3] }
  | _ => none }
def FnExactFirstWayWrongFalsely : Prop := fnExactFirstWayRow.holds Try.pinned (OpenSpec.ofChange fnExactFirstWayWrong)

/-- 'laws.FnExactRenameStates': WHATEVER THE INPUT: true; the input reads as it did. -/
def fnExactRenameStatesSpec : ChangeSpec := { name := "fnExactRenameStates", fn := fun _ => fun
  | [d1, d2] => { results := [.lit (.bool true)], args := [d1, d2] }
  | _ => none }
def fnExactRenameStatesRow : OpenClaim := { program := "ythnjkjdfdhdcfaa", sum := "95a148837996cd26d196c58d0305d2b57fec2ee77d37ec22ace6fa62845b0211", func := "loop.example/g01337/laws.FnExactRenameStates", spec := "fnExactRenameStates", apart := false }
def FnExactRenameStatesSaid : Prop := fnExactRenameStatesRow.holds Try.pinned (OpenSpec.ofChange fnExactRenameStatesSpec)

/-- ITS FALSE NEIGHBOUR: 'it returns false'. Refute it at one input. -/
def fnExactRenameStatesWrong : ChangeSpec := { name := "fnExactRenameStates", fn := fun _ => fun
  | [d1, d2] => { results := [.lit (.bool false)], args := [d1, d2] }
  | _ => none }
def FnExactRenameStatesWrongFalsely : Prop := fnExactRenameStatesRow.holds Try.pinned (OpenSpec.ofChange fnExactRenameStatesWrong)

/-- 'laws.FnExactStatesOfChain': WHATEVER THE INPUT: true; the input reads as it did. -/
def fnExactStatesOfChainSpec : ChangeSpec := { name := "fnExactStatesOfChain", fn := fun _ => fun
  | [d] => { results := [.lit (.bool true)], args := [d] }
  | _ => none }
def fnExactStatesOfChainRow : OpenClaim := { program := "ythnjkjdfdhdcfaa", sum := "95a148837996cd26d196c58d0305d2b57fec2ee77d37ec22ace6fa62845b0211", func := "loop.example/g01337/laws.FnExactStatesOfChain", spec := "fnExactStatesOfChain", unfollowed := true, recurses := true, apart := false }
def FnExactStatesOfChainSaid : Prop := fnExactStatesOfChainRow.holds Try.pinned (OpenSpec.ofChange fnExactStatesOfChainSpec)

/-- ITS FALSE NEIGHBOUR: 'it returns false'. Refute it at one input. -/
def fnExactStatesOfChainWrong : ChangeSpec := { name := "fnExactStatesOfChain", fn := fun _ => fun
  | [d] => { results := [.lit (.bool false)], args := [d] }
  | _ => none }
def FnExactStatesOfChainWrongFalsely : Prop := fnExactStatesOfChainRow.holds Try.pinned (OpenSpec.ofChange fnExactStatesOfChainWrong)

/- THE SECOND FORM. 'bulk': how many values and letters a reading holds, each counted each time it is reached (what is shared counts as often as it is met; a slice's spare places count too). A statement '..UptoSaid' is the law's where the arguments, and the package variables that the reading takes, are together of bulk at most 1048576: NARROWER than '..Said'. Prove '..Said' where nothing that the law and all that it calls make is longer than what came in: it says more and counts as full. Else prove '..UptoSaid'. A law counts once. -/
mutual
def uptoBulk {H : Type} : DataW H → Nat
  | .lit (.string bytes) => bytes.length + 1
  | .lit _ => 1
  | .nil => 1
  | .ptr d => uptoBulk d + 1
  | .slice elems spare => uptoBulkAll elems + uptoBulkAll spare + 1
  | .agg parts => uptoBulkAll parts + 1
  | .iface _ d => uptoBulk d + 1
  | .map entries => uptoBulkEntries entries + 1
  | .held _ => 1
def uptoBulkAll {H : Type} : List (DataW H) → Nat
  | [] => 0
  | d :: r => uptoBulk d + uptoBulkAll r
def uptoBulkEntries {H : Type} : List (Lit × DataW H) → Nat
  | [] => 0
  | x :: r => uptoBulkEntry x + uptoBulkEntries r
def uptoBulkEntry {H : Type} : Lit × DataW H → Nat
  | (.string bytes, d) => bytes.length + uptoBulk d + 1
  | (_, d) => uptoBulk d + 1
 end
def uptoSmall : (H : Type) → List (DataW H) → Bool := fun _ ds => decide (uptoBulkAll ds ≤ 1048576)
def OpenSpec.upto (s : _root_.Go.ChangeSpec) : _root_.Go.OpenSpec := { _root_.Go.OpenSpec.ofChange s with cond := some uptoSmall }

/-- 'laws.FnExactAreStates', WHERE WHAT IT READS IS OF BULK AT MOST 1048576: true; the input reads as it did. -/
def fnExactAreStatesUptoRow : OpenClaim := { program := "ythnjkjdfdhdcfaa", sum := "95a148837996cd26d196c58d0305d2b57fec2ee77d37ec22ace6fa62845b0211", func := "loop.example/g01337/laws.FnExactAreStates", spec := "fnExactAreStates", apart := false, narrowed := true }
def FnExactAreStatesUptoSaid : Prop := fnExactAreStatesUptoRow.holds Try.pinned (OpenSpec.upto fnExactAreStatesSpec)

/-- 'laws.FnExactChanceOfStep', WHERE WHAT IT READS IS OF BULK AT MOST 1048576: true; the input reads as it did. -/
def fnExactChanceOfStepUptoRow : OpenClaim := { program := "ythnjkjdfdhdcfaa", sum := "95a148837996cd26d196c58d0305d2b57fec2ee77d37ec22ace6fa62845b0211", func := "loop.example/g01337/laws.FnExactChanceOfStep", spec := "fnExactChanceOfStep", apart := false, narrowed := true }
def FnExactChanceOfStepUptoSaid : Prop := fnExactChanceOfStepUptoRow.holds Try.pinned (OpenSpec.upto fnExactChanceOfStepSpec)

/-- 'laws.FnExactStatesAfter', WHERE WHAT IT READS IS OF BULK AT MOST 1048576: true; the input reads as it did. -/
def fnExactStatesAfterUptoRow : OpenClaim := { program := "ythnjkjdfdhdcfaa", sum := "95a148837996cd26d196c58d0305d2b57fec2ee77d37ec22ace6fa62845b0211", func := "loop.example/g01337/laws.FnExactStatesAfter", spec := "fnExactStatesAfter", apart := false, narrowed := true }
def FnExactStatesAfterUptoSaid : Prop := fnExactStatesAfterUptoRow.holds Try.pinned (OpenSpec.upto fnExactStatesAfterSpec)

/-- 'laws.FnExactReachedStates', WHERE WHAT IT READS IS OF BULK AT MOST 1048576: true; the input reads as it did. -/
def fnExactReachedStatesUptoRow : OpenClaim := { program := "ythnjkjdfdhdcfaa", sum := "95a148837996cd26d196c58d0305d2b57fec2ee77d37ec22ace6fa62845b0211", func := "loop.example/g01337/laws.FnExactReachedStates", spec := "fnExactReachedStates", apart := false, narrowed := true }
def FnExactReachedStatesUptoSaid : Prop := fnExactReachedStatesUptoRow.holds Try.pinned (OpenSpec.upto fnExactReachedStatesSpec)

/-- 'laws.FnExactStateClasses', WHERE WHAT IT READS IS OF BULK AT MOST 1048576: true; the input reads as it did. -/
def fnExactStateClassesUptoRow : OpenClaim := { program := "ythnjkjdfdhdcfaa", sum := "95a148837996cd26d196c58d0305d2b57fec2ee77d37ec22ace6fa62845b0211", func := "loop.example/g01337/laws.FnExactStateClasses", spec := "fnExactStateClasses", apart := false, narrowed := true }
def FnExactStateClassesUptoSaid : Prop := fnExactStateClassesUptoRow.holds Try.pinned (OpenSpec.upto fnExactStateClassesSpec)

/-- 'laws.FnExactIsOneClass', WHERE WHAT IT READS IS OF BULK AT MOST 1048576: true; the input reads as it did. -/
def fnExactIsOneClassUptoRow : OpenClaim := { program := "ythnjkjdfdhdcfaa", sum := "95a148837996cd26d196c58d0305d2b57fec2ee77d37ec22ace6fa62845b0211", func := "loop.example/g01337/laws.FnExactIsOneClass", spec := "fnExactIsOneClass", apart := false, narrowed := true }
def FnExactIsOneClassUptoSaid : Prop := fnExactIsOneClassUptoRow.holds Try.pinned (OpenSpec.upto fnExactIsOneClassSpec)

/-- 'laws.FnExactLastingStates', WHERE WHAT IT READS IS OF BULK AT MOST 1048576: true; the input reads as it did. -/
def fnExactLastingStatesUptoRow : OpenClaim := { program := "ythnjkjdfdhdcfaa", sum := "95a148837996cd26d196c58d0305d2b57fec2ee77d37ec22ace6fa62845b0211", func := "loop.example/g01337/laws.FnExactLastingStates", spec := "fnExactLastingStates", apart := false, narrowed := true }
def FnExactLastingStatesUptoSaid : Prop := fnExactLastingStatesUptoRow.holds Try.pinned (OpenSpec.upto fnExactLastingStatesSpec)

/-- 'laws.FnExactEndStates', WHERE WHAT IT READS IS OF BULK AT MOST 1048576: true; the input reads as it did. -/
def fnExactEndStatesUptoRow : OpenClaim := { program := "ythnjkjdfdhdcfaa", sum := "95a148837996cd26d196c58d0305d2b57fec2ee77d37ec22ace6fa62845b0211", func := "loop.example/g01337/laws.FnExactEndStates", spec := "fnExactEndStates", apart := false, narrowed := true }
def FnExactEndStatesUptoSaid : Prop := fnExactEndStatesUptoRow.holds Try.pinned (OpenSpec.upto fnExactEndStatesSpec)

/-- 'laws.FnExactPeriodOfState', WHERE WHAT IT READS IS OF BULK AT MOST 1048576: true; the input reads as it did. -/
def fnExactPeriodOfStateUptoRow : OpenClaim := { program := "ythnjkjdfdhdcfaa", sum := "95a148837996cd26d196c58d0305d2b57fec2ee77d37ec22ace6fa62845b0211", func := "loop.example/g01337/laws.FnExactPeriodOfState", spec := "fnExactPeriodOfState", apart := false, narrowed := true }
def FnExactPeriodOfStateUptoSaid : Prop := fnExactPeriodOfStateUptoRow.holds Try.pinned (OpenSpec.upto fnExactPeriodOfStateSpec)

/-- 'laws.FnExactMeanUntilState', WHERE WHAT IT READS IS OF BULK AT MOST 1048576: true; the input reads as it did. -/
def fnExactMeanUntilStateUptoRow : OpenClaim := { program := "ythnjkjdfdhdcfaa", sum := "95a148837996cd26d196c58d0305d2b57fec2ee77d37ec22ace6fa62845b0211", func := "loop.example/g01337/laws.FnExactMeanUntilState", spec := "fnExactMeanUntilState", recurses := true, apart := false, narrowed := true }
def FnExactMeanUntilStateUptoSaid : Prop := fnExactMeanUntilStateUptoRow.holds Try.pinned (OpenSpec.upto fnExactMeanUntilStateSpec)

/-- 'laws.FnExactChanceToVisit', WHERE WHAT IT READS IS OF BULK AT MOST 1048576: true; the input reads as it did. -/
def fnExactChanceToVisitUptoRow : OpenClaim := { program := "ythnjkjdfdhdcfaa", sum := "95a148837996cd26d196c58d0305d2b57fec2ee77d37ec22ace6fa62845b0211", func := "loop.example/g01337/laws.FnExactChanceToVisit", spec := "fnExactChanceToVisit", recurses := true, apart := false, narrowed := true }
def FnExactChanceToVisitUptoSaid : Prop := fnExactChanceToVisitUptoRow.holds Try.pinned (OpenSpec.upto fnExactChanceToVisitSpec)

/-- 'laws.FnExactChanceToEnd', WHERE WHAT IT READS IS OF BULK AT MOST 1048576: true; the input reads as it did. -/
def fnExactChanceToEndUptoRow : OpenClaim := { program := "ythnjkjdfdhdcfaa", sum := "95a148837996cd26d196c58d0305d2b57fec2ee77d37ec22ace6fa62845b0211", func := "loop.example/g01337/laws.FnExactChanceToEnd", spec := "fnExactChanceToEnd", recurses := true, apart := false, narrowed := true }
def FnExactChanceToEndUptoSaid : Prop := fnExactChanceToEndUptoRow.holds Try.pinned (OpenSpec.upto fnExactChanceToEndSpec)

/-- 'laws.FnExactSharesOfStates', WHERE WHAT IT READS IS OF BULK AT MOST 1048576: true; the input reads as it did. -/
def fnExactSharesOfStatesUptoRow : OpenClaim := { program := "ythnjkjdfdhdcfaa", sum := "95a148837996cd26d196c58d0305d2b57fec2ee77d37ec22ace6fa62845b0211", func := "loop.example/g01337/laws.FnExactSharesOfStates", spec := "fnExactSharesOfStates", recurses := true, apart := false, narrowed := true }
def FnExactSharesOfStatesUptoSaid : Prop := fnExactSharesOfStatesUptoRow.holds Try.pinned (OpenSpec.upto fnExactSharesOfStatesSpec)

/-- 'laws.FnExactCountWays', WHERE WHAT IT READS IS OF BULK AT MOST 1048576: true; the input reads as it did. -/
def fnExactCountWaysUptoRow : OpenClaim := { program := "ythnjkjdfdhdcfaa", sum := "95a148837996cd26d196c58d0305d2b57fec2ee77d37ec22ace6fa62845b0211", func := "loop.example/g01337/laws.FnExactCountWays", spec := "fnExactCountWays", apart := false, narrowed := true }
def FnExactCountWaysUptoSaid : Prop := fnExactCountWaysUptoRow.holds Try.pinned (OpenSpec.upto fnExactCountWaysSpec)

/-- 'laws.FnExactFirstWay', WHERE WHAT IT READS IS OF BULK AT MOST 1048576: true; the input reads as it did. -/
def fnExactFirstWayUptoRow : OpenClaim := { program := "ythnjkjdfdhdcfaa", sum := "95a148837996cd26d196c58d0305d2b57fec2ee77d37ec22ace6fa62845b0211", func := "loop.example/g01337/laws.FnExactFirstWay", spec := "fnExactFirstWay", apart := false, narrowed := true }
def FnExactFirstWayUptoSaid : Prop := fnExactFirstWayUptoRow.holds Try.pinned (OpenSpec.upto fnExactFirstWaySpec)

/-- 'laws.FnExactRenameStates', WHERE WHAT IT READS IS OF BULK AT MOST 1048576: true; the input reads as it did. -/
def fnExactRenameStatesUptoRow : OpenClaim := { program := "ythnjkjdfdhdcfaa", sum := "95a148837996cd26d196c58d0305d2b57fec2ee77d37ec22ace6fa62845b0211", func := "loop.example/g01337/laws.FnExactRenameStates", spec := "fnExactRenameStates", apart := false, narrowed := true }
def FnExactRenameStatesUptoSaid : Prop := fnExactRenameStatesUptoRow.holds Try.pinned (OpenSpec.upto fnExactRenameStatesSpec)

/-- 'laws.FnExactStatesOfChain', WHERE WHAT IT READS IS OF BULK AT MOST 1048576: true; the input reads as it did. -/
def fnExactStatesOfChainUptoRow : OpenClaim := { program := "ythnjkjdfdhdcfaa", sum := "95a148837996cd26d196c58d0305d2b57fec2ee77d37ec22ace6fa62845b0211", func := "loop.example/g01337/laws.FnExactStatesOfChain", spec := "fnExactStatesOfChain", unfollowed := true, recurses := true, apart := false, narrowed := true }
def FnExactStatesOfChainUptoSaid : Prop := fnExactStatesOfChainUptoRow.holds Try.pinned (OpenSpec.upto fnExactStatesOfChainSpec)

end Rows
end Go.Proofs.Ythnjkjdfdhdcfaa
