/-
  No cell of these rows narrows 'for every input' (looked for: loops, veiled, ifaces, maps, wideKeys, modest, calm, conditions, laid).
  DERIVED. THE GIVEN ROWS OF THIS SEAT. 17 by the template 'for every input the law returns true; each argument reads behind the call as it read before'; 0 by the template 'total and deterministic' (their statements: YtkehgokgngimgaaTotals.lean).
  GIVEN WITH THE SEED: the statements are not yours to turn. If you find one false, say at which input.
  Laid BY PROGRAM, IN A SANDBOX (cutbox-rows.mjs): the forced cells as the released guide's own fill.sh prints them over the translation d865ee5fd7a035c6… (all of the seat's roots in one cut). By AI agents, Wed Nov 11 2026. No macro, syntax, notation, axiom, sorry.
-/
import Derived.Test.YtkehgokgngimgaaChecked
import GoSem.Claim
import GoSem.ClaimJoined
import GoSem.ClaimMapViews
import Derived.JoinedTies
import Derived.KernelRfl
namespace Go.Proofs.Ytkehgokgngimgaa
/- THE CELL 'sum', in the pinned program and in every row, IS THE sha256 OF THE DUMP (.gsa) THAT YtkehgokgngimgaaProg.lean LOADS. Nothing in Lean hashes anything: it is a label: what it is worth is what the hold of that sum in a sandbox is worth. -/
noncomputable def Try.pinned : Pinned := { name := "ytkehgokgngimgaa", sum := "d865ee5fd7a035c62c82ebec4107f773188aadf76a731f08fc5ba29adf3c8fca", checked := Try.checked }
namespace Rows
def none {H : Type} : Left H := { results := [], args := [] }

/-- 'laws.FnExactIsChain': WHATEVER THE INPUT: true; the input reads as it did. -/
def fnExactIsChainSpec : ChangeSpec := { name := "fnExactIsChain", fn := fun _ => fun
  | [d] => { results := [.lit (.bool true)], args := [d] }
  | _ => none }
def fnExactIsChainRow : OpenClaim := { program := "ytkehgokgngimgaa", sum := "d865ee5fd7a035c62c82ebec4107f773188aadf76a731f08fc5ba29adf3c8fca", func := "loop.example/g01337/laws.FnExactIsChain", spec := "fnExactIsChain", apart := false }
def FnExactIsChainSaid : Prop := fnExactIsChainRow.holds Try.pinned (OpenSpec.ofChange fnExactIsChainSpec)

/-- ITS FALSE NEIGHBOUR: 'it returns false'. Refute it at one input. -/
def fnExactIsChainWrong : ChangeSpec := { name := "fnExactIsChain", fn := fun _ => fun
  | [d] => { results := [.lit (.bool false)], args := [d] }
  | _ => none }
def FnExactIsChainWrongFalsely : Prop := fnExactIsChainRow.holds Try.pinned (OpenSpec.ofChange fnExactIsChainWrong)

/-- 'laws.FnExactAreDays': WHATEVER THE INPUT: true; the input reads as it did. -/
def fnExactAreDaysSpec : ChangeSpec := { name := "fnExactAreDays", fn := fun _ => fun
  | [d] => { results := [.lit (.bool true)], args := [d] }
  | _ => none }
def fnExactAreDaysRow : OpenClaim := { program := "ytkehgokgngimgaa", sum := "d865ee5fd7a035c62c82ebec4107f773188aadf76a731f08fc5ba29adf3c8fca", func := "loop.example/g01337/laws.FnExactAreDays", spec := "fnExactAreDays", apart := false }
def FnExactAreDaysSaid : Prop := fnExactAreDaysRow.holds Try.pinned (OpenSpec.ofChange fnExactAreDaysSpec)

/-- ITS FALSE NEIGHBOUR: 'it returns false'. Refute it at one input. -/
def fnExactAreDaysWrong : ChangeSpec := { name := "fnExactAreDays", fn := fun _ => fun
  | [d] => { results := [.lit (.bool false)], args := [d] }
  | _ => none }
def FnExactAreDaysWrongFalsely : Prop := fnExactAreDaysRow.holds Try.pinned (OpenSpec.ofChange fnExactAreDaysWrong)

/-- 'laws.FnExactChanceNext': WHATEVER THE INPUT: true; the input reads as it did. -/
def fnExactChanceNextSpec : ChangeSpec := { name := "fnExactChanceNext", fn := fun _ => fun
  | [d1, d2, d3] => { results := [.lit (.bool true)], args := [d1, d2, d3] }
  | _ => none }
def fnExactChanceNextRow : OpenClaim := { program := "ytkehgokgngimgaa", sum := "d865ee5fd7a035c62c82ebec4107f773188aadf76a731f08fc5ba29adf3c8fca", func := "loop.example/g01337/laws.FnExactChanceNext", spec := "fnExactChanceNext", unfollowed := true, recurses := true, apart := false }
def FnExactChanceNextSaid : Prop := fnExactChanceNextRow.holds Try.pinned (OpenSpec.ofChange fnExactChanceNextSpec)

/-- ITS FALSE NEIGHBOUR: 'it returns false'. Refute it at one input. -/
def fnExactChanceNextWrong : ChangeSpec := { name := "fnExactChanceNext", fn := fun _ => fun
  | [d1, d2, d3] => { results := [.lit (.bool false)], args := [d1, d2, d3] }
  | _ => none }
def FnExactChanceNextWrongFalsely : Prop := fnExactChanceNextRow.holds Try.pinned (OpenSpec.ofChange fnExactChanceNextWrong)

/-- 'laws.FnExactChanceOfDays': WHATEVER THE INPUT: true; the input reads as it did. -/
def fnExactChanceOfDaysSpec : ChangeSpec := { name := "fnExactChanceOfDays", fn := fun _ => fun
  | [d1, d2] => { results := [.lit (.bool true)], args := [d1, d2] }
  | _ => none }
def fnExactChanceOfDaysRow : OpenClaim := { program := "ytkehgokgngimgaa", sum := "d865ee5fd7a035c62c82ebec4107f773188aadf76a731f08fc5ba29adf3c8fca", func := "loop.example/g01337/laws.FnExactChanceOfDays", spec := "fnExactChanceOfDays", unfollowed := true, recurses := true, apart := false }
def FnExactChanceOfDaysSaid : Prop := fnExactChanceOfDaysRow.holds Try.pinned (OpenSpec.ofChange fnExactChanceOfDaysSpec)

/-- ITS FALSE NEIGHBOUR: 'it returns false'. Refute it at one input. -/
def fnExactChanceOfDaysWrong : ChangeSpec := { name := "fnExactChanceOfDays", fn := fun _ => fun
  | [d1, d2] => { results := [.lit (.bool false)], args := [d1, d2] }
  | _ => none }
def FnExactChanceOfDaysWrongFalsely : Prop := fnExactChanceOfDaysRow.holds Try.pinned (OpenSpec.ofChange fnExactChanceOfDaysWrong)

/-- 'laws.FnExactChanceLater': WHATEVER THE INPUT: true; the input reads as it did. -/
def fnExactChanceLaterSpec : ChangeSpec := { name := "fnExactChanceLater", fn := fun _ => fun
  | [d1, d2, d3, d4] => { results := [.lit (.bool true)], args := [d1, d2, d3, d4] }
  | _ => none }
def fnExactChanceLaterRow : OpenClaim := { program := "ytkehgokgngimgaa", sum := "d865ee5fd7a035c62c82ebec4107f773188aadf76a731f08fc5ba29adf3c8fca", func := "loop.example/g01337/laws.FnExactChanceLater", spec := "fnExactChanceLater", apart := false }
def FnExactChanceLaterSaid : Prop := fnExactChanceLaterRow.holds Try.pinned (OpenSpec.ofChange fnExactChanceLaterSpec)

/-- ITS FALSE NEIGHBOUR: 'it returns false'. Refute it at one input. -/
def fnExactChanceLaterWrong : ChangeSpec := { name := "fnExactChanceLater", fn := fun _ => fun
  | [d1, d2, d3, d4] => { results := [.lit (.bool false)], args := [d1, d2, d3, d4] }
  | _ => none }
def FnExactChanceLaterWrongFalsely : Prop := fnExactChanceLaterRow.holds Try.pinned (OpenSpec.ofChange fnExactChanceLaterWrong)

/-- 'laws.FnExactLongShare': WHATEVER THE INPUT: true; the input reads as it did. -/
def fnExactLongShareSpec : ChangeSpec := { name := "fnExactLongShare", fn := fun _ => fun
  | [d1, d2] => { results := [.lit (.bool true)], args := [d1, d2] }
  | _ => none }
def fnExactLongShareRow : OpenClaim := { program := "ytkehgokgngimgaa", sum := "d865ee5fd7a035c62c82ebec4107f773188aadf76a731f08fc5ba29adf3c8fca", func := "loop.example/g01337/laws.FnExactLongShare", spec := "fnExactLongShare", apart := false }
def FnExactLongShareSaid : Prop := fnExactLongShareRow.holds Try.pinned (OpenSpec.ofChange fnExactLongShareSpec)

/-- ITS FALSE NEIGHBOUR: 'it returns false'. Refute it at one input. -/
def fnExactLongShareWrong : ChangeSpec := { name := "fnExactLongShare", fn := fun _ => fun
  | [d1, d2] => { results := [.lit (.bool false)], args := [d1, d2] }
  | _ => none }
def FnExactLongShareWrongFalsely : Prop := fnExactLongShareRow.holds Try.pinned (OpenSpec.ofChange fnExactLongShareWrong)

/-- 'laws.FnExactChanceOfAny': WHATEVER THE INPUT: true; the input reads as it did. -/
def fnExactChanceOfAnySpec : ChangeSpec := { name := "fnExactChanceOfAny", fn := fun _ => fun
  | [d1, d2] => { results := [.lit (.bool true)], args := [d1, d2] }
  | _ => none }
def fnExactChanceOfAnyRow : OpenClaim := { program := "ytkehgokgngimgaa", sum := "d865ee5fd7a035c62c82ebec4107f773188aadf76a731f08fc5ba29adf3c8fca", func := "loop.example/g01337/laws.FnExactChanceOfAny", spec := "fnExactChanceOfAny", unfollowed := true, recurses := true, apart := false }
def FnExactChanceOfAnySaid : Prop := fnExactChanceOfAnyRow.holds Try.pinned (OpenSpec.ofChange fnExactChanceOfAnySpec)

/-- ITS FALSE NEIGHBOUR: 'it returns false'. Refute it at one input. -/
def fnExactChanceOfAnyWrong : ChangeSpec := { name := "fnExactChanceOfAny", fn := fun _ => fun
  | [d1, d2] => { results := [.lit (.bool false)], args := [d1, d2] }
  | _ => none }
def FnExactChanceOfAnyWrongFalsely : Prop := fnExactChanceOfAnyRow.holds Try.pinned (OpenSpec.ofChange fnExactChanceOfAnyWrong)

/-- 'laws.FnExactMeanRun': WHATEVER THE INPUT: true; the input reads as it did. -/
def fnExactMeanRunSpec : ChangeSpec := { name := "fnExactMeanRun", fn := fun _ => fun
  | [d1, d2] => { results := [.lit (.bool true)], args := [d1, d2] }
  | _ => none }
def fnExactMeanRunRow : OpenClaim := { program := "ytkehgokgngimgaa", sum := "d865ee5fd7a035c62c82ebec4107f773188aadf76a731f08fc5ba29adf3c8fca", func := "loop.example/g01337/laws.FnExactMeanRun", spec := "fnExactMeanRun", apart := false }
def FnExactMeanRunSaid : Prop := fnExactMeanRunRow.holds Try.pinned (OpenSpec.ofChange fnExactMeanRunSpec)

/-- ITS FALSE NEIGHBOUR: 'it returns false'. Refute it at one input. -/
def fnExactMeanRunWrong : ChangeSpec := { name := "fnExactMeanRun", fn := fun _ => fun
  | [d1, d2] => { results := [.lit (.bool false)], args := [d1, d2] }
  | _ => none }
def FnExactMeanRunWrongFalsely : Prop := fnExactMeanRunRow.holds Try.pinned (OpenSpec.ofChange fnExactMeanRunWrong)

/-- 'laws.FnExactChanceOfRun': WHATEVER THE INPUT: true; the input reads as it did. -/
def fnExactChanceOfRunSpec : ChangeSpec := { name := "fnExactChanceOfRun", fn := fun _ => fun
  | [d1, d2, d3] => { results := [.lit (.bool true)], args := [d1, d2, d3] }
  | _ => none }
def fnExactChanceOfRunRow : OpenClaim := { program := "ytkehgokgngimgaa", sum := "d865ee5fd7a035c62c82ebec4107f773188aadf76a731f08fc5ba29adf3c8fca", func := "loop.example/g01337/laws.FnExactChanceOfRun", spec := "fnExactChanceOfRun", apart := false }
def FnExactChanceOfRunSaid : Prop := fnExactChanceOfRunRow.holds Try.pinned (OpenSpec.ofChange fnExactChanceOfRunSpec)

/-- ITS FALSE NEIGHBOUR: 'it returns false'. Refute it at one input. -/
def fnExactChanceOfRunWrong : ChangeSpec := { name := "fnExactChanceOfRun", fn := fun _ => fun
  | [d1, d2, d3] => { results := [.lit (.bool false)], args := [d1, d2, d3] }
  | _ => none }
def FnExactChanceOfRunWrongFalsely : Prop := fnExactChanceOfRunRow.holds Try.pinned (OpenSpec.ofChange fnExactChanceOfRunWrong)

/-- 'laws.FnExactMeanUntil': WHATEVER THE INPUT: true; the input reads as it did. -/
def fnExactMeanUntilSpec : ChangeSpec := { name := "fnExactMeanUntil", fn := fun _ => fun
  | [d1, d2, d3] => { results := [.lit (.bool true)], args := [d1, d2, d3] }
  | _ => none }
def fnExactMeanUntilRow : OpenClaim := { program := "ytkehgokgngimgaa", sum := "d865ee5fd7a035c62c82ebec4107f773188aadf76a731f08fc5ba29adf3c8fca", func := "loop.example/g01337/laws.FnExactMeanUntil", spec := "fnExactMeanUntil", apart := false }
def FnExactMeanUntilSaid : Prop := fnExactMeanUntilRow.holds Try.pinned (OpenSpec.ofChange fnExactMeanUntilSpec)

/-- ITS FALSE NEIGHBOUR: 'it returns false'. Refute it at one input. -/
def fnExactMeanUntilWrong : ChangeSpec := { name := "fnExactMeanUntil", fn := fun _ => fun
  | [d1, d2, d3] => { results := [.lit (.bool false)], args := [d1, d2, d3] }
  | _ => none }
def FnExactMeanUntilWrongFalsely : Prop := fnExactMeanUntilRow.holds Try.pinned (OpenSpec.ofChange fnExactMeanUntilWrong)

/-- 'laws.FnExactMeanWets': WHATEVER THE INPUT: true; the input reads as it did. -/
def fnExactMeanWetsSpec : ChangeSpec := { name := "fnExactMeanWets", fn := fun _ => fun
  | [d1, d2, d3] => { results := [.lit (.bool true)], args := [d1, d2, d3] }
  | _ => none }
def fnExactMeanWetsRow : OpenClaim := { program := "ytkehgokgngimgaa", sum := "d865ee5fd7a035c62c82ebec4107f773188aadf76a731f08fc5ba29adf3c8fca", func := "loop.example/g01337/laws.FnExactMeanWets", spec := "fnExactMeanWets", apart := false }
def FnExactMeanWetsSaid : Prop := fnExactMeanWetsRow.holds Try.pinned (OpenSpec.ofChange fnExactMeanWetsSpec)

/-- ITS FALSE NEIGHBOUR: 'it returns false'. Refute it at one input. -/
def fnExactMeanWetsWrong : ChangeSpec := { name := "fnExactMeanWets", fn := fun _ => fun
  | [d1, d2, d3] => { results := [.lit (.bool false)], args := [d1, d2, d3] }
  | _ => none }
def FnExactMeanWetsWrongFalsely : Prop := fnExactMeanWetsRow.holds Try.pinned (OpenSpec.ofChange fnExactMeanWetsWrong)

/-- 'laws.FnExactLikeliestDays': WHATEVER THE INPUT: true; the input reads as it did. -/
def fnExactLikeliestDaysSpec : ChangeSpec := { name := "fnExactLikeliestDays", fn := fun _ => fun
  | [d1, d2, d3] => { results := [.lit (.bool true)], args := [d1, d2, d3] }
  | _ => none }
def fnExactLikeliestDaysRow : OpenClaim := { program := "ytkehgokgngimgaa", sum := "d865ee5fd7a035c62c82ebec4107f773188aadf76a731f08fc5ba29adf3c8fca", func := "loop.example/g01337/laws.FnExactLikeliestDays", spec := "fnExactLikeliestDays", unfollowed := true, recurses := true, apart := false }
def FnExactLikeliestDaysSaid : Prop := fnExactLikeliestDaysRow.holds Try.pinned (OpenSpec.ofChange fnExactLikeliestDaysSpec)

/-- ITS FALSE NEIGHBOUR: 'it returns false'. Refute it at one input. -/
def fnExactLikeliestDaysWrong : ChangeSpec := { name := "fnExactLikeliestDays", fn := fun _ => fun
  | [d1, d2, d3] => { results := [.lit (.bool false)], args := [d1, d2, d3] }
  | _ => none }
def FnExactLikeliestDaysWrongFalsely : Prop := fnExactLikeliestDaysRow.holds Try.pinned (OpenSpec.ofChange fnExactLikeliestDaysWrong)

/-- 'laws.FnExactRunsOf': WHATEVER THE INPUT: true; the input reads as it did. -/
def fnExactRunsOfSpec : ChangeSpec := { name := "fnExactRunsOf", fn := fun _ => fun
  | [d] => { results := [.lit (.bool true)], args := [d] }
  | _ => none }
def fnExactRunsOfRow : OpenClaim := { program := "ytkehgokgngimgaa", sum := "d865ee5fd7a035c62c82ebec4107f773188aadf76a731f08fc5ba29adf3c8fca", func := "loop.example/g01337/laws.FnExactRunsOf", spec := "fnExactRunsOf", apart := false }
def FnExactRunsOfSaid : Prop := fnExactRunsOfRow.holds Try.pinned (OpenSpec.ofChange fnExactRunsOfSpec)

/-- ITS FALSE NEIGHBOUR: 'it returns false'. Refute it at one input. -/
def fnExactRunsOfWrong : ChangeSpec := { name := "fnExactRunsOf", fn := fun _ => fun
  | [d] => { results := [.lit (.bool false)], args := [d] }
  | _ => none }
def FnExactRunsOfWrongFalsely : Prop := fnExactRunsOfRow.holds Try.pinned (OpenSpec.ofChange fnExactRunsOfWrong)

/-- 'laws.FnExactCountChanges': WHATEVER THE INPUT: true; the input reads as it did. -/
def fnExactCountChangesSpec : ChangeSpec := { name := "fnExactCountChanges", fn := fun _ => fun
  | [d] => { results := [.lit (.bool true)], args := [d] }
  | _ => none }
def fnExactCountChangesRow : OpenClaim := { program := "ytkehgokgngimgaa", sum := "d865ee5fd7a035c62c82ebec4107f773188aadf76a731f08fc5ba29adf3c8fca", func := "loop.example/g01337/laws.FnExactCountChanges", spec := "fnExactCountChanges", apart := false }
def FnExactCountChangesSaid : Prop := fnExactCountChangesRow.holds Try.pinned (OpenSpec.ofChange fnExactCountChangesSpec)

/-- ITS FALSE NEIGHBOUR: 'it returns false'. Refute it at one input. -/
def fnExactCountChangesWrong : ChangeSpec := { name := "fnExactCountChanges", fn := fun _ => fun
  | [d] => { results := [.lit (.bool false)], args := [d] }
  | _ => none }
def FnExactCountChangesWrongFalsely : Prop := fnExactCountChangesRow.holds Try.pinned (OpenSpec.ofChange fnExactCountChangesWrong)

/-- 'laws.FnExactChainOfDays': WHATEVER THE INPUT: true; the input reads as it did. -/
def fnExactChainOfDaysSpec : ChangeSpec := { name := "fnExactChainOfDays", fn := fun _ => fun
  | [d] => { results := [.lit (.bool true)], args := [d] }
  | _ => none }
def fnExactChainOfDaysRow : OpenClaim := { program := "ytkehgokgngimgaa", sum := "d865ee5fd7a035c62c82ebec4107f773188aadf76a731f08fc5ba29adf3c8fca", func := "loop.example/g01337/laws.FnExactChainOfDays", spec := "fnExactChainOfDays", apart := false }
def FnExactChainOfDaysSaid : Prop := fnExactChainOfDaysRow.holds Try.pinned (OpenSpec.ofChange fnExactChainOfDaysSpec)

/-- ITS FALSE NEIGHBOUR: 'it returns false'. Refute it at one input. -/
def fnExactChainOfDaysWrong : ChangeSpec := { name := "fnExactChainOfDays", fn := fun _ => fun
  | [d] => { results := [.lit (.bool false)], args := [d] }
  | _ => none }
def FnExactChainOfDaysWrongFalsely : Prop := fnExactChainOfDaysRow.holds Try.pinned (OpenSpec.ofChange fnExactChainOfDaysWrong)

/-- 'laws.FnExactTurnChain': WHATEVER THE INPUT: true; the input reads as it did. -/
def fnExactTurnChainSpec : ChangeSpec := { name := "fnExactTurnChain", fn := fun _ => fun
  | [d] => { results := [.lit (.bool true)], args := [d] }
  | _ => none }
def fnExactTurnChainRow : OpenClaim := { program := "ytkehgokgngimgaa", sum := "d865ee5fd7a035c62c82ebec4107f773188aadf76a731f08fc5ba29adf3c8fca", func := "loop.example/g01337/laws.FnExactTurnChain", spec := "fnExactTurnChain", apart := false }
def FnExactTurnChainSaid : Prop := fnExactTurnChainRow.holds Try.pinned (OpenSpec.ofChange fnExactTurnChainSpec)

/-- ITS FALSE NEIGHBOUR: 'it returns false'. Refute it at one input. -/
def fnExactTurnChainWrong : ChangeSpec := { name := "fnExactTurnChain", fn := fun _ => fun
  | [d] => { results := [.lit (.bool false)], args := [d] }
  | _ => none }
def FnExactTurnChainWrongFalsely : Prop := fnExactTurnChainRow.holds Try.pinned (OpenSpec.ofChange fnExactTurnChainWrong)

/-- 'laws.FnExactIsEven': WHATEVER THE INPUT: true; the input reads as it did. -/
def fnExactIsEvenSpec : ChangeSpec := { name := "fnExactIsEven", fn := fun _ => fun
  | [d] => { results := [.lit (.bool true)], args := [d] }
  | _ => none }
def fnExactIsEvenRow : OpenClaim := { program := "ytkehgokgngimgaa", sum := "d865ee5fd7a035c62c82ebec4107f773188aadf76a731f08fc5ba29adf3c8fca", func := "loop.example/g01337/laws.FnExactIsEven", spec := "fnExactIsEven", apart := false }
def FnExactIsEvenSaid : Prop := fnExactIsEvenRow.holds Try.pinned (OpenSpec.ofChange fnExactIsEvenSpec)

/-- ITS FALSE NEIGHBOUR: 'it returns false'. Refute it at one input. -/
def fnExactIsEvenWrong : ChangeSpec := { name := "fnExactIsEven", fn := fun _ => fun
  | [d] => { results := [.lit (.bool false)], args := [d] }
  | _ => none }
def FnExactIsEvenWrongFalsely : Prop := fnExactIsEvenRow.holds Try.pinned (OpenSpec.ofChange fnExactIsEvenWrong)

/- THE SECOND FORM. 'bulk': how many values and letters a reading holds, each counted each time it is reached (what is shared counts as often as it is met; a slice's spare places count too). A statement '..UptoSaid' is the law's where the arguments, and the package variables that the reading takes, are together of bulk at most 1048576: NARROWER than '..Said'. Prove '..Said' where nothing that the law and all that it calls make is longer than what came in: it says more and counts as full. Else prove '..UptoSaid'. A law counts once. -/
mutual
def uptoBulk {H : Type} : DataW H → Nat
  | .lit (.string bytes) => bytes.length + 1
  | .lit _ => 1
  | .nil => 1
  | .ptr d => uptoBulk d + 1
  | .slice elems spare => uptoBulkAll elems + uptoBulkAll spare + 1
  | .agg parts => uptoBulkAll parts + 1
  | .iface _ d => uptoBulk d + 1
  | .map entries => uptoBulkEntries entries + 1
  | .held _ => 1
def uptoBulkAll {H : Type} : List (DataW H) → Nat
  | [] => 0
  | d :: r => uptoBulk d + uptoBulkAll r
def uptoBulkEntries {H : Type} : List (Lit × DataW H) → Nat
  | [] => 0
  | x :: r => uptoBulkEntry x + uptoBulkEntries r
def uptoBulkEntry {H : Type} : Lit × DataW H → Nat
  | (.string bytes, d) => bytes.length + uptoBulk d + 1
  | (_, d) => uptoBulk d + 1
 end
def uptoSmall : (H : Type) → List (DataW H) → Bool := fun _ ds => decide (uptoBulkAll ds ≤ 1048576)
def OpenSpec.upto (s : _root_.Go.ChangeSpec) : _root_.Go.OpenSpec := { _root_.Go.OpenSpec.ofChange s with cond := some uptoSmall }

/-- 'laws.FnExactIsChain', WHERE WHAT IT READS IS OF BULK AT MOST 1048576: true; the input reads as it did. -/
def fnExactIsChainUptoRow : OpenClaim := { program := "ytkehgokgngimgaa", sum := "d865ee5fd7a035c62c82ebec4107f773188aadf76a731f08fc5ba29adf3c8fca", func := "loop.example/g01337/laws.FnExactIsChain", spec := "fnExactIsChain", apart := false, narrowed := true }
def FnExactIsChainUptoSaid : Prop := fnExactIsChainUptoRow.holds Try.pinned (OpenSpec.upto fnExactIsChainSpec)

/-- 'laws.FnExactAreDays', WHERE WHAT IT READS IS OF BULK AT MOST 1048576: true; the input reads as it did. -/
def fnExactAreDaysUptoRow : OpenClaim := { program := "ytkehgokgngimgaa", sum := "d865ee5fd7a035c62c82ebec4107f773188aadf76a731f08fc5ba29adf3c8fca", func := "loop.example/g01337/laws.FnExactAreDays", spec := "fnExactAreDays", apart := false, narrowed := true }
def FnExactAreDaysUptoSaid : Prop := fnExactAreDaysUptoRow.holds Try.pinned (OpenSpec.upto fnExactAreDaysSpec)

/-- 'laws.FnExactChanceNext', WHERE WHAT IT READS IS OF BULK AT MOST 1048576: true; the input reads as it did. -/
def fnExactChanceNextUptoRow : OpenClaim := { program := "ytkehgokgngimgaa", sum := "d865ee5fd7a035c62c82ebec4107f773188aadf76a731f08fc5ba29adf3c8fca", func := "loop.example/g01337/laws.FnExactChanceNext", spec := "fnExactChanceNext", unfollowed := true, recurses := true, apart := false, narrowed := true }
def FnExactChanceNextUptoSaid : Prop := fnExactChanceNextUptoRow.holds Try.pinned (OpenSpec.upto fnExactChanceNextSpec)

/-- 'laws.FnExactChanceOfDays', WHERE WHAT IT READS IS OF BULK AT MOST 1048576: true; the input reads as it did. -/
def fnExactChanceOfDaysUptoRow : OpenClaim := { program := "ytkehgokgngimgaa", sum := "d865ee5fd7a035c62c82ebec4107f773188aadf76a731f08fc5ba29adf3c8fca", func := "loop.example/g01337/laws.FnExactChanceOfDays", spec := "fnExactChanceOfDays", unfollowed := true, recurses := true, apart := false, narrowed := true }
def FnExactChanceOfDaysUptoSaid : Prop := fnExactChanceOfDaysUptoRow.holds Try.pinned (OpenSpec.upto fnExactChanceOfDaysSpec)

/-- 'laws.FnExactChanceLater', WHERE WHAT IT READS IS OF BULK AT MOST 1048576: true; the input reads as it did. -/
def fnExactChanceLaterUptoRow : OpenClaim := { program := "ytkehgokgngimgaa", sum := "d865ee5fd7a035c62c82ebec4107f773188aadf76a731f08fc5ba29adf3c8fca", func := "loop.example/g01337/laws.FnExactChanceLater", spec := "fnExactChanceLater", apart := false, narrowed := true }
def FnExactChanceLaterUptoSaid : Prop := fnExactChanceLaterUptoRow.holds Try.pinned (OpenSpec.upto fnExactChanceLaterSpec)

/-- 'laws.FnExactLongShare', WHERE WHAT IT READS IS OF BULK AT MOST 1048576: true; the input reads as it did. -/
def fnExactLongShareUptoRow : OpenClaim := { program := "ytkehgokgngimgaa", sum := "d865ee5fd7a035c62c82ebec4107f773188aadf76a731f08fc5ba29adf3c8fca", func := "loop.example/g01337/laws.FnExactLongShare", spec := "fnExactLongShare", apart := false, narrowed := true }
def FnExactLongShareUptoSaid : Prop := fnExactLongShareUptoRow.holds Try.pinned (OpenSpec.upto fnExactLongShareSpec)

/-- 'laws.FnExactChanceOfAny', WHERE WHAT IT READS IS OF BULK AT MOST 1048576: true; the input reads as it did. -/
def fnExactChanceOfAnyUptoRow : OpenClaim := { program := "ytkehgokgngimgaa", sum := "d865ee5fd7a035c62c82ebec4107f773188aadf76a731f08fc5ba29adf3c8fca", func := "loop.example/g01337/laws.FnExactChanceOfAny", spec := "fnExactChanceOfAny", unfollowed := true, recurses := true, apart := false, narrowed := true }
def FnExactChanceOfAnyUptoSaid : Prop := fnExactChanceOfAnyUptoRow.holds Try.pinned (OpenSpec.upto fnExactChanceOfAnySpec)

/-- 'laws.FnExactMeanRun', WHERE WHAT IT READS IS OF BULK AT MOST 1048576: true; the input reads as it did. -/
def fnExactMeanRunUptoRow : OpenClaim := { program := "ytkehgokgngimgaa", sum := "d865ee5fd7a035c62c82ebec4107f773188aadf76a731f08fc5ba29adf3c8fca", func := "loop.example/g01337/laws.FnExactMeanRun", spec := "fnExactMeanRun", apart := false, narrowed := true }
def FnExactMeanRunUptoSaid : Prop := fnExactMeanRunUptoRow.holds Try.pinned (OpenSpec.upto fnExactMeanRunSpec)

/-- 'laws.FnExactChanceOfRun', WHERE WHAT IT READS IS OF BULK AT MOST 1048576: true; the input reads as it did. -/
def fnExactChanceOfRunUptoRow : OpenClaim := { program := "ytkehgokgngimgaa", sum := "d865ee5fd7a035c62c82ebec4107f773188aadf76a731f08fc5ba29adf3c8fca", func := "loop.example/g01337/laws.FnExactChanceOfRun", spec := "fnExactChanceOfRun", apart := false, narrowed := true }
def FnExactChanceOfRunUptoSaid : Prop := fnExactChanceOfRunUptoRow.holds Try.pinned (OpenSpec.upto fnExactChanceOfRunSpec)

/-- 'laws.FnExactMeanUntil', WHERE WHAT IT READS IS OF BULK AT MOST 1048576: true; the input reads as it did. -/
def fnExactMeanUntilUptoRow : OpenClaim := { program := "ytkehgokgngimgaa", sum := "d865ee5fd7a035c62c82ebec4107f773188aadf76a731f08fc5ba29adf3c8fca", func := "loop.example/g01337/laws.FnExactMeanUntil", spec := "fnExactMeanUntil", apart := false, narrowed := true }
def FnExactMeanUntilUptoSaid : Prop := fnExactMeanUntilUptoRow.holds Try.pinned (OpenSpec.upto fnExactMeanUntilSpec)

/-- 'laws.FnExactMeanWets', WHERE WHAT IT READS IS OF BULK AT MOST 1048576: true; the input reads as it did. -/
def fnExactMeanWetsUptoRow : OpenClaim := { program := "ytkehgokgngimgaa", sum := "d865ee5fd7a035c62c82ebec4107f773188aadf76a731f08fc5ba29adf3c8fca", func := "loop.example/g01337/laws.FnExactMeanWets", spec := "fnExactMeanWets", apart := false, narrowed := true }
def FnExactMeanWetsUptoSaid : Prop := fnExactMeanWetsUptoRow.holds Try.pinned (OpenSpec.upto fnExactMeanWetsSpec)

/-- 'laws.FnExactLikeliestDays', WHERE WHAT IT READS IS OF BULK AT MOST 1048576: true; the input reads as it did. -/
def fnExactLikeliestDaysUptoRow : OpenClaim := { program := "ytkehgokgngimgaa", sum := "d865ee5fd7a035c62c82ebec4107f773188aadf76a731f08fc5ba29adf3c8fca", func := "loop.example/g01337/laws.FnExactLikeliestDays", spec := "fnExactLikeliestDays", unfollowed := true, recurses := true, apart := false, narrowed := true }
def FnExactLikeliestDaysUptoSaid : Prop := fnExactLikeliestDaysUptoRow.holds Try.pinned (OpenSpec.upto fnExactLikeliestDaysSpec)

/-- 'laws.FnExactRunsOf', WHERE WHAT IT READS IS OF BULK AT MOST 1048576: true; the input reads as it did. -/
def fnExactRunsOfUptoRow : OpenClaim := { program := "ytkehgokgngimgaa", sum := "d865ee5fd7a035c62c82ebec4107f773188aadf76a731f08fc5ba29adf3c8fca", func := "loop.example/g01337/laws.FnExactRunsOf", spec := "fnExactRunsOf", apart := false, narrowed := true }
def FnExactRunsOfUptoSaid : Prop := fnExactRunsOfUptoRow.holds Try.pinned (OpenSpec.upto fnExactRunsOfSpec)

/-- 'laws.FnExactCountChanges', WHERE WHAT IT READS IS OF BULK AT MOST 1048576: true; the input reads as it did. -/
def fnExactCountChangesUptoRow : OpenClaim := { program := "ytkehgokgngimgaa", sum := "d865ee5fd7a035c62c82ebec4107f773188aadf76a731f08fc5ba29adf3c8fca", func := "loop.example/g01337/laws.FnExactCountChanges", spec := "fnExactCountChanges", apart := false, narrowed := true }
def FnExactCountChangesUptoSaid : Prop := fnExactCountChangesUptoRow.holds Try.pinned (OpenSpec.upto fnExactCountChangesSpec)

/-- 'laws.FnExactChainOfDays', WHERE WHAT IT READS IS OF BULK AT MOST 1048576: true; the input reads as it did. -/
def fnExactChainOfDaysUptoRow : OpenClaim := { program := "ytkehgokgngimgaa", sum := "d865ee5fd7a035c62c82ebec4107f773188aadf76a731f08fc5ba29adf3c8fca", func := "loop.example/g01337/laws.FnExactChainOfDays", spec := "fnExactChainOfDays", apart := false, narrowed := true }
def FnExactChainOfDaysUptoSaid : Prop := fnExactChainOfDaysUptoRow.holds Try.pinned (OpenSpec.upto fnExactChainOfDaysSpec)

/-- 'laws.FnExactTurnChain', WHERE WHAT IT READS IS OF BULK AT MOST 1048576: true; the input reads as it did. -/
def fnExactTurnChainUptoRow : OpenClaim := { program := "ytkehgokgngimgaa", sum := "d865ee5fd7a035c62c82ebec4107f773188aadf76a731f08fc5ba29adf3c8fca", func := "loop.example/g01337/laws.FnExactTurnChain", spec := "fnExactTurnChain", apart := false, narrowed := true }
def FnExactTurnChainUptoSaid : Prop := fnExactTurnChainUptoRow.holds Try.pinned (OpenSpec.upto fnExactTurnChainSpec)

/-- 'laws.FnExactIsEven', WHERE WHAT IT READS IS OF BULK AT MOST 1048576: true; the input reads as it did. -/
def fnExactIsEvenUptoRow : OpenClaim := { program := "ytkehgokgngimgaa", sum := "d865ee5fd7a035c62c82ebec4107f773188aadf76a731f08fc5ba29adf3c8fca", func := "loop.example/g01337/laws.FnExactIsEven", spec := "fnExactIsEven", apart := false, narrowed := true }
def FnExactIsEvenUptoSaid : Prop := fnExactIsEvenUptoRow.holds Try.pinned (OpenSpec.upto fnExactIsEvenSpec)

end Rows
end Go.Proofs.Ytkehgokgngimgaa
