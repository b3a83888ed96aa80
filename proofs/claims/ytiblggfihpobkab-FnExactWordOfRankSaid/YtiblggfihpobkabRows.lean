/-
  No cell of these rows narrows 'for every input' (looked for: loops, veiled, ifaces, maps, wideKeys, modest, calm, conditions, laid).
  DERIVED. THE GIVEN ROWS OF THIS SEAT. 7 by the template 'for every input the law returns true; each argument reads behind the call as it read before'; 0 by the template 'total and deterministic' (their statements: YtiblggfihpobkabTotals.lean).
  GIVEN WITH THE SEED: the statements are not yours to turn. If you find one false, say at which input.
  Laid BY PROGRAM, IN A SANDBOX (cutbox-rows.mjs): the forced cells as the released guide's own fill.sh prints them over the translation 45768811d241aa6d… (all of the seat's roots in one cut). By AI agents, Wed Nov 11 2026. No macro, syntax, notation, axiom, sorry.
-/
import Derived.Test.YtiblggfihpobkabChecked
import GoSem.Claim
import GoSem.ClaimJoined
import GoSem.ClaimMapViews
import Derived.JoinedTies
import Derived.KernelRfl
namespace Go.Proofs.Ytiblggfihpobkab
/- THE CELL 'sum', in the pinned program and in every row, IS THE sha256 OF THE DUMP (.gsa) THAT YtiblggfihpobkabProg.lean LOADS. Nothing in Lean hashes anything: it is a label: what it is worth is what the hold of that sum in a sandbox is worth. -/
noncomputable def Try.pinned : Pinned := { name := "ytiblggfihpobkab", sum := "45768811d241aa6d676418430d97189ca4ba066bded73283e0d1099f846b91d6", checked := Try.checked }
namespace Rows
def none {H : Type} : Left H := { results := [], args := [] }

/-- 'laws.FnExactRingWithAll': WHATEVER THE INPUT: true; the input reads as it did. -/
def fnExactRingWithAllSpec : ChangeSpec := { name := "fnExactRingWithAll", fn := fun _ => fun
  | [d1, d2] => { results := [.lit (.bool true)], args := [d1, d2] }
  | _ => none }
def fnExactRingWithAllRow : OpenClaim := { program := "ytiblggfihpobkab", sum := "45768811d241aa6d676418430d97189ca4ba066bded73283e0d1099f846b91d6", func := "loop.example/g01337/laws.FnExactRingWithAll", spec := "fnExactRingWithAll", inPlace := ["internal/abi.NoEscape", "internal/bytealg.MakeNoZero"], unfollowed := true, recurses := true, apart := false }
def FnExactRingWithAllSaid : Prop := fnExactRingWithAllRow.holds Try.pinned (OpenSpec.ofChange fnExactRingWithAllSpec)

/-- ITS FALSE NEIGHBOUR: 'it returns false'. Refute it at one input. -/
def fnExactRingWithAllWrong : ChangeSpec := { name := "fnExactRingWithAll", fn := fun _ => fun
  | [d1, d2] => { results := [.lit (.bool false)], args := [d1, d2] }
  | _ => none }
def FnExactRingWithAllWrongFalsely : Prop := fnExactRingWithAllRow.holds Try.pinned (OpenSpec.ofChange fnExactRingWithAllWrong)

/-- 'laws.FnExactPrimeWords': WHATEVER THE INPUT: true; the input reads as it did. -/
def fnExactPrimeWordsSpec : ChangeSpec := { name := "fnExactPrimeWords", fn := fun _ => fun
  | [d1, d2] => { results := [.lit (.bool true)], args := [d1, d2] }
  | _ => none }
def fnExactPrimeWordsRow : OpenClaim := { program := "ytiblggfihpobkab", sum := "45768811d241aa6d676418430d97189ca4ba066bded73283e0d1099f846b91d6", func := "loop.example/g01337/laws.FnExactPrimeWords", spec := "fnExactPrimeWords", unfollowed := true, recurses := true, apart := false }
def FnExactPrimeWordsSaid : Prop := fnExactPrimeWordsRow.holds Try.pinned (OpenSpec.ofChange fnExactPrimeWordsSpec)

/-- ITS FALSE NEIGHBOUR: 'it returns false'. Refute it at one input. -/
def fnExactPrimeWordsWrong : ChangeSpec := { name := "fnExactPrimeWords", fn := fun _ => fun
  | [d1, d2] => { results := [.lit (.bool false)], args := [d1, d2] }
  | _ => none }
def FnExactPrimeWordsWrongFalsely : Prop := fnExactPrimeWordsRow.holds Try.pinned (OpenSpec.ofChange fnExactPrimeWordsWrong)

/-- 'laws.FnExactCountPrimeWords': WHATEVER THE INPUT: true; the input reads as it did. -/
def fnExactCountPrimeWordsSpec : ChangeSpec := { name := "fnExactCountPrimeWords", fn := fun _ => fun
  | [d1, d2] => { results := [.lit (.bool true)], args := [d1, d2] }
  | _ => none }
def fnExactCountPrimeWordsRow : OpenClaim := { program := "ytiblggfihpobkab", sum := "45768811d241aa6d676418430d97189ca4ba066bded73283e0d1099f846b91d6", func := "loop.example/g01337/laws.FnExactCountPrimeWords", spec := "fnExactCountPrimeWords", recurses := true, apart := false }
def FnExactCountPrimeWordsSaid : Prop := fnExactCountPrimeWordsRow.holds Try.pinned (OpenSpec.ofChange fnExactCountPrimeWordsSpec)

/-- ITS FALSE NEIGHBOUR: 'it returns false'. Refute it at one input. -/
def fnExactCountPrimeWordsWrong : ChangeSpec := { name := "fnExactCountPrimeWords", fn := fun _ => fun
  | [d1, d2] => { results := [.lit (.bool false)], args := [d1, d2] }
  | _ => none }
def FnExactCountPrimeWordsWrongFalsely : Prop := fnExactCountPrimeWordsRow.holds Try.pinned (OpenSpec.ofChange fnExactCountPrimeWordsWrong)

/-- 'laws.FnExactCountNecklaces': WHATEVER THE INPUT: true; the input reads as it did. -/
def fnExactCountNecklacesSpec : ChangeSpec := { name := "fnExactCountNecklaces", fn := fun _ => fun
  | [d1, d2] => { results := [.lit (.bool true)], args := [d1, d2] }
  | _ => none }
def fnExactCountNecklacesRow : OpenClaim := { program := "ytiblggfihpobkab", sum := "45768811d241aa6d676418430d97189ca4ba066bded73283e0d1099f846b91d6", func := "loop.example/g01337/laws.FnExactCountNecklaces", spec := "fnExactCountNecklaces", recurses := true, apart := false }
def FnExactCountNecklacesSaid : Prop := fnExactCountNecklacesRow.holds Try.pinned (OpenSpec.ofChange fnExactCountNecklacesSpec)

/-- ITS FALSE NEIGHBOUR: 'it returns false'. Refute it at one input. -/
def fnExactCountNecklacesWrong : ChangeSpec := { name := "fnExactCountNecklaces", fn := fun _ => fun
  | [d1, d2] => { results := [.lit (.bool false)], args := [d1, d2] }
  | _ => none }
def FnExactCountNecklacesWrongFalsely : Prop := fnExactCountNecklacesRow.holds Try.pinned (OpenSpec.ofChange fnExactCountNecklacesWrong)

/-- 'laws.FnExactWordOfRank': WHATEVER THE INPUT: true; the input reads as it did. -/
def fnExactWordOfRankSpec : ChangeSpec := { name := "fnExactWordOfRank", fn := fun _ => fun
  | [d1, d2, d3] => { results := [.lit (.bool true)], args := [d1, d2, d3] }
  | _ => none }
def fnExactWordOfRankRow : OpenClaim := { program := "ytiblggfihpobkab", sum := "45768811d241aa6d676418430d97189ca4ba066bded73283e0d1099f846b91d6", func := "loop.example/g01337/laws.FnExactWordOfRank", spec := "fnExactWordOfRank", unfollowed := true, recurses := true, apart := false }
def FnExactWordOfRankSaid : Prop := fnExactWordOfRankRow.holds Try.pinned (OpenSpec.ofChange fnExactWordOfRankSpec)

/-- ITS FALSE NEIGHBOUR: 'it returns false'. Refute it at one input. -/
def fnExactWordOfRankWrong : ChangeSpec := { name := "fnExactWordOfRank", fn := fun _ => fun
  | [d1, d2, d3] => { results := [.lit (.bool false)], args := [d1, d2, d3] }
  | _ => none }
def FnExactWordOfRankWrongFalsely : Prop := fnExactWordOfRankRow.holds Try.pinned (OpenSpec.ofChange fnExactWordOfRankWrong)

/-- 'laws.FnExactRenameStates': WHATEVER THE INPUT: true; the input reads as it did. -/
def fnExactRenameStatesSpec : ChangeSpec := { name := "fnExactRenameStates", fn := fun _ => fun
  | [d1, d2] => { results := [.lit (.bool true)], args := [d1, d2] }
  | _ => none }
def fnExactRenameStatesRow : OpenClaim := { program := "ytiblggfihpobkab", sum := "45768811d241aa6d676418430d97189ca4ba066bded73283e0d1099f846b91d6", func := "loop.example/g01337/laws.FnExactRenameStates", spec := "fnExactRenameStates", apart := false }
def FnExactRenameStatesSaid : Prop := fnExactRenameStatesRow.holds Try.pinned (OpenSpec.ofChange fnExactRenameStatesSpec)

/-- ITS FALSE NEIGHBOUR: 'it returns false'. Refute it at one input. -/
def fnExactRenameStatesWrong : ChangeSpec := { name := "fnExactRenameStates", fn := fun _ => fun
  | [d1, d2] => { results := [.lit (.bool false)], args := [d1, d2] }
  | _ => none }
def FnExactRenameStatesWrongFalsely : Prop := fnExactRenameStatesRow.holds Try.pinned (OpenSpec.ofChange fnExactRenameStatesWrong)

/-- 'laws.FnExactFirstWay': WHATEVER THE INPUT: true; the input reads as it did. -/
def fnExactFirstWaySpec : ChangeSpec := { name := "fnExactFirstWay", fn := fun _ => fun
  | [d1, d2, d3] => { results := [.lit (.bool true)], args := [d1, d2, d3] }
  | _ => none }
def fnExactFirstWayRow : OpenClaim := { program := "ytiblggfihpobkab", sum := "45768811d241aa6d676418430d97189ca4ba066bded73283e0d1099f846b91d6", func := "loop.example/g01337/laws.FnExactFirstWay", spec := "fnExactFirstWay", apart := false }
def FnExactFirstWaySaid : Prop := fnExactFirstWayRow.holds Try.pinned (OpenSpec.ofChange fnExactFirstWaySpec)

/-- ITS FALSE NEIGHBOUR: 'it returns false'. Refute it at one input. -/
def fnExactFirstWayWrong : ChangeSpec := { name := "fnExactFirstWay", fn := fun _ => fun
  | [d1, d2, d3] => { results := [.lit (.bool false)], args := [d1, d2, d3] }
  | _ => none }
def FnExactFirstWayWrongFalsely : Prop := fnExactFirstWayRow.holds Try.pinned (OpenSpec.ofChange fnExactFirstWayWrong)

/- THE SECOND FORM. 'bulk': how many values and letters a reading holds, each counted each time it is reached (what is shared counts as often as it is met; a slice's spare places count too). A statement '..UptoSaid' is the law's where the arguments, and the package variables that the reading takes, are together of bulk at most 1048576: NARROWER than '..Said'. Prove '..Said' where nothing that the law and all that it calls make is longer than what came in: it says more and counts as full. Else prove '..UptoSaid'. A law counts once. -/
mutual
def uptoBulk {H : Type} : DataW H → Nat
  | .lit (.string bytes) => bytes.length + 1
  | .lit _ => 1
  | .nil => 1
  | .ptr d => uptoBulk d + 1
  | .slice elems spare => uptoBulkAll elems + uptoBulkAll spare + 1
  | .agg parts => uptoBulkAll parts + 1
  | .iface _ d => uptoBulk d + 1
  | .map entries => uptoBulkEntries entries + 1
  | .held _ => 1
def uptoBulkAll {H : Type} : List (DataW H) → Nat
  | [] => 0
  | d :: r => uptoBulk d + uptoBulkAll r
def uptoBulkEntries {H : Type} : List (Lit × DataW H) → Nat
  | [] => 0
  | x :: r => uptoBulkEntry x + uptoBulkEntries r
def uptoBulkEntry {H : Type} : Lit × DataW H → Nat
  | (.string bytes, d) => bytes.length + uptoBulk d + 1
  | (_, d) => uptoBulk d + 1
 end
def uptoSmall : (H : Type) → List (DataW H) → Bool := fun _ ds => decide (uptoBulkAll ds ≤ 1048576)
def OpenSpec.upto (s : _root_.Go.ChangeSpec) : _root_.Go.OpenSpec := { _root_.Go.OpenSpec.ofChange s with cond := some uptoSmall }

/-- 'laws.FnExactRingWithAll', WHERE WHAT IT READS IS OF BULK AT MOST 1048576: true; the input reads as it did. -/
def fnExactRingWithAllUptoRow : OpenClaim := { program := "ytiblggfihpobkab", sum := "45768811d241aa6d676418430d97189ca4ba066bded73283e0d1099f846b91d6", func := "loop.example/g01337/laws.FnExactRingWithAll", spec := "fnExactRingWithAll", inPlace := ["internal/abi.NoEscape", "internal/bytealg.MakeNoZero"], unfollowed := true, recurses := true, apart := false, narrowed := true }
def FnExactRingWithAllUptoSaid : Prop := fnExactRingWithAllUptoRow.holds Try.pinned (OpenSpec.upto fnExactRingWithAllSpec)

/-- 'laws.FnExactPrimeWords', WHERE WHAT IT READS IS OF BULK AT MOST 1048576: true; the input reads as it did. -/
def fnExactPrimeWordsUptoRow : OpenClaim := { program := "ytiblggfihpobkab", sum := "45768811d241aa6d676418430d97189ca4ba066bded73283e0d1099f846b91d6", func := "loop.example/g01337/laws.FnExactPrimeWords", spec := "fnExactPrimeWords", unfollowed := true, recurses := true, apart := false, narrowed := true }
def FnExactPrimeWordsUptoSaid : Prop := fnExactPrimeWordsUptoRow.holds Try.pinned (OpenSpec.upto fnExactPrimeWordsSpec)

/-- 'laws.FnExactCountPrimeWords', WHERE WHAT IT READS IS OF BULK AT MOST 1048576: true; the input reads as it did. -/
def fnExactCountPrimeWordsUptoRow : OpenClaim := { program := "ytiblggfihpobkab", sum := "45768811d241aa6d676418430d97189ca4ba066bded73283e0d1099f846b91d6", func := "loop.example/g01337/laws.FnExactCountPrimeWords", spec := "fnExactCountPrimeWords", recurses := true, apart := false, narrowed := true }
def FnExactCountPrimeWordsUptoSaid : Prop := fnExactCountPrimeWordsUptoRow.holds Try.pinned (OpenSpec.upto fnExactCountPrimeWordsSpec)

/-- 'laws.FnExactCountNecklaces', WHERE WHAT IT READS IS OF BULK AT MOST 1048576: true; the input reads as it did. -/
def fnExactCountNecklacesUptoRow : OpenClaim := { program := "ytiblggfihpobkab", sum := "45768811d241aa6d676418430d97189ca4ba066bded73283e0d1099f846b91d6", func := "loop.example/g01337/laws.FnExactCountNecklaces", spec := "fnExactCountNecklaces", recurses := true, apart := false, narrowed := true }
def FnExactCountNecklacesUptoSaid : Prop := fnExactCountNecklacesUptoRow.holds Try.pinned (OpenSpec.upto fnExactCountNecklacesSpec)

/-- 'laws.FnExactWordOfRank', WHERE WHAT IT READS IS OF BULK AT MOST 1048576: true; the input reads as it did. -/
def fnExactWordOfRankUptoRow : OpenClaim := { program := "ytiblggfihpobkab", sum := "45768811d241aa6d676418430d97189ca4ba066bded73283e0d1099f846b91d6", func := "loop.example/g01337/laws.FnExactWordOfRank", spec := "fnExactWordOfRank", unfollowed := true, recurses := true, apart := false, narrowed := true }
def FnExactWordOfRankUptoSaid : Prop := fnExactWordOfRankUptoRow.holds Try.pinned (OpenSpec.upto fnExactWordOfRankSpec)

/-- 'laws.FnExactRenameStates', WHERE WHAT IT READS IS OF BULK AT MOST 1048576: true; the input reads as it did. -/
def fnExactRenameStatesUptoRow : OpenClaim := { program := "ytiblggfihpobkab", sum := "45768811d241aa6d676418430d97189ca4ba066bded73283e0d1099f846b91d6", func := "loop.example/g01337/laws.FnExactRenameStates", spec := "fnExactRenameStates", apart := false, narrowed := true }
def FnExactRenameStatesUptoSaid : Prop := fnExactRenameStatesUptoRow.holds Try.pinned (OpenSpec.upto fnExactRenameStatesSpec)

/-- 'laws.FnExactFirstWay', WHERE WHAT IT READS IS OF BULK AT MOST 1048576: true; the input reads as it did. -/
def fnExactFirstWayUptoRow : OpenClaim := { program := "ytiblggfihpobkab", sum := "45768811d241aa6d676418430d97189ca4ba066bded73283e0d1099f846b91d6", func := "loop.example/g01337/laws.FnExactFirstWay", spec := "fnExactFirstWay", apart := false, narrowed := true }
def FnExactFirstWayUptoSaid : Prop := fnExactFirstWayUptoRow.holds Try.pinned (OpenSpec.upto fnExactFirstWaySpec)

end Rows
end Go.Proofs.Ytiblggfihpobkab
