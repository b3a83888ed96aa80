/-
  No cell of these rows narrows 'for every input' (looked for: loops, veiled, ifaces, maps, wideKeys, modest, calm, conditions, laid).
  DERIVED. THE GIVEN ROWS OF THIS SEAT. 5 by the template 'for every input the law returns true; each argument reads behind the call as it read before'; 0 by the template 'total and deterministic' (their statements: YtnpghbbmhehnlaaTotals.lean).
  GIVEN WITH THE SEED: the statements are not yours to turn. If you find one false, say at which input.
  Laid BY PROGRAM, IN A SANDBOX (cutbox-rows.mjs): the forced cells as the released guide's own fill.sh prints them over the translation e63290efe5974ceb… (all of the seat's roots in one cut). By AI agents, Wed Nov 11 2026. No macro, syntax, notation, axiom, sorry.
-/
import Derived.Test.YtnpghbbmhehnlaaChecked
import GoSem.Claim
import GoSem.ClaimJoined
import GoSem.ClaimMapViews
import Derived.JoinedTies
import Derived.KernelRfl
namespace Go.Proofs.Ytnpghbbmhehnlaa
/- THE CELL 'sum', in the pinned program and in every row, IS THE sha256 OF THE DUMP (.gsa) THAT YtnpghbbmhehnlaaProg.lean LOADS. Nothing in Lean hashes anything: it is a label: what it is worth is what the hold of that sum in a sandbox is worth. -/
noncomputable def Try.pinned : Pinned := { name := "ytnpghbbmhehnlaa", sum := "e63290efe5974cebcd47960a94ebad1bd0c51d5503242d1c84a09e15f70fd63e", checked := Try.checked }
namespace Rows
def none {H : Type} : Left H := { results := [], args := [] }

/-- 'laws.FnExactChanceToGive': WHATEVER THE INPUT: true; the input reads as it did. -/
def fnExactChanceToGiveSpec : ChangeSpec := { name := "fnExactChanceToGive", fn := fun _ => fun
  | [d] => { results := [.lit (.bool true)], args := [d] }
  | _ => none }
def fnExactChanceToGiveRow : OpenClaim := { program := "ytnpghbbmhehnlaa", sum := "e63290efe5974cebcd47960a94ebad1bd0c51d5503242d1c84a09e15f70fd63e", func := "loop.example/g01337/laws.FnExactChanceToGive", spec := "fnExactChanceToGive", apart := false }
def FnExactChanceToGiveSaid : Prop := fnExactChanceToGiveRow.holds Try.pinned (OpenSpec.ofChange fnExactChanceToGiveSpec)

/-- ITS FALSE NEIGHBOUR: 'it returns false'. Refute it at one input. -/
def fnExactChanceToGiveWrong : ChangeSpec := { name := "fnExactChanceToGive", fn := fun _ => fun
  | [d] => { results := [.lit (.bool false)], args := [d] }
  | _ => none }
def FnExactChanceToGiveWrongFalsely : Prop := fnExactChanceToGiveRow.holds Try.pinned (OpenSpec.ofChange fnExactChanceToGiveWrong)

/-- 'laws.FnExactMeanTosses': WHATEVER THE INPUT: true; the input reads as it did. -/
def fnExactMeanTossesSpec : ChangeSpec := { name := "fnExactMeanTosses", fn := fun _ => fun
  | [d] => { results := [.lit (.bool true)], args := [d] }
  | _ => none }
def fnExactMeanTossesRow : OpenClaim := { program := "ytnpghbbmhehnlaa", sum := "e63290efe5974cebcd47960a94ebad1bd0c51d5503242d1c84a09e15f70fd63e", func := "loop.example/g01337/laws.FnExactMeanTosses", spec := "fnExactMeanTosses", apart := false }
def FnExactMeanTossesSaid : Prop := fnExactMeanTossesRow.holds Try.pinned (OpenSpec.ofChange fnExactMeanTossesSpec)

/-- ITS FALSE NEIGHBOUR: 'it returns false'. Refute it at one input. -/
def fnExactMeanTossesWrong : ChangeSpec := { name := "fnExactMeanTosses", fn := fun _ => fun
  | [d] => { results := [.lit (.bool false)], args := [d] }
  | _ => none }
def FnExactMeanTossesWrongFalsely : Prop := fnExactMeanTossesRow.holds Try.pinned (OpenSpec.ofChange fnExactMeanTossesWrong)

/-- 'laws.FnExactMeanFair': WHATEVER THE INPUT: true; the input reads as it did. -/
def fnExactMeanFairSpec : ChangeSpec := { name := "fnExactMeanFair", fn := fun _ => fun
  | [d1, d2] => { results := [.lit (.bool true)], args := [d1, d2] }
  | _ => none }
def fnExactMeanFairRow : OpenClaim := { program := "ytnpghbbmhehnlaa", sum := "e63290efe5974cebcd47960a94ebad1bd0c51d5503242d1c84a09e15f70fd63e", func := "loop.example/g01337/laws.FnExactMeanFair", spec := "fnExactMeanFair", apart := false }
def FnExactMeanFairSaid : Prop := fnExactMeanFairRow.holds Try.pinned (OpenSpec.ofChange fnExactMeanFairSpec)

/-- ITS FALSE NEIGHBOUR: 'it returns false'. Refute it at one input. -/
def fnExactMeanFairWrong : ChangeSpec := { name := "fnExactMeanFair", fn := fun _ => fun
  | [d1, d2] => { results := [.lit (.bool false)], args := [d1, d2] }
  | _ => none }
def FnExactMeanFairWrongFalsely : Prop := fnExactMeanFairRow.holds Try.pinned (OpenSpec.ofChange fnExactMeanFairWrong)

/-- 'laws.FnExactMeanForRoll': WHATEVER THE INPUT: true; the input reads as it did. -/
def fnExactMeanForRollSpec : ChangeSpec := { name := "fnExactMeanForRoll", fn := fun _ => fun
  | [d] => { results := [.lit (.bool true)], args := [d] }
  | _ => none }
def fnExactMeanForRollRow : OpenClaim := { program := "ytnpghbbmhehnlaa", sum := "e63290efe5974cebcd47960a94ebad1bd0c51d5503242d1c84a09e15f70fd63e", func := "loop.example/g01337/laws.FnExactMeanForRoll", spec := "fnExactMeanForRoll", apart := false }
def FnExactMeanForRollSaid : Prop := fnExactMeanForRollRow.holds Try.pinned (OpenSpec.ofChange fnExactMeanForRollSpec)

/-- ITS FALSE NEIGHBOUR: 'it returns false'. Refute it at one input. -/
def fnExactMeanForRollWrong : ChangeSpec := { name := "fnExactMeanForRoll", fn := fun _ => fun
  | [d] => { results := [.lit (.bool false)], args := [d] }
  | _ => none }
def FnExactMeanForRollWrongFalsely : Prop := fnExactMeanForRollRow.holds Try.pinned (OpenSpec.ofChange fnExactMeanForRollWrong)

/-- 'laws.FnExactMeanKeeping': WHATEVER THE INPUT: true; the input reads as it did. -/
def fnExactMeanKeepingSpec : ChangeSpec := { name := "fnExactMeanKeeping", fn := fun _ => fun
  | [d] => { results := [.lit (.bool true)], args := [d] }
  | _ => none }
def fnExactMeanKeepingRow : OpenClaim := { program := "ytnpghbbmhehnlaa", sum := "e63290efe5974cebcd47960a94ebad1bd0c51d5503242d1c84a09e15f70fd63e", func := "loop.example/g01337/laws.FnExactMeanKeeping", spec := "fnExactMeanKeeping", apart := false }
def FnExactMeanKeepingSaid : Prop := fnExactMeanKeepingRow.holds Try.pinned (OpenSpec.ofChange fnExactMeanKeepingSpec)

/-- ITS FALSE NEIGHBOUR: 'it returns false'. Refute it at one input. -/
def fnExactMeanKeepingWrong : ChangeSpec := { name := "fnExactMeanKeeping", fn := fun _ => fun
  | [d] => { results := [.lit (.bool false)], args := [d] }
  | _ => none }
def FnExactMeanKeepingWrongFalsely : Prop := fnExactMeanKeepingRow.holds Try.pinned (OpenSpec.ofChange fnExactMeanKeepingWrong)

/- THE SECOND FORM. 'bulk': how many values and letters a reading holds, each counted each time it is reached (what is shared counts as often as it is met; a slice's spare places count too). A statement '..UptoSaid' is the law's where the arguments, and the package variables that the reading takes, are together of bulk at most 1048576: NARROWER than '..Said'. Prove '..Said' where nothing that the law and all that it calls make is longer than what came in: it says more and counts as full. Else prove '..UptoSaid'. A law counts once. -/
mutual
def uptoBulk {H : Type} : DataW H → Nat
  | .lit (.string bytes) => bytes.length + 1
  | .lit _ => 1
  | .nil => 1
  | .ptr d => uptoBulk d + 1
  | .slice elems spare => uptoBulkAll elems + uptoBulkAll spare + 1
  | .agg parts => uptoBulkAll parts + 1
  | .iface _ d => uptoBulk d + 1
  | .map entries => uptoBulkEntries entries + 1
  | .held _ => 1
def uptoBulkAll {H : Type} : List (DataW H) → Nat
  | [] => 0
  | d :: r => uptoBulk d + uptoBulkAll r
def uptoBulkEntries {H : Type} : List (Lit × DataW H) → Nat
  | [] => 0
  | x :: r => uptoBulkEntry x + uptoBulkEntries r
def uptoBulkEntry {H : Type} : Lit × DataW H → Nat
  | (.string bytes, d) => bytes.length + uptoBulk d + 1
  | (_, d) => uptoBulk d + 1
 end
def uptoSmall : (H : Type) → List (DataW H) → Bool := fun _ ds => decide (uptoBulkAll ds ≤ 1048576)
def OpenSpec.upto (s : _root_.Go.ChangeSpec) : _root_.Go.OpenSpec := { _root_.Go.OpenSpec.ofChange s with cond := some uptoSmall }

/-- 'laws.FnExactChanceToGive', WHERE WHAT IT READS IS OF BULK AT MOST 1048576: true; the input reads as it did. -/
def fnExactChanceToGiveUptoRow : OpenClaim := { program := "ytnpghbbmhehnlaa", sum := "e63290efe5974cebcd47960a94ebad1bd0c51d5503242d1c84a09e15f70fd63e", func := "loop.example/g01337/laws.FnExactChanceToGive", spec := "fnExactChanceToGive", apart := false, narrowed := true }
def FnExactChanceToGiveUptoSaid : Prop := fnExactChanceToGiveUptoRow.holds Try.pinned (OpenSpec.upto fnExactChanceToGiveSpec)

/-- 'laws.FnExactMeanTosses', WHERE WHAT IT READS IS OF BULK AT MOST 1048576: true; the input reads as it did. -/
def fnExactMeanTossesUptoRow : OpenClaim := { program := "ytnpghbbmhehnlaa", sum := "e63290efe5974cebcd47960a94ebad1bd0c51d5503242d1c84a09e15f70fd63e", func := "loop.example/g01337/laws.FnExactMeanTosses", spec := "fnExactMeanTosses", apart := false, narrowed := true }
def FnExactMeanTossesUptoSaid : Prop := fnExactMeanTossesUptoRow.holds Try.pinned (OpenSpec.upto fnExactMeanTossesSpec)

/-- 'laws.FnExactMeanFair', WHERE WHAT IT READS IS OF BULK AT MOST 1048576: true; the input reads as it did. -/
def fnExactMeanFairUptoRow : OpenClaim := { program := "ytnpghbbmhehnlaa", sum := "e63290efe5974cebcd47960a94ebad1bd0c51d5503242d1c84a09e15f70fd63e", func := "loop.example/g01337/laws.FnExactMeanFair", spec := "fnExactMeanFair", apart := false, narrowed := true }
def FnExactMeanFairUptoSaid : Prop := fnExactMeanFairUptoRow.holds Try.pinned (OpenSpec.upto fnExactMeanFairSpec)

/-- 'laws.FnExactMeanForRoll', WHERE WHAT IT READS IS OF BULK AT MOST 1048576: true; the input reads as it did. -/
def fnExactMeanForRollUptoRow : OpenClaim := { program := "ytnpghbbmhehnlaa", sum := "e63290efe5974cebcd47960a94ebad1bd0c51d5503242d1c84a09e15f70fd63e", func := "loop.example/g01337/laws.FnExactMeanForRoll", spec := "fnExactMeanForRoll", apart := false, narrowed := true }
def FnExactMeanForRollUptoSaid : Prop := fnExactMeanForRollUptoRow.holds Try.pinned (OpenSpec.upto fnExactMeanForRollSpec)

/-- 'laws.FnExactMeanKeeping', WHERE WHAT IT READS IS OF BULK AT MOST 1048576: true; the input reads as it did. -/
def fnExactMeanKeepingUptoRow : OpenClaim := { program := "ytnpghbbmhehnlaa", sum := "e63290efe5974cebcd47960a94ebad1bd0c51d5503242d1c84a09e15f70fd63e", func := "loop.example/g01337/laws.FnExactMeanKeeping", spec := "fnExactMeanKeeping", apart := false, narrowed := true }
def FnExactMeanKeepingUptoSaid : Prop := fnExactMeanKeepingUptoRow.holds Try.pinned (OpenSpec.upto fnExactMeanKeepingSpec)

end Rows
end Go.Proofs.Ytnpghbbmhehnlaa
