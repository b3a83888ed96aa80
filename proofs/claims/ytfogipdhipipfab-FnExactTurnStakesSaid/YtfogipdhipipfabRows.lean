/-
  No cell of these rows narrows 'for every input' (looked for: loops, veiled, ifaces, maps, wideKeys, modest, calm, conditions, laid).
  DERIVED. THE GIVEN ROWS OF THIS SEAT. 6 by the template 'for every input the law returns true; each argument reads behind the call as it read before'; 0 by the template 'total and deterministic' (their statements: YtfogipdhipipfabTotals.lean).
  GIVEN WITH THE SEED: the statements are not yours to turn. If you find one false, say at which input.
  Laid BY PROGRAM, IN A SANDBOX (cutbox-rows.mjs): the forced cells as the released guide's own fill.sh prints them over the translation b14f39455eb9d9bf… (all of the seat's roots in one cut). By AI agents, Wed Nov 11 2026. No macro, syntax, notation, axiom, sorry.
-/
import Derived.Test.YtfogipdhipipfabChecked
import GoSem.Claim
import GoSem.ClaimJoined
import GoSem.ClaimMapViews
import Derived.JoinedTies
import Derived.KernelRfl
namespace Go.Proofs.Ytfogipdhipipfab
/- THE CELL 'sum', in the pinned program and in every row, IS THE sha256 OF THE DUMP (.gsa) THAT YtfogipdhipipfabProg.lean LOADS. Nothing in Lean hashes anything: it is a label: what it is worth is what the hold of that sum in a sandbox is worth. -/
noncomputable def Try.pinned : Pinned := { name := "ytfogipdhipipfab", sum := "b14f39455eb9d9bfed5974b7ffc0d69d181c4c4f81cf0fd1b9241c58bfb746a3", checked := Try.checked }
namespace Rows
def none {H : Type} : Left H := { results := [], args := [] }

/-- 'laws.FnExactCountInPlay': WHATEVER THE INPUT: true; the input reads as it did. -/
def fnExactCountInPlaySpec : ChangeSpec := { name := "fnExactCountInPlay", fn := fun _ => fun
  | [d1, d2] => { results := [.lit (.bool true)], args := [d1, d2] }
  | _ => none }
def fnExactCountInPlayRow : OpenClaim := { program := "ytfogipdhipipfab", sum := "b14f39455eb9d9bfed5974b7ffc0d69d181c4c4f81cf0fd1b9241c58bfb746a3", func := "loop.example/g01337/laws.FnExactCountInPlay", spec := "fnExactCountInPlay", apart := false }
def FnExactCountInPlaySaid : Prop := fnExactCountInPlayRow.holds Try.pinned (OpenSpec.ofChange fnExactCountInPlaySpec)

/-- ITS FALSE NEIGHBOUR: 'it returns false'. Refute it at one input. -/
def fnExactCountInPlayWrong : ChangeSpec := { name := "fnExactCountInPlay", fn := fun _ => fun
  | [d1, d2] => { results := [.lit (.bool false)], args := [d1, d2] }
  | _ => none }
def FnExactCountInPlayWrongFalsely : Prop := fnExactCountInPlayRow.holds Try.pinned (OpenSpec.ofChange fnExactCountInPlayWrong)

/-- 'laws.FnExactNeededPurse': WHATEVER THE INPUT: true; the input reads as it did. -/
def fnExactNeededPurseSpec : ChangeSpec := { name := "fnExactNeededPurse", fn := fun _ => fun
  | [d1, d2, d3, d4] => { results := [.lit (.bool true)], args := [d1, d2, d3, d4] }
  | _ => none }
def fnExactNeededPurseRow : OpenClaim := { program := "ytfogipdhipipfab", sum := "b14f39455eb9d9bfed5974b7ffc0d69d181c4c4f81cf0fd1b9241c58bfb746a3", func := "loop.example/g01337/laws.FnExactNeededPurse", spec := "fnExactNeededPurse", apart := false }
def FnExactNeededPurseSaid : Prop := fnExactNeededPurseRow.holds Try.pinned (OpenSpec.ofChange fnExactNeededPurseSpec)

/-- ITS FALSE NEIGHBOUR: 'it returns false'. Refute it at one input. -/
def fnExactNeededPurseWrong : ChangeSpec := { name := "fnExactNeededPurse", fn := fun _ => fun
  | [d1, d2, d3, d4] => { results := [.lit (.bool false)], args := [d1, d2, d3, d4] }
  | _ => none }
def FnExactNeededPurseWrongFalsely : Prop := fnExactNeededPurseRow.holds Try.pinned (OpenSpec.ofChange fnExactNeededPurseWrong)

/-- 'laws.FnExactTurnStakes': WHATEVER THE INPUT: true; the input reads as it did. -/
def fnExactTurnStakesSpec : ChangeSpec := { name := "fnExactTurnStakes", fn := fun _ => fun
  | [d] => { results := [.lit (.bool true)], args := [d] }
  | _ => none }
def fnExactTurnStakesRow : OpenClaim := { program := "ytfogipdhipipfab", sum := "b14f39455eb9d9bfed5974b7ffc0d69d181c4c4f81cf0fd1b9241c58bfb746a3", func := "loop.example/g01337/laws.FnExactTurnStakes", spec := "fnExactTurnStakes", apart := false }
def FnExactTurnStakesSaid : Prop := fnExactTurnStakesRow.holds Try.pinned (OpenSpec.ofChange fnExactTurnStakesSpec)

/-- ITS FALSE NEIGHBOUR: 'it returns false'. Refute it at one input. -/
def fnExactTurnStakesWrong : ChangeSpec := { name := "fnExactTurnStakes", fn := fun _ => fun
  | [d] => { results := [.lit (.bool false)], args := [d] }
  | _ => none }
def FnExactTurnStakesWrongFalsely : Prop := fnExactTurnStakesRow.holds Try.pinned (OpenSpec.ofChange fnExactTurnStakesWrong)

/-- 'laws.FnExactRenameStates': WHATEVER THE INPUT: true; the input reads as it did. -/
def fnExactRenameStatesSpec : ChangeSpec := { name := "fnExactRenameStates", fn := fun _ => fun
  | [d1, d2] => { results := [.lit (.bool true)], args := [d1, d2] }
  | _ => none }
def fnExactRenameStatesRow : OpenClaim := { program := "ytfogipdhipipfab", sum := "b14f39455eb9d9bfed5974b7ffc0d69d181c4c4f81cf0fd1b9241c58bfb746a3", func := "loop.example/g01337/laws.FnExactRenameStates", spec := "fnExactRenameStates", apart := false }
def FnExactRenameStatesSaid : Prop := fnExactRenameStatesRow.holds Try.pinned (OpenSpec.ofChange fnExactRenameStatesSpec)

/-- ITS FALSE NEIGHBOUR: 'it returns false'. Refute it at one input. -/
def fnExactRenameStatesWrong : ChangeSpec := { name := "fnExactRenameStates", fn := fun _ => fun
  | [d1, d2] => { results := [.lit (.bool false)], args := [d1, d2] }
  | _ => none }
def FnExactRenameStatesWrongFalsely : Prop := fnExactRenameStatesRow.holds Try.pinned (OpenSpec.ofChange fnExactRenameStatesWrong)

/-- 'laws.FnExactFirstWay': WHATEVER THE INPUT: true; the input reads as it did. -/
def fnExactFirstWaySpec : ChangeSpec := { name := "fnExactFirstWay", fn := fun _ => fun
  | [d1, d2, d3] => { results := [.lit (.bool true)], args := [d1, d2, d3] }
  | _ => none }
def fnExactFirstWayRow : OpenClaim := { program := "ytfogipdhipipfab", sum := "b14f39455eb9d9bfed5974b7ffc0d69d181c4c4f81cf0fd1b9241c58bfb746a3", func := "loop.example/g01337/laws.FnExactFirstWay", spec := "fnExactFirstWay", apart := false }
def FnExactFirstWaySaid : Prop := fnExactFirstWayRow.holds Try.pinned (OpenSpec.ofChange fnExactFirstWaySpec)

/-- ITS FALSE NEIGHBOUR: 'it returns false'. Refute it at one input. -/
def fnExactFirstWayWrong : ChangeSpec := { name := "fnExactFirstWay", fn := fun _ => fun
  | [d1, d2, d3] => { results := [.lit (.bool false)], args := [d1, d2, d3] }
  | _ => none }
def FnExactFirstWayWrongFalsely : Prop := fnExactFirstWayRow.holds Try.pinned (OpenSpec.ofChange fnExactFirstWayWrong)

/-- 'laws.FnExactBestStakes': WHATEVER THE INPUT: true; the input reads as it did. -/
def fnExactBestStakesSpec : ChangeSpec := { name := "fnExactBestStakes", fn := fun _ => fun
  | [d1, d2, d3] => { results := [.lit (.bool true)], args := [d1, d2, d3] }
  | _ => none }
def fnExactBestStakesRow : OpenClaim := { program := "ytfogipdhipipfab", sum := "b14f39455eb9d9bfed5974b7ffc0d69d181c4c4f81cf0fd1b9241c58bfb746a3", func := "loop.example/g01337/laws.FnExactBestStakes", spec := "fnExactBestStakes", inPlace := ["(*sync.WaitGroup).Go", "(*sync.WaitGroup).Add", "internal/race.ReleaseMerge", "internal/race.Disable", "internal/race.Enable", "internal/synctest.IsInBubble", "internal/synctest.Associate[sync.WaitGroup]", "sync.fatal", "sync/atomic.OrUint64", "sync/atomic.AddUint64", "internal/race.Read", "sync/atomic.LoadUint64", "sync/atomic.StoreUint64", "internal/synctest.Disassociate[sync.WaitGroup]", "sync.runtime_Semrelease", "(*sync.WaitGroup).Go$1", "(*sync.WaitGroup).Go$1$1", "(*sync.WaitGroup).Done", "(*sync.WaitGroup).Wait", "internal/race.Acquire", "internal/synctest.IsAssociated[sync.WaitGroup]", "sync/atomic.CompareAndSwapUint64", "internal/race.Write", "sync.runtime_SemacquireWaitGroup"], unfollowed := true, recurses := true, leaving := true, apart := false }
def FnExactBestStakesSaid : Prop := fnExactBestStakesRow.holds Try.pinned (OpenSpec.ofChange fnExactBestStakesSpec)

/-- ITS FALSE NEIGHBOUR: 'it returns false'. Refute it at one input. -/
def fnExactBestStakesWrong : ChangeSpec := { name := "fnExactBestStakes", fn := fun _ => fun
  | [d1, d2, d3] => { results := [.lit (.bool false)], args := [d1, d2, d3] }
  | _ => none }
def FnExactBestStakesWrongFalsely : Prop := fnExactBestStakesRow.holds Try.pinned (OpenSpec.ofChange fnExactBestStakesWrong)

/- THE SECOND FORM. 'bulk': how many values and letters a reading holds, each counted each time it is reached (what is shared counts as often as it is met; a slice's spare places count too). A statement '..UptoSaid' is the law's where the arguments, and the package variables that the reading takes, are together of bulk at most 1048576: NARROWER than '..Said'. Prove '..Said' where nothing that the law and all that it calls make is longer than what came in: it says more and counts as full. Else prove '..UptoSaid'. A law counts once. -/
mutual
def uptoBulk {H : Type} : DataW H → Nat
  | .lit (.string bytes) => bytes.length + 1
  | .lit _ => 1
  | .nil => 1
  | .ptr d => uptoBulk d + 1
  | .slice elems spare => uptoBulkAll elems + uptoBulkAll spare + 1
  | .agg parts => uptoBulkAll parts + 1
  | .iface _ d => uptoBulk d + 1
  | .map entries => uptoBulkEntries entries + 1
  | .held _ => 1
def uptoBulkAll {H : Type} : List (DataW H) → Nat
  | [] => 0
  | d :: r => uptoBulk d + uptoBulkAll r
def uptoBulkEntries {H : Type} : List (Lit × DataW H) → Nat
  | [] => 0
  | x :: r => uptoBulkEntry x + uptoBulkEntries r
def uptoBulkEntry {H : Type} : Lit × DataW H → Nat
  | (.string bytes, d) => bytes.length + uptoBulk d + 1
  | (_, d) => uptoBulk d + 1
 end
def uptoSmall : (H : Type) → List (DataW H) → Bool := fun _ ds => decide (uptoBulkAll ds ≤ 1048576)
def OpenSpec.upto (s : _root_.Go.ChangeSpec) : _root_.Go.OpenSpec := { _root_.Go.OpenSpec.ofChange s with cond := some uptoSmall }

/-- 'laws.FnExactCountInPlay', WHERE WHAT IT READS IS OF BULK AT MOST 1048576: true; the input reads as it did. -/
def fnExactCountInPlayUptoRow : OpenClaim := { program := "ytfogipdhipipfab", sum := "b14f39455eb9d9bfed5974b7ffc0d69d181c4c4f81cf0fd1b9241c58bfb746a3", func := "loop.example/g01337/laws.FnExactCountInPlay", spec := "fnExactCountInPlay", apart := false, narrowed := true }
def FnExactCountInPlayUptoSaid : Prop := fnExactCountInPlayUptoRow.holds Try.pinned (OpenSpec.upto fnExactCountInPlaySpec)

/-- 'laws.FnExactNeededPurse', WHERE WHAT IT READS IS OF BULK AT MOST 1048576: true; the input reads as it did. -/
def fnExactNeededPurseUptoRow : OpenClaim := { program := "ytfogipdhipipfab", sum := "b14f39455eb9d9bfed5974b7ffc0d69d181c4c4f81cf0fd1b9241c58bfb746a3", func := "loop.example/g01337/laws.FnExactNeededPurse", spec := "fnExactNeededPurse", apart := false, narrowed := true }
def FnExactNeededPurseUptoSaid : Prop := fnExactNeededPurseUptoRow.holds Try.pinned (OpenSpec.upto fnExactNeededPurseSpec)

/-- 'laws.FnExactTurnStakes', WHERE WHAT IT READS IS OF BULK AT MOST 1048576: true; the input reads as it did. -/
def fnExactTurnStakesUptoRow : OpenClaim := { program := "ytfogipdhipipfab", sum := "b14f39455eb9d9bfed5974b7ffc0d69d181c4c4f81cf0fd1b9241c58bfb746a3", func := "loop.example/g01337/laws.FnExactTurnStakes", spec := "fnExactTurnStakes", apart := false, narrowed := true }
def FnExactTurnStakesUptoSaid : Prop := fnExactTurnStakesUptoRow.holds Try.pinned (OpenSpec.upto fnExactTurnStakesSpec)

/-- 'laws.FnExactRenameStates', WHERE WHAT IT READS IS OF BULK AT MOST 1048576: true; the input reads as it did. -/
def fnExactRenameStatesUptoRow : OpenClaim := { program := "ytfogipdhipipfab", sum := "b14f39455eb9d9bfed5974b7ffc0d69d181c4c4f81cf0fd1b9241c58bfb746a3", func := "loop.example/g01337/laws.FnExactRenameStates", spec := "fnExactRenameStates", apart := false, narrowed := true }
def FnExactRenameStatesUptoSaid : Prop := fnExactRenameStatesUptoRow.holds Try.pinned (OpenSpec.upto fnExactRenameStatesSpec)

/-- 'laws.FnExactFirstWay', WHERE WHAT IT READS IS OF BULK AT MOST 1048576: true; the input reads as it did. -/
def fnExactFirstWayUptoRow : OpenClaim := { program := "ytfogipdhipipfab", sum := "b14f39455eb9d9bfed5974b7ffc0d69d181c4c4f81cf0fd1b9241c58bfb746a3", func := "loop.example/g01337/laws.FnExactFirstWay", spec := "fnExactFirstWay", apart := false, narrowed := true }
def FnExactFirstWayUptoSaid : Prop := fnExactFirstWayUptoRow.holds Try.pinned (OpenSpec.upto fnExactFirstWaySpec)

/-- 'laws.FnExactBestStakes', WHERE WHAT IT READS IS OF BULK AT MOST 1048576: true; the input reads as it did. -/
def fnExactBestStakesUptoRow : OpenClaim := { program := "ytfogipdhipipfab", sum := "b14f39455eb9d9bfed5974b7ffc0d69d181c4c4f81cf0fd1b9241c58bfb746a3", func := "loop.example/g01337/laws.FnExactBestStakes", spec := "fnExactBestStakes", inPlace := ["(*sync.WaitGroup).Go", "(*sync.WaitGroup).Add", "internal/race.ReleaseMerge", "internal/race.Disable", "internal/race.Enable", "internal/synctest.IsInBubble", "internal/synctest.Associate[sync.WaitGroup]", "sync.fatal", "sync/atomic.OrUint64", "sync/atomic.AddUint64", "internal/race.Read", "sync/atomic.LoadUint64", "sync/atomic.StoreUint64", "internal/synctest.Disassociate[sync.WaitGroup]", "sync.runtime_Semrelease", "(*sync.WaitGroup).Go$1", "(*sync.WaitGroup).Go$1$1", "(*sync.WaitGroup).Done", "(*sync.WaitGroup).Wait", "internal/race.Acquire", "internal/synctest.IsAssociated[sync.WaitGroup]", "sync/atomic.CompareAndSwapUint64", "internal/race.Write", "sync.runtime_SemacquireWaitGroup"], unfollowed := true, recurses := true, leaving := true, apart := false, narrowed := true }
def FnExactBestStakesUptoSaid : Prop := fnExactBestStakesUptoRow.holds Try.pinned (OpenSpec.upto fnExactBestStakesSpec)

end Rows
end Go.Proofs.Ytfogipdhipipfab
