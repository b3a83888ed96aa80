/-
  No cell of these rows narrows 'for every input' (looked for: loops, veiled, ifaces, maps, wideKeys, modest, calm, conditions, laid).
  DERIVED. THE GIVEN ROWS OF THIS SEAT. 4 by the template 'for every input the law returns true; each argument reads behind the call as it read before'; 0 by the template 'total and deterministic' (their statements: YtjfcpbedmdnjcacTotals.lean).
  GIVEN WITH THE SEED: the statements are not yours to turn. If you find one false, say at which input.
  Laid BY PROGRAM, IN A SANDBOX (cutbox-rows.mjs): the forced cells as the released guide's own fill.sh prints them over the translation f9ca7879fd6d5959… (all of the seat's roots in one cut). By AI agents, Wed Nov 11 2026. No macro, syntax, notation, axiom, sorry.
-/
import Derived.Test.YtjfcpbedmdnjcacChecked
import GoSem.Claim
import GoSem.ClaimJoined
import GoSem.ClaimMapViews
import Derived.JoinedTies
import Derived.KernelRfl
namespace Go.Proofs.Ytjfcpbedmdnjcac
/- THE CELL 'sum', in the pinned program and in every row, IS THE sha256 OF THE DUMP (.gsa) THAT YtjfcpbedmdnjcacProg.lean LOADS. Nothing in Lean hashes anything: it is a label: what it is worth is what the hold of that sum in a sandbox is worth. -/
noncomputable def Try.pinned : Pinned := { name := "ytjfcpbedmdnjcac", sum := "f9ca7879fd6d5959e330a787a2a2cebf44cbf42278f9f59980c5059e2d201c4e", checked := Try.checked }
namespace Rows
def none {H : Type} : Left H := { results := [], args := [] }

/-- 'laws.FnExactTurnHidden': WHATEVER THE INPUT: true; the input reads as it did. -/
def fnExactTurnHiddenSpec : ChangeSpec := { name := "fnExactTurnHidden", fn := fun _ => fun
  | [d] => { results := [.lit (.bool true)], args := [d] }
  | _ => none }
def fnExactTurnHiddenRow : OpenClaim := { program := "ytjfcpbedmdnjcac", sum := "f9ca7879fd6d5959e330a787a2a2cebf44cbf42278f9f59980c5059e2d201c4e", func := "loop.example/g01337/laws.FnExactTurnHidden", spec := "fnExactTurnHidden", apart := false }
def FnExactTurnHiddenSaid : Prop := fnExactTurnHiddenRow.holds Try.pinned (OpenSpec.ofChange fnExactTurnHiddenSpec)

/-- ITS FALSE NEIGHBOUR: 'it returns false'. Refute it at one input. -/
def fnExactTurnHiddenWrong : ChangeSpec := { name := "fnExactTurnHidden", fn := fun _ => fun
  | [d] => { results := [.lit (.bool false)], args := [d] }
  | _ => none }
def FnExactTurnHiddenWrongFalsely : Prop := fnExactTurnHiddenRow.holds Try.pinned (OpenSpec.ofChange fnExactTurnHiddenWrong)

/-- 'laws.FnExactLikeliestDays': WHATEVER THE INPUT: true; the input reads as it did. -/
def fnExactLikeliestDaysSpec : ChangeSpec := { name := "fnExactLikeliestDays", fn := fun _ => fun
  | [d1, d2, d3] => { results := [.lit (.bool true)], args := [d1, d2, d3] }
  | _ => none }
def fnExactLikeliestDaysRow : OpenClaim := { program := "ytjfcpbedmdnjcac", sum := "f9ca7879fd6d5959e330a787a2a2cebf44cbf42278f9f59980c5059e2d201c4e", func := "loop.example/g01337/laws.FnExactLikeliestDays", spec := "fnExactLikeliestDays", unfollowed := true, recurses := true, apart := false }
def FnExactLikeliestDaysSaid : Prop := fnExactLikeliestDaysRow.holds Try.pinned (OpenSpec.ofChange fnExactLikeliestDaysSpec)

/-- ITS FALSE NEIGHBOUR: 'it returns false'. Refute it at one input. -/
def fnExactLikeliestDaysWrong : ChangeSpec := { name := "fnExactLikeliestDays", fn := fun _ => fun
  | [d1, d2, d3] => { results := [.lit (.bool false)], args := [d1, d2, d3] }
  | _ => none }
def FnExactLikeliestDaysWrongFalsely : Prop := fnExactLikeliestDaysRow.holds Try.pinned (OpenSpec.ofChange fnExactLikeliestDaysWrong)

/-- 'laws.FnExactRenameStates': WHATEVER THE INPUT: true; the input reads as it did. -/
def fnExactRenameStatesSpec : ChangeSpec := { name := "fnExactRenameStates", fn := fun _ => fun
  | [d1, d2] => { results := [.lit (.bool true)], args := [d1, d2] }
  | _ => none }
def fnExactRenameStatesRow : OpenClaim := { program := "ytjfcpbedmdnjcac", sum := "f9ca7879fd6d5959e330a787a2a2cebf44cbf42278f9f59980c5059e2d201c4e", func := "loop.example/g01337/laws.FnExactRenameStates", spec := "fnExactRenameStates", apart := false }
def FnExactRenameStatesSaid : Prop := fnExactRenameStatesRow.holds Try.pinned (OpenSpec.ofChange fnExactRenameStatesSpec)

/-- ITS FALSE NEIGHBOUR: 'it returns false'. Refute it at one input. -/
def fnExactRenameStatesWrong : ChangeSpec := { name := "fnExactRenameStates", fn := fun _ => fun
  | [d1, d2] => { results := [.lit (.bool false)], args := [d1, d2] }
  | _ => none }
def FnExactRenameStatesWrongFalsely : Prop := fnExactRenameStatesRow.holds Try.pinned (OpenSpec.ofChange fnExactRenameStatesWrong)

/-- 'laws.FnExactFirstWay': WHATEVER THE INPUT: true; the input reads as it did. -/
def fnExactFirstWaySpec : ChangeSpec := { name := "fnExactFirstWay", fn := fun _ => fun
  | [d1, d2, d3] => { results := [.lit (.bool true)], args := [d1, d2, d3] }
  | _ => none }
def fnExactFirstWayRow : OpenClaim := { program := "ytjfcpbedmdnjcac", sum := "f9ca7879fd6d5959e330a787a2a2cebf44cbf42278f9f59980c5059e2d201c4e", func := "loop.example/g01337/laws.FnExactFirstWay", spec := "fnExactFirstWay", apart := false }
def FnExactFirstWaySaid : Prop := fnExactFirstWayRow.holds Try.pinned (OpenSpec.ofChange fnExactFirstWaySpec)

/-- ITS FALSE NEIGHBOUR: 'it returns false'. Refute it at one input. -/
def fnExactFirstWayWrong : ChangeSpec := { name := "fnExactFirstWay", fn := fun _ => fun
  | [d1, d2, d3] => { results := [.lit (.bool false)], args := [d1, d2, d3] }
  | _ => none }
def FnExactFirstWayWrongFalsely : Prop := fnExactFirstWayRow.holds Try.pinned (OpenSpec.ofChange fnExactFirstWayWrong)

/- THE SECOND FORM. 'bulk': how many values and letters a reading holds, each counted each time it is reached (what is shared counts as often as it is met; a slice's spare places count too). A statement '..UptoSaid' is the law's where the arguments, and the package variables that the reading takes, are together of bulk at most 1048576: NARROWER than '..Said'. Prove '..Said' where nothing that the law and all that it calls make is longer than what came in: it says more and counts as full. Else prove '..UptoSaid'. A law counts once. -/
mutual
def uptoBulk {H : Type} : DataW H → Nat
  | .lit (.string bytes) => bytes.length + 1
  | .lit _ => 1
  | .nil => 1
  | .ptr d => uptoBulk d + 1
  | .slice elems spare => uptoBulkAll elems + uptoBulkAll spare + 1
  | .agg parts => uptoBulkAll parts + 1
  | .iface _ d => uptoBulk d + 1
  | .map entries => uptoBulkEntries entries + 1
  | .held _ => 1
def uptoBulkAll {H : Type} : List (DataW H) → Nat
  | [] => 0
  | d :: r => uptoBulk d + uptoBulkAll r
def uptoBulkEntries {H : Type} : List (Lit × DataW H) → Nat
  | [] => 0
  | x :: r => uptoBulkEntry x + uptoBulkEntries r
def uptoBulkEntry {H : Type} : Lit × DataW H → Nat
  | (.string bytes, d) => bytes.length + uptoBulk d + 1
  | (_, d) => uptoBulk d + 1
 end
def uptoSmall : (H : Type) → List (DataW H) → Bool := fun _ ds => decide (uptoBulkAll ds ≤ 1048576)
def OpenSpec.upto (s : _root_.Go.ChangeSpec) : _root_.Go.OpenSpec := { _root_.Go.OpenSpec.ofChange s with cond := some uptoSmall }

/-- 'laws.FnExactTurnHidden', WHERE WHAT IT READS IS OF BULK AT MOST 1048576: true; the input reads as it did. -/
def fnExactTurnHiddenUptoRow : OpenClaim := { program := "ytjfcpbedmdnjcac", sum := "f9ca7879fd6d5959e330a787a2a2cebf44cbf42278f9f59980c5059e2d201c4e", func := "loop.example/g01337/laws.FnExactTurnHidden", spec := "fnExactTurnHidden", apart := false, narrowed := true }
def FnExactTurnHiddenUptoSaid : Prop := fnExactTurnHiddenUptoRow.holds Try.pinned (OpenSpec.upto fnExactTurnHiddenSpec)

/-- 'laws.FnExactLikeliestDays', WHERE WHAT IT READS IS OF BULK AT MOST 1048576: true; the input reads as it did. -/
def fnExactLikeliestDaysUptoRow : OpenClaim := { program := "ytjfcpbedmdnjcac", sum := "f9ca7879fd6d5959e330a787a2a2cebf44cbf42278f9f59980c5059e2d201c4e", func := "loop.example/g01337/laws.FnExactLikeliestDays", spec := "fnExactLikeliestDays", unfollowed := true, recurses := true, apart := false, narrowed := true }
def FnExactLikeliestDaysUptoSaid : Prop := fnExactLikeliestDaysUptoRow.holds Try.pinned (OpenSpec.upto fnExactLikeliestDaysSpec)

/-- 'laws.FnExactRenameStates', WHERE WHAT IT READS IS OF BULK AT MOST 1048576: true; the input reads as it did. -/
def fnExactRenameStatesUptoRow : OpenClaim := { program := "ytjfcpbedmdnjcac", sum := "f9ca7879fd6d5959e330a787a2a2cebf44cbf42278f9f59980c5059e2d201c4e", func := "loop.example/g01337/laws.FnExactRenameStates", spec := "fnExactRenameStates", apart := false, narrowed := true }
def FnExactRenameStatesUptoSaid : Prop := fnExactRenameStatesUptoRow.holds Try.pinned (OpenSpec.upto fnExactRenameStatesSpec)

/-- 'laws.FnExactFirstWay', WHERE WHAT IT READS IS OF BULK AT MOST 1048576: true; the input reads as it did. -/
def fnExactFirstWayUptoRow : OpenClaim := { program := "ytjfcpbedmdnjcac", sum := "f9ca7879fd6d5959e330a787a2a2cebf44cbf42278f9f59980c5059e2d201c4e", func := "loop.example/g01337/laws.FnExactFirstWay", spec := "fnExactFirstWay", apart := false, narrowed := true }
def FnExactFirstWayUptoSaid : Prop := fnExactFirstWayUptoRow.holds Try.pinned (OpenSpec.upto fnExactFirstWaySpec)

end Rows
end Go.Proofs.Ytjfcpbedmdnjcac
