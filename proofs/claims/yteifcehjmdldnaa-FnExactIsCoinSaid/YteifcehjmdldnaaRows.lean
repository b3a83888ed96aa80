/-
  No cell of these rows narrows 'for every input' (looked for: loops, veiled, ifaces, maps, wideKeys, modest, calm, conditions, laid).
  DERIVED. THE GIVEN ROWS OF THIS SEAT. 2 by the template 'for every input the law returns true; each argument reads behind the call as it read before'; 0 by the template 'total and deterministic' (their statements: YteifcehjmdldnaaTotals.lean).
  GIVEN WITH THE SEED: the statements are not yours to turn. If you find one false, say at which input.
  Laid BY PROGRAM, IN A SANDBOX (cutbox-rows.mjs): the forced cells as the released guide's own fill.sh prints them over the translation 8ba17d5f30125013… (all of the seat's roots in one cut). By AI agents, Wed Nov 11 2026. No macro, syntax, notation, axiom, sorry.
-/
import Derived.Test.YteifcehjmdldnaaChecked
import GoSem.Claim
import GoSem.ClaimJoined
import GoSem.ClaimMapViews
import Derived.JoinedTies
import Derived.KernelRfl
namespace Go.Proofs.Yteifcehjmdldnaa
/- THE CELL 'sum', in the pinned program and in every row, IS THE sha256 OF THE DUMP (.gsa) THAT YteifcehjmdldnaaProg.lean LOADS. Nothing in Lean hashes anything: it is a label: what it is worth is what the hold of that sum in a sandbox is worth. -/
noncomputable def Try.pinned : Pinned := { name := "yteifcehjmdldnaa", sum := "8ba17d5f301250134bdd484e94ddec5a1102af0f648dd042f73d72a0f4f259ab", checked := Try.checked }
namespace Rows
def none {H : Type} : Left H := { results := [], args := [] }

/-- 'laws.FnExactLikeliestDays': WHATEVER THE INPUT: true; the input reads as it did. -/
def fnExactLikeliestDaysSpec : ChangeSpec := { name := "fnExactLikeliestDays", fn := fun _ => fun
  | [d1, d2, d3] => { results := [.lit (.bool true)], args := [d1, d2, d3] }
  | _ => none }
def fnExactLikeliestDaysRow : OpenClaim := { program := "yteifcehjmdldnaa", sum := "8ba17d5f301250134bdd484e94ddec5a1102af0f648dd042f73d72a0f4f259ab", func := "loop.example/g01337/laws.FnExactLikeliestDays", spec := "fnExactLikeliestDays", unfollowed := true, recurses := true, apart := false }
def FnExactLikeliestDaysSaid : Prop := fnExactLikeliestDaysRow.holds Try.pinned (OpenSpec.ofChange fnExactLikeliestDaysSpec)

/-- ITS FALSE NEIGHBOUR: 'it returns false'. Refute it at one input. -/
def fnExactLikeliestDaysWrong : ChangeSpec := { name := "fnExactLikeliestDays", fn := fun _ => fun
  | [d1, d2, d3] => { results := [.lit (.bool false)], args := [d1, d2, d3] }
  | _ => none }
def FnExactLikeliestDaysWrongFalsely : Prop := fnExactLikeliestDaysRow.holds Try.pinned (OpenSpec.ofChange fnExactLikeliestDaysWrong)

/-- 'laws.FnExactIsCoin': WHATEVER THE INPUT: true; the input reads as it did. -/
def fnExactIsCoinSpec : ChangeSpec := { name := "fnExactIsCoin", fn := fun _ => fun
  | [d] => { results := [.lit (.bool true)], args := [d] }
  | _ => none }
def fnExactIsCoinRow : OpenClaim := { program := "yteifcehjmdldnaa", sum := "8ba17d5f301250134bdd484e94ddec5a1102af0f648dd042f73d72a0f4f259ab", func := "loop.example/g01337/laws.FnExactIsCoin", spec := "fnExactIsCoin", apart := false }
def FnExactIsCoinSaid : Prop := fnExactIsCoinRow.holds Try.pinned (OpenSpec.ofChange fnExactIsCoinSpec)

/-- ITS FALSE NEIGHBOUR: 'it returns false'. Refute it at one input. -/
def fnExactIsCoinWrong : ChangeSpec := { name := "fnExactIsCoin", fn := fun _ => fun
  | [d] => { results := [.lit (.bool false)], args := [d] }
  | _ => none }
def FnExactIsCoinWrongFalsely : Prop := fnExactIsCoinRow.holds Try.pinned (OpenSpec.ofChange fnExactIsCoinWrong)

/- THE SECOND FORM. 'bulk': how many values and letters a reading holds, each counted each time it is reached (what is shared counts as often as it is met; a slice's spare places count too). A statement '..UptoSaid' is the law's where the arguments, and the package variables that the reading takes, are together of bulk at most 1048576: NARROWER than '..Said'. Prove '..Said' where nothing that the law and all that it calls make is longer than what came in: it says more and counts as full. Else prove '..UptoSaid'. A law counts once. -/
mutual
def uptoBulk {H : Type} : DataW H → Nat
  | .lit (.string bytes) => bytes.length + 1
  | .lit _ => 1
  | .nil => 1
  | .ptr d => uptoBulk d + 1
  | .slice elems spare => uptoBulkAll elems + uptoBulkAll spare + 1
  | .agg parts => uptoBulkAll parts + 1
  | .iface _ d => uptoBulk d + 1
  | .map entries => uptoBulkEntries entries + 1
  | .held _ => 1
def uptoBulkAll {H : Type} : List (DataW H) → Nat
  | [] => 0
  | d :: r => uptoBulk d + uptoBulkAll r
def uptoBulkEntries {H : Type} : List (Lit × DataW H) → Nat
  | [] => 0
  | x :: r => uptoBulkEntry x + uptoBulkEntries r
def uptoBulkEntry {H : Type} : Lit × DataW H → Nat
  | (.string bytes, d) => bytes.length + uptoBulk d + 1
  | (_, d) => uptoBulk d + 1
 end
def uptoSmall : (H : Type) → List (DataW H) → Bool := fun _ ds => decide (uptoBulkAll ds ≤ 1048576)
def OpenSpec.upto (s : _root_.Go.ChangeSpec) : _root_.Go.OpenSpec := { _root_.Go.OpenSpec.ofChange s with cond := some uptoSmall }

/-- 'laws.FnExactLikeliestDays', WHERE WHAT IT READS IS OF BULK AT MOST 1048576: true; the input reads as it did. -/
def fnExactLikeliestDaysUptoRow : OpenClaim := { program := "yteifcehjmdldnaa", sum := "8ba17d5f301250134bdd484e94ddec5a1102af0f648dd042f73d72a0f4f259ab", func := "loop.example/g01337/laws.FnExactLikeliestDays", spec := "fnExactLikeliestDays", unfollowed := true, recurses := true, apart := false, narrowed := true }
def FnExactLikeliestDaysUptoSaid : Prop := fnExactLikeliestDaysUptoRow.holds Try.pinned (OpenSpec.upto fnExactLikeliestDaysSpec)

/-- 'laws.FnExactIsCoin', WHERE WHAT IT READS IS OF BULK AT MOST 1048576: true; the input reads as it did. -/
def fnExactIsCoinUptoRow : OpenClaim := { program := "yteifcehjmdldnaa", sum := "8ba17d5f301250134bdd484e94ddec5a1102af0f648dd042f73d72a0f4f259ab", func := "loop.example/g01337/laws.FnExactIsCoin", spec := "fnExactIsCoin", apart := false, narrowed := true }
def FnExactIsCoinUptoSaid : Prop := fnExactIsCoinUptoRow.holds Try.pinned (OpenSpec.upto fnExactIsCoinSpec)

end Rows
end Go.Proofs.Yteifcehjmdldnaa
