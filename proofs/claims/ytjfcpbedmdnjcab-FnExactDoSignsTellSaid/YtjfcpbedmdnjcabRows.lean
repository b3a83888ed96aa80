/-
  No cell of these rows narrows 'for every input' (looked for: loops, veiled, ifaces, maps, wideKeys, modest, calm, conditions, laid).
  DERIVED. THE GIVEN ROWS OF THIS SEAT. 4 by the template 'for every input the law returns true; each argument reads behind the call as it read before'; 0 by the template 'total and deterministic' (their statements: YtjfcpbedmdnjcabTotals.lean).
  GIVEN WITH THE SEED: the statements are not yours to turn. If you find one false, say at which input.
  Laid BY PROGRAM, IN A SANDBOX (cutbox-rows.mjs): the forced cells as the released guide's own fill.sh prints them over the translation d220aebfe892ae79… (all of the seat's roots in one cut). By AI agents, Wed Nov 11 2026. No macro, syntax, notation, axiom, sorry.
-/
import Derived.Test.YtjfcpbedmdnjcabChecked
import GoSem.Claim
import GoSem.ClaimJoined
import GoSem.ClaimMapViews
import Derived.JoinedTies
import Derived.KernelRfl
namespace Go.Proofs.Ytjfcpbedmdnjcab
/- THE CELL 'sum', in the pinned program and in every row, IS THE sha256 OF THE DUMP (.gsa) THAT YtjfcpbedmdnjcabProg.lean LOADS. Nothing in Lean hashes anything: it is a label: what it is worth is what the hold of that sum in a sandbox is worth. -/
noncomputable def Try.pinned : Pinned := { name := "ytjfcpbedmdnjcab", sum := "d220aebfe892ae790155f3827ce89678aa05be0704476b1b3af205c252fd9205", checked := Try.checked }
namespace Rows
def none {H : Type} : Left H := { results := [], args := [] }

/-- 'laws.FnExactLikeliestSigns': WHATEVER THE INPUT: true; the input reads as it did. -/
def fnExactLikeliestSignsSpec : ChangeSpec := { name := "fnExactLikeliestSigns", fn := fun _ => fun
  | [d1, d2] => { results := [.lit (.bool true)], args := [d1, d2] }
  | _ => none }
def fnExactLikeliestSignsRow : OpenClaim := { program := "ytjfcpbedmdnjcab", sum := "d220aebfe892ae790155f3827ce89678aa05be0704476b1b3af205c252fd9205", func := "loop.example/g01337/laws.FnExactLikeliestSigns", spec := "fnExactLikeliestSigns", inPlace := ["internal/bytealg.IndexByteString"], unfollowed := true, recurses := true, apart := false }
def FnExactLikeliestSignsSaid : Prop := fnExactLikeliestSignsRow.holds Try.pinned (OpenSpec.ofChange fnExactLikeliestSignsSpec)

/-- ITS FALSE NEIGHBOUR: 'it returns false'. Refute it at one input. -/
def fnExactLikeliestSignsWrong : ChangeSpec := { name := "fnExactLikeliestSigns", fn := fun _ => fun
  | [d1, d2] => { results := [.lit (.bool false)], args := [d1, d2] }
  | _ => none }
def FnExactLikeliestSignsWrongFalsely : Prop := fnExactLikeliestSignsRow.holds Try.pinned (OpenSpec.ofChange fnExactLikeliestSignsWrong)

/-- 'laws.FnExactMeanSigns': WHATEVER THE INPUT: true; the input reads as it did. -/
def fnExactMeanSignsSpec : ChangeSpec := { name := "fnExactMeanSigns", fn := fun _ => fun
  | [d1, d2] => { results := [.lit (.bool true)], args := [d1, d2] }
  | _ => none }
def fnExactMeanSignsRow : OpenClaim := { program := "ytjfcpbedmdnjcab", sum := "d220aebfe892ae790155f3827ce89678aa05be0704476b1b3af205c252fd9205", func := "loop.example/g01337/laws.FnExactMeanSigns", spec := "fnExactMeanSigns", inPlace := ["internal/bytealg.CountString", "internal/bytealg.IndexByteString", "internal/bytealg.IndexString"], unfollowed := true, recurses := true, named := ["internal/bytealg.MaxLen"], apart := false }
def FnExactMeanSignsSaid : Prop := fnExactMeanSignsRow.holds Try.pinned (OpenSpec.ofChange fnExactMeanSignsSpec)

/-- ITS FALSE NEIGHBOUR: 'it returns false'. Refute it at one input. -/
def fnExactMeanSignsWrong : ChangeSpec := { name := "fnExactMeanSigns", fn := fun _ => fun
  | [d1, d2] => { results := [.lit (.bool false)], args := [d1, d2] }
  | _ => none }
def FnExactMeanSignsWrongFalsely : Prop := fnExactMeanSignsRow.holds Try.pinned (OpenSpec.ofChange fnExactMeanSignsWrong)

/-- 'laws.FnExactIsHidden': WHATEVER THE INPUT: true; the input reads as it did. -/
def fnExactIsHiddenSpec : ChangeSpec := { name := "fnExactIsHidden", fn := fun _ => fun
  | [d] => { results := [.lit (.bool true)], args := [d] }
  | _ => none }
def fnExactIsHiddenRow : OpenClaim := { program := "ytjfcpbedmdnjcab", sum := "d220aebfe892ae790155f3827ce89678aa05be0704476b1b3af205c252fd9205", func := "loop.example/g01337/laws.FnExactIsHidden", spec := "fnExactIsHidden", apart := false }
def FnExactIsHiddenSaid : Prop := fnExactIsHiddenRow.holds Try.pinned (OpenSpec.ofChange fnExactIsHiddenSpec)

/-- ITS FALSE NEIGHBOUR: 'it returns false'. Refute it at one input. -/
def fnExactIsHiddenWrong : ChangeSpec := { name := "fnExactIsHidden", fn := fun _ => fun
  | [d] => { results := [.lit (.bool false)], args := [d] }
  | _ => none }
def FnExactIsHiddenWrongFalsely : Prop := fnExactIsHiddenRow.holds Try.pinned (OpenSpec.ofChange fnExactIsHiddenWrong)

/-- 'laws.FnExactDoSignsTell': WHATEVER THE INPUT: true; the input reads as it did. -/
def fnExactDoSignsTellSpec : ChangeSpec := { name := "fnExactDoSignsTell", fn := fun _ => fun
  | [d] => { results := [.lit (.bool true)], args := [d] }
  | _ => none }
def fnExactDoSignsTellRow : OpenClaim := { program := "ytjfcpbedmdnjcab", sum := "d220aebfe892ae790155f3827ce89678aa05be0704476b1b3af205c252fd9205", func := "loop.example/g01337/laws.FnExactDoSignsTell", spec := "fnExactDoSignsTell", apart := false }
def FnExactDoSignsTellSaid : Prop := fnExactDoSignsTellRow.holds Try.pinned (OpenSpec.ofChange fnExactDoSignsTellSpec)

/-- ITS FALSE NEIGHBOUR: 'it returns false'. Refute it at one input. -/
def fnExactDoSignsTellWrong : ChangeSpec := { name := "fnExactDoSignsTell", fn := fun _ => fun
  | [d] => { results := [.lit (.bool false)], args := [d] }
  | _ => none }
def FnExactDoSignsTellWrongFalsely : Prop := fnExactDoSignsTellRow.holds Try.pinned (OpenSpec.ofChange fnExactDoSignsTellWrong)

/- THE SECOND FORM. 'bulk': how many values and letters a reading holds, each counted each time it is reached (what is shared counts as often as it is met; a slice's spare places count too). A statement '..UptoSaid' is the law's where the arguments, and the package variables that the reading takes, are together of bulk at most 1048576: NARROWER than '..Said'. Prove '..Said' where nothing that the law and all that it calls make is longer than what came in: it says more and counts as full. Else prove '..UptoSaid'. A law counts once. -/
mutual
def uptoBulk {H : Type} : DataW H → Nat
  | .lit (.string bytes) => bytes.length + 1
  | .lit _ => 1
  | .nil => 1
  | .ptr d => uptoBulk d + 1
  | .slice elems spare => uptoBulkAll elems + uptoBulkAll spare + 1
  | .agg parts => uptoBulkAll parts + 1
  | .iface _ d => uptoBulk d + 1
  | .map entries => uptoBulkEntries entries + 1
  | .held _ => 1
def uptoBulkAll {H : Type} : List (DataW H) → Nat
  | [] => 0
  | d :: r => uptoBulk d + uptoBulkAll r
def uptoBulkEntries {H : Type} : List (Lit × DataW H) → Nat
  | [] => 0
  | x :: r => uptoBulkEntry x + uptoBulkEntries r
def uptoBulkEntry {H : Type} : Lit × DataW H → Nat
  | (.string bytes, d) => bytes.length + uptoBulk d + 1
  | (_, d) => uptoBulk d + 1
 end
def uptoSmall : (H : Type) → List (DataW H) → Bool := fun _ ds => decide (uptoBulkAll ds ≤ 1048576)
def OpenSpec.upto (s : _root_.Go.ChangeSpec) : _root_.Go.OpenSpec := { _root_.Go.OpenSpec.ofChange s with cond := some uptoSmall }

/-- 'laws.FnExactLikeliestSigns', WHERE WHAT IT READS IS OF BULK AT MOST 1048576: true; the input reads as it did. -/
def fnExactLikeliestSignsUptoRow : OpenClaim := { program := "ytjfcpbedmdnjcab", sum := "d220aebfe892ae790155f3827ce89678aa05be0704476b1b3af205c252fd9205", func := "loop.example/g01337/laws.FnExactLikeliestSigns", spec := "fnExactLikeliestSigns", inPlace := ["internal/bytealg.IndexByteString"], unfollowed := true, recurses := true, apart := false, narrowed := true }
def FnExactLikeliestSignsUptoSaid : Prop := fnExactLikeliestSignsUptoRow.holds Try.pinned (OpenSpec.upto fnExactLikeliestSignsSpec)

/-- 'laws.FnExactMeanSigns', WHERE WHAT IT READS IS OF BULK AT MOST 1048576: true; the input reads as it did. -/
def fnExactMeanSignsUptoRow : OpenClaim := { program := "ytjfcpbedmdnjcab", sum := "d220aebfe892ae790155f3827ce89678aa05be0704476b1b3af205c252fd9205", func := "loop.example/g01337/laws.FnExactMeanSigns", spec := "fnExactMeanSigns", inPlace := ["internal/bytealg.CountString", "internal/bytealg.IndexByteString", "internal/bytealg.IndexString"], unfollowed := true, recurses := true, named := ["internal/bytealg.MaxLen"], apart := false, narrowed := true }
def FnExactMeanSignsUptoSaid : Prop := fnExactMeanSignsUptoRow.holds Try.pinned (OpenSpec.upto fnExactMeanSignsSpec)

/-- 'laws.FnExactIsHidden', WHERE WHAT IT READS IS OF BULK AT MOST 1048576: true; the input reads as it did. -/
def fnExactIsHiddenUptoRow : OpenClaim := { program := "ytjfcpbedmdnjcab", sum := "d220aebfe892ae790155f3827ce89678aa05be0704476b1b3af205c252fd9205", func := "loop.example/g01337/laws.FnExactIsHidden", spec := "fnExactIsHidden", apart := false, narrowed := true }
def FnExactIsHiddenUptoSaid : Prop := fnExactIsHiddenUptoRow.holds Try.pinned (OpenSpec.upto fnExactIsHiddenSpec)

/-- 'laws.FnExactDoSignsTell', WHERE WHAT IT READS IS OF BULK AT MOST 1048576: true; the input reads as it did. -/
def fnExactDoSignsTellUptoRow : OpenClaim := { program := "ytjfcpbedmdnjcab", sum := "d220aebfe892ae790155f3827ce89678aa05be0704476b1b3af205c252fd9205", func := "loop.example/g01337/laws.FnExactDoSignsTell", spec := "fnExactDoSignsTell", apart := false, narrowed := true }
def FnExactDoSignsTellUptoSaid : Prop := fnExactDoSignsTellUptoRow.holds Try.pinned (OpenSpec.upto fnExactDoSignsTellSpec)

end Rows
end Go.Proofs.Ytjfcpbedmdnjcab
