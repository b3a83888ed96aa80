/-
  NARROWER THAN 'FOR EVERY INPUT', by the rows' own cells (each row's printed sentence says how): FnExactCountWithout: laid · FnExactCountFirstAt: laid · FnExactChanceBy: laid · FnExactCountWonAt: laid · FnExactCountOpen: laid · FnExactCountManyWonAt: laid · FnExactCountManyOpen: laid · FnExactAreManyRacers: laid · FnExactWinnerOfMany: laid.
  DERIVED. THE GIVEN ROWS OF THIS SEAT. 9 by the template 'for every input the law returns true; each argument reads behind the call as it read before'; 0 by the template 'total and deterministic' (their statements: YtjckmnbpfmcadacDoorTotals.lean).
  GIVEN WITH THE SEED: the statements are not yours to turn. If you find one false, say at which input.
  Laid BY PROGRAM, IN A SANDBOX (cutbox-rows.mjs): the forced cells as the released guide's own fill.sh prints them over the translation e1083d53cdbf78c3… (all of the seat's roots in one cut). By AI agents, Wed Nov 11 2026. No macro, syntax, notation, axiom, sorry.
-/
import Derived.Test.YtjckmnbpfmcadacDoorChecked
import GoSem.PinnedTables
import GoSem.Claim
import GoSem.ClaimJoined
import GoSem.ClaimMapViews
import Derived.JoinedTies
import Derived.KernelRfl
namespace Go.Proofs.YtjckmnbpfmcadacDoor
/- THE CELL 'sum', in the pinned program and in every row, IS THE sha256 OF THE DUMP (.gsa) THAT YtjckmnbpfmcadacDoorProg.lean LOADS. Nothing in Lean hashes anything: it is a label: what it is worth is what the hold of that sum in a sandbox is worth. -/
noncomputable def Tryd.pinned : Pinned := { name := "ytjckmnbpfmcadacdoor", sum := "e1083d53cdbf78c3ada3dc9466d9c52df563e31630e9cb44752a40d7ade39f52", checked := Tryd.checked }
namespace Rows
def none {H : Type} : Left H := { results := [], args := [] }

/- WHAT THE LISTED PACKAGE-LEVEL VARIABLES READ AS WHEN THE CALL BEGINS. Each datum BY PROGRAM (the guide's laid-datum.mjs) off the statement by which the dump's own 'gosem.cut.vars' lays the variable. In a bare row this is a premise. The card (YtjckmnbpfmcadacDoorCards.lean) ties it to the program's text. -/
def laid_unicode_utf8_acceptRanges {H : Type} : DataW H := .agg [.agg [.lit (.int .u8 128), .lit (.int .u8 191)], .agg [.lit (.int .u8 160), .lit (.int .u8 191)], .agg [.lit (.int .u8 128), .lit (.int .u8 159)], .agg [.lit (.int .u8 144), .lit (.int .u8 191)], .agg [.lit (.int .u8 128), .lit (.int .u8 143)], .agg [.lit (.int .u8 0), .lit (.int .u8 0)], .agg [.lit (.int .u8 0), .lit (.int .u8 0)], .agg [.lit (.int .u8 0), .lit (.int .u8 0)], .agg [.lit (.int .u8 0), .lit (.int .u8 0)], .agg [.lit (.int .u8 0), .lit (.int .u8 0)], .agg [.lit (.int .u8 0), .lit (.int .u8 0)], .agg [.lit (.int .u8 0), .lit (.int .u8 0)], .agg [.lit (.int .u8 0), .lit (.int .u8 0)], .agg [.lit (.int .u8 0), .lit (.int .u8 0)], .agg [.lit (.int .u8 0), .lit (.int .u8 0)], .agg [.lit (.int .u8 0), .lit (.int .u8 0)]]
/-- One of Go's own tables, pinned by name: the form's constant. -/
def laid_unicode_utf8_first : DataW Unit := Go.Pinned.utf8First

/-- 'laws.FnExactCountWithout': WHATEVER THE INPUT: true; the input reads as it did. -/
def fnExactCountWithoutSpec : ChangeSpec := { name := "fnExactCountWithout", fn := fun _ => fun
  | [d1, d2] => { results := [.lit (.bool true)], args := [d1, d2] }
  | _ => none }
def fnExactCountWithoutRow : OpenClaim := { program := "ytjckmnbpfmcadacdoor", sum := "e1083d53cdbf78c3ada3dc9466d9c52df563e31630e9cb44752a40d7ade39f52", func := "loop.example/g01337/laws.FnExactCountWithout", spec := "fnExactCountWithout", inPlace := ["internal/bytealg.IndexByteString", "internal/bytealg.IndexString"], unfollowed := true, recurses := true, named := ["unicode/utf8.first", "unicode/utf8.acceptRanges", "internal/bytealg.MaxLen"], apart := false, laid := [("unicode/utf8.acceptRanges", laid_unicode_utf8_acceptRanges), ("unicode/utf8.first", laid_unicode_utf8_first)] }
def FnExactCountWithoutSaid : Prop := fnExactCountWithoutRow.holds Tryd.pinned (OpenSpec.ofChange fnExactCountWithoutSpec)

/-- ITS FALSE NEIGHBOUR: 'it returns false'. Refute it at one input. -/
def fnExactCountWithoutWrong : ChangeSpec := { name := "fnExactCountWithout", fn := fun _ => fun
  | [d1, d2] => { results := [.lit (.bool false)], args := [d1, d2] }
  | _ => none }
def FnExactCountWithoutWrongFalsely : Prop := fnExactCountWithoutRow.holds Tryd.pinned (OpenSpec.ofChange fnExactCountWithoutWrong)

/-- 'laws.FnExactCountFirstAt': WHATEVER THE INPUT: true; the input reads as it did. -/
def fnExactCountFirstAtSpec : ChangeSpec := { name := "fnExactCountFirstAt", fn := fun _ => fun
  | [d1, d2] => { results := [.lit (.bool true)], args := [d1, d2] }
  | _ => none }
def fnExactCountFirstAtRow : OpenClaim := { program := "ytjckmnbpfmcadacdoor", sum := "e1083d53cdbf78c3ada3dc9466d9c52df563e31630e9cb44752a40d7ade39f52", func := "loop.example/g01337/laws.FnExactCountFirstAt", spec := "fnExactCountFirstAt", inPlace := ["internal/bytealg.IndexByteString", "internal/bytealg.IndexString"], unfollowed := true, recurses := true, named := ["unicode/utf8.first", "unicode/utf8.acceptRanges", "internal/bytealg.MaxLen"], apart := false, laid := [("unicode/utf8.acceptRanges", laid_unicode_utf8_acceptRanges), ("unicode/utf8.first", laid_unicode_utf8_first)] }
def FnExactCountFirstAtSaid : Prop := fnExactCountFirstAtRow.holds Tryd.pinned (OpenSpec.ofChange fnExactCountFirstAtSpec)

/-- ITS FALSE NEIGHBOUR: 'it returns false'. Refute it at one input. -/
def fnExactCountFirstAtWrong : ChangeSpec := { name := "fnExactCountFirstAt", fn := fun _ => fun
  | [d1, d2] => { results := [.lit (.bool false)], args := [d1, d2] }
  | _ => none }
def FnExactCountFirstAtWrongFalsely : Prop := fnExactCountFirstAtRow.holds Tryd.pinned (OpenSpec.ofChange fnExactCountFirstAtWrong)

/-- 'laws.FnExactChanceBy': WHATEVER THE INPUT: true; the input reads as it did. -/
def fnExactChanceBySpec : ChangeSpec := { name := "fnExactChanceBy", fn := fun _ => fun
  | [d1, d2, d3] => { results := [.lit (.bool true)], args := [d1, d2, d3] }
  | _ => none }
def fnExactChanceByRow : OpenClaim := { program := "ytjckmnbpfmcadacdoor", sum := "e1083d53cdbf78c3ada3dc9466d9c52df563e31630e9cb44752a40d7ade39f52", func := "loop.example/g01337/laws.FnExactChanceBy", spec := "fnExactChanceBy", inPlace := ["internal/bytealg.IndexByteString", "internal/bytealg.IndexString"], unfollowed := true, recurses := true, named := ["unicode/utf8.first", "unicode/utf8.acceptRanges", "internal/bytealg.MaxLen"], apart := false, laid := [("unicode/utf8.acceptRanges", laid_unicode_utf8_acceptRanges), ("unicode/utf8.first", laid_unicode_utf8_first)] }
def FnExactChanceBySaid : Prop := fnExactChanceByRow.holds Tryd.pinned (OpenSpec.ofChange fnExactChanceBySpec)

/-- ITS FALSE NEIGHBOUR: 'it returns false'. Refute it at one input. -/
def fnExactChanceByWrong : ChangeSpec := { name := "fnExactChanceBy", fn := fun _ => fun
  | [d1, d2, d3] => { results := [.lit (.bool false)], args := [d1, d2, d3] }
  | _ => none }
def FnExactChanceByWrongFalsely : Prop := fnExactChanceByRow.holds Tryd.pinned (OpenSpec.ofChange fnExactChanceByWrong)

/-- 'laws.FnExactCountWonAt': WHATEVER THE INPUT: true; the input reads as it did. -/
def fnExactCountWonAtSpec : ChangeSpec := { name := "fnExactCountWonAt", fn := fun _ => fun
  | [d1, d2, d3] => { results := [.lit (.bool true)], args := [d1, d2, d3] }
  | _ => none }
def fnExactCountWonAtRow : OpenClaim := { program := "ytjckmnbpfmcadacdoor", sum := "e1083d53cdbf78c3ada3dc9466d9c52df563e31630e9cb44752a40d7ade39f52", func := "loop.example/g01337/laws.FnExactCountWonAt", spec := "fnExactCountWonAt", inPlace := ["internal/bytealg.IndexByteString", "internal/bytealg.IndexString"], unfollowed := true, recurses := true, named := ["unicode/utf8.first", "unicode/utf8.acceptRanges", "internal/bytealg.MaxLen"], apart := false, laid := [("unicode/utf8.acceptRanges", laid_unicode_utf8_acceptRanges), ("unicode/utf8.first", laid_unicode_utf8_first)] }
def FnExactCountWonAtSaid : Prop := fnExactCountWonAtRow.holds Tryd.pinned (OpenSpec.ofChange fnExactCountWonAtSpec)

/-- ITS FALSE NEIGHBOUR: 'it returns false'. Refute it at one input. -/
def fnExactCountWonAtWrong : ChangeSpec := { name := "fnExactCountWonAt", fn := fun _ => fun
  | [d1, d2, d3] => { results := [.lit (.bool false)], args := [d1, d2, d3] }
  | _ => none }
def FnExactCountWonAtWrongFalsely : Prop := fnExactCountWonAtRow.holds Tryd.pinned (OpenSpec.ofChange fnExactCountWonAtWrong)

/-- 'laws.FnExactCountOpen': WHATEVER THE INPUT: true; the input reads as it did. -/
def fnExactCountOpenSpec : ChangeSpec := { name := "fnExactCountOpen", fn := fun _ => fun
  | [d1, d2, d3] => { results := [.lit (.bool true)], args := [d1, d2, d3] }
  | _ => none }
def fnExactCountOpenRow : OpenClaim := { program := "ytjckmnbpfmcadacdoor", sum := "e1083d53cdbf78c3ada3dc9466d9c52df563e31630e9cb44752a40d7ade39f52", func := "loop.example/g01337/laws.FnExactCountOpen", spec := "fnExactCountOpen", inPlace := ["internal/bytealg.IndexByteString", "internal/bytealg.IndexString"], unfollowed := true, recurses := true, named := ["unicode/utf8.first", "unicode/utf8.acceptRanges", "internal/bytealg.MaxLen"], apart := false, laid := [("unicode/utf8.acceptRanges", laid_unicode_utf8_acceptRanges), ("unicode/utf8.first", laid_unicode_utf8_first)] }
def FnExactCountOpenSaid : Prop := fnExactCountOpenRow.holds Tryd.pinned (OpenSpec.ofChange fnExactCountOpenSpec)

/-- ITS FALSE NEIGHBOUR: 'it returns false'. Refute it at one input. -/
def fnExactCountOpenWrong : ChangeSpec := { name := "fnExactCountOpen", fn := fun _ => fun
  | [d1, d2, d3] => { results := [.lit (.bool false)], args := [d1, d2, d3] }
  | _ => none }
def FnExactCountOpenWrongFalsely : Prop := fnExactCountOpenRow.holds Tryd.pinned (OpenSpec.ofChange fnExactCountOpenWrong)

/-- 'laws.FnExactCountManyWonAt': WHATEVER THE INPUT: true; the input reads as it did. -/
def fnExactCountManyWonAtSpec : ChangeSpec := { name := "fnExactCountManyWonAt", fn := fun _ => fun
  | [d1, d2, d3] => { results := [.lit (.bool true)], args := [d1, d2, d3] }
  | _ => none }
def fnExactCountManyWonAtRow : OpenClaim := { program := "ytjckmnbpfmcadacdoor", sum := "e1083d53cdbf78c3ada3dc9466d9c52df563e31630e9cb44752a40d7ade39f52", func := "loop.example/g01337/laws.FnExactCountManyWonAt", spec := "fnExactCountManyWonAt", inPlace := ["internal/bytealg.IndexByteString", "internal/bytealg.IndexString"], unfollowed := true, recurses := true, named := ["unicode/utf8.first", "unicode/utf8.acceptRanges", "internal/bytealg.MaxLen"], apart := false, laid := [("unicode/utf8.acceptRanges", laid_unicode_utf8_acceptRanges), ("unicode/utf8.first", laid_unicode_utf8_first)] }
def FnExactCountManyWonAtSaid : Prop := fnExactCountManyWonAtRow.holds Tryd.pinned (OpenSpec.ofChange fnExactCountManyWonAtSpec)

/-- ITS FALSE NEIGHBOUR: 'it returns false'. Refute it at one input. -/
def fnExactCountManyWonAtWrong : ChangeSpec := { name := "fnExactCountManyWonAt", fn := fun _ => fun
  | [d1, d2, d3] => { results := [.lit (.bool false)], args := [d1, d2, d3] }
  | _ => none }
def FnExactCountManyWonAtWrongFalsely : Prop := fnExactCountManyWonAtRow.holds Tryd.pinned (OpenSpec.ofChange fnExactCountManyWonAtWrong)

/-- 'laws.FnExactCountManyOpen': WHATEVER THE INPUT: true; the input reads as it did. -/
def fnExactCountManyOpenSpec : ChangeSpec := { name := "fnExactCountManyOpen", fn := fun _ => fun
  | [d1, d2] => { results := [.lit (.bool true)], args := [d1, d2] }
  | _ => none }
def fnExactCountManyOpenRow : OpenClaim := { program := "ytjckmnbpfmcadacdoor", sum := "e1083d53cdbf78c3ada3dc9466d9c52df563e31630e9cb44752a40d7ade39f52", func := "loop.example/g01337/laws.FnExactCountManyOpen", spec := "fnExactCountManyOpen", inPlace := ["internal/bytealg.IndexByteString", "internal/bytealg.IndexString"], unfollowed := true, recurses := true, named := ["unicode/utf8.first", "unicode/utf8.acceptRanges", "internal/bytealg.MaxLen"], apart := false, laid := [("unicode/utf8.acceptRanges", laid_unicode_utf8_acceptRanges), ("unicode/utf8.first", laid_unicode_utf8_first)] }
def FnExactCountManyOpenSaid : Prop := fnExactCountManyOpenRow.holds Tryd.pinned (OpenSpec.ofChange fnExactCountManyOpenSpec)

/-- ITS FALSE NEIGHBOUR: 'it returns false'. Refute it at one input. -/
def fnExactCountManyOpenWrong : ChangeSpec := { name := "fnExactCountManyOpen", fn := fun _ => fun
  | [d1, d2] => { results := [.lit (.bool false)], args := [d1, d2] }
  | _ => none }
def FnExactCountManyOpenWrongFalsely : Prop := fnExactCountManyOpenRow.holds Tryd.pinned (OpenSpec.ofChange fnExactCountManyOpenWrong)

/-- 'laws.FnExactAreManyRacers': WHATEVER THE INPUT: true; the input reads as it did. -/
def fnExactAreManyRacersSpec : ChangeSpec := { name := "fnExactAreManyRacers", fn := fun _ => fun
  | [d] => { results := [.lit (.bool true)], args := [d] }
  | _ => none }
def fnExactAreManyRacersRow : OpenClaim := { program := "ytjckmnbpfmcadacdoor", sum := "e1083d53cdbf78c3ada3dc9466d9c52df563e31630e9cb44752a40d7ade39f52", func := "loop.example/g01337/laws.FnExactAreManyRacers", spec := "fnExactAreManyRacers", inPlace := ["internal/bytealg.IndexByteString", "internal/bytealg.IndexString"], named := ["unicode/utf8.first", "unicode/utf8.acceptRanges", "internal/bytealg.MaxLen"], apart := false, laid := [("unicode/utf8.acceptRanges", laid_unicode_utf8_acceptRanges), ("unicode/utf8.first", laid_unicode_utf8_first)] }
def FnExactAreManyRacersSaid : Prop := fnExactAreManyRacersRow.holds Tryd.pinned (OpenSpec.ofChange fnExactAreManyRacersSpec)

/-- ITS FALSE NEIGHBOUR: 'it returns false'. Refute it at one input. -/
def fnExactAreManyRacersWrong : ChangeSpec := { name := "fnExactAreManyRacers", fn := fun _ => fun
  | [d] => { results := [.lit (.bool false)], args := [d] }
  | _ => none }
def FnExactAreManyRacersWrongFalsely : Prop := fnExactAreManyRacersRow.holds Tryd.pinned (OpenSpec.ofChange fnExactAreManyRacersWrong)

/-- 'laws.FnExactWinnerOfMany': WHATEVER THE INPUT: true; the input reads as it did. -/
def fnExactWinnerOfManySpec : ChangeSpec := { name := "fnExactWinnerOfMany", fn := fun _ => fun
  | [d1, d2] => { results := [.lit (.bool true)], args := [d1, d2] }
  | _ => none }
def fnExactWinnerOfManyRow : OpenClaim := { program := "ytjckmnbpfmcadacdoor", sum := "e1083d53cdbf78c3ada3dc9466d9c52df563e31630e9cb44752a40d7ade39f52", func := "loop.example/g01337/laws.FnExactWinnerOfMany", spec := "fnExactWinnerOfMany", inPlace := ["internal/bytealg.IndexByteString", "internal/bytealg.IndexString"], named := ["unicode/utf8.first", "unicode/utf8.acceptRanges", "internal/bytealg.MaxLen"], apart := false, laid := [("unicode/utf8.acceptRanges", laid_unicode_utf8_acceptRanges), ("unicode/utf8.first", laid_unicode_utf8_first)] }
def FnExactWinnerOfManySaid : Prop := fnExactWinnerOfManyRow.holds Tryd.pinned (OpenSpec.ofChange fnExactWinnerOfManySpec)

/-- ITS FALSE NEIGHBOUR: 'it returns false'. Refute it at one input. -/
def fnExactWinnerOfManyWrong : ChangeSpec := { name := "fnExactWinnerOfMany", fn := fun _ => fun
  | [d1, d2] => { results := [.lit (.bool false)], args := [d1, d2] }
  | _ => none }
def FnExactWinnerOfManyWrongFalsely : Prop := fnExactWinnerOfManyRow.holds Tryd.pinned (OpenSpec.ofChange fnExactWinnerOfManyWrong)

/- THE SECOND FORM. 'bulk': how many values and letters a reading holds, each counted each time it is reached (what is shared counts as often as it is met; a slice's spare places count too). A statement '..UptoSaid' is the law's where the arguments, and the package variables that the reading takes, are together of bulk at most 1048576: NARROWER than '..Said'. Prove '..Said' where nothing that the law and all that it calls make is longer than what came in: it says more and counts as full. Else prove '..UptoSaid'. A law counts once. -/
mutual
def uptoBulk {H : Type} : DataW H → Nat
  | .lit (.string bytes) => bytes.length + 1
  | .lit _ => 1
  | .nil => 1
  | .ptr d => uptoBulk d + 1
  | .slice elems spare => uptoBulkAll elems + uptoBulkAll spare + 1
  | .agg parts => uptoBulkAll parts + 1
  | .iface _ d => uptoBulk d + 1
  | .map entries => uptoBulkEntries entries + 1
  | .held _ => 1
def uptoBulkAll {H : Type} : List (DataW H) → Nat
  | [] => 0
  | d :: r => uptoBulk d + uptoBulkAll r
def uptoBulkEntries {H : Type} : List (Lit × DataW H) → Nat
  | [] => 0
  | x :: r => uptoBulkEntry x + uptoBulkEntries r
def uptoBulkEntry {H : Type} : Lit × DataW H → Nat
  | (.string bytes, d) => bytes.length + uptoBulk d + 1
  | (_, d) => uptoBulk d + 1
 end
def uptoSmall : (H : Type) → List (DataW H) → Bool := fun _ ds => decide (uptoBulkAll ds ≤ 1048576)
def OpenSpec.upto (s : _root_.Go.ChangeSpec) : _root_.Go.OpenSpec := { _root_.Go.OpenSpec.ofChange s with cond := some uptoSmall }

/-- 'laws.FnExactCountWithout', WHERE WHAT IT READS IS OF BULK AT MOST 1048576: true; the input reads as it did. -/
def fnExactCountWithoutUptoRow : OpenClaim := { program := "ytjckmnbpfmcadacdoor", sum := "e1083d53cdbf78c3ada3dc9466d9c52df563e31630e9cb44752a40d7ade39f52", func := "loop.example/g01337/laws.FnExactCountWithout", spec := "fnExactCountWithout", inPlace := ["internal/bytealg.IndexByteString", "internal/bytealg.IndexString"], unfollowed := true, recurses := true, named := ["unicode/utf8.first", "unicode/utf8.acceptRanges", "internal/bytealg.MaxLen"], apart := false, laid := [("unicode/utf8.acceptRanges", laid_unicode_utf8_acceptRanges), ("unicode/utf8.first", laid_unicode_utf8_first)], narrowed := true }
def FnExactCountWithoutUptoSaid : Prop := fnExactCountWithoutUptoRow.holds Tryd.pinned (OpenSpec.upto fnExactCountWithoutSpec)

/-- 'laws.FnExactCountFirstAt', WHERE WHAT IT READS IS OF BULK AT MOST 1048576: true; the input reads as it did. -/
def fnExactCountFirstAtUptoRow : OpenClaim := { program := "ytjckmnbpfmcadacdoor", sum := "e1083d53cdbf78c3ada3dc9466d9c52df563e31630e9cb44752a40d7ade39f52", func := "loop.example/g01337/laws.FnExactCountFirstAt", spec := "fnExactCountFirstAt", inPlace := ["internal/bytealg.IndexByteString", "internal/bytealg.IndexString"], unfollowed := true, recurses := true, named := ["unicode/utf8.first", "unicode/utf8.acceptRanges", "internal/bytealg.MaxLen"], apart := false, laid := [("unicode/utf8.acceptRanges", laid_unicode_utf8_acceptRanges), ("unicode/utf8.first", laid_unicode_utf8_first)], narrowed := true }
def FnExactCountFirstAtUptoSaid : Prop := fnExactCountFirstAtUptoRow.holds Tryd.pinned (OpenSpec.upto fnExactCountFirstAtSpec)

/-- 'laws.FnExactChanceBy', WHERE WHAT IT READS IS OF BULK AT MOST 1048576: true; the input reads as it did. -/
def fnExactChanceByUptoRow : OpenClaim := { program := "ytjckmnbpfmcadacdoor", sum := "e1083d53cdbf78c3ada3dc9466d9c52df563e31630e9cb44752a40d7ade39f52", func := "loop.example/g01337/laws.FnExactChanceBy", spec := "fnExactChanceBy", inPlace := ["internal/bytealg.IndexByteString", "internal/bytealg.IndexString"], unfollowed := true, recurses := true, named := ["unicode/utf8.first", "unicode/utf8.acceptRanges", "internal/bytealg.MaxLen"], apart := false, laid := [("unicode/utf8.acceptRanges", laid_unicode_utf8_acceptRanges), ("unicode/utf8.first", laid_unicode_utf8_first)], narrowed := true }
def FnExactChanceByUptoSaid : Prop := fnExactChanceByUptoRow.holds Tryd.pinned (OpenSpec.upto fnExactChanceBySpec)

/-- 'laws.FnExactCountWonAt', WHERE WHAT IT READS IS OF BULK AT MOST 1048576: true; the input reads as it did. -/
def fnExactCountWonAtUptoRow : OpenClaim := { program := "ytjckmnbpfmcadacdoor", sum := "e1083d53cdbf78c3ada3dc9466d9c52df563e31630e9cb44752a40d7ade39f52", func := "loop.example/g01337/laws.FnExactCountWonAt", spec := "fnExactCountWonAt", inPlace := ["internal/bytealg.IndexByteString", "internal/bytealg.IndexString"], unfollowed := true, recurses := true, named := ["unicode/utf8.first", "unicode/utf8.acceptRanges", "internal/bytealg.MaxLen"], apart := false, laid := [("unicode/utf8.acceptRanges", laid_unicode_utf8_acceptRanges), ("unicode/utf8.first", laid_unicode_utf8_first)], narrowed := true }
def FnExactCountWonAtUptoSaid : Prop := fnExactCountWonAtUptoRow.holds Tryd.pinned (OpenSpec.upto fnExactCountWonAtSpec)

/-- 'laws.FnExactCountOpen', WHERE WHAT IT READS IS OF BULK AT MOST 1048576: true; the input reads as it did. -/
def fnExactCountOpenUptoRow : OpenClaim := { program := "ytjckmnbpfmcadacdoor", sum := "e1083d53cdbf78c3ada3dc9466d9c52df563e31630e9cb44752a40d7ade39f52", func := "loop.example/g01337/laws.FnExactCountOpen", spec := "fnExactCountOpen", inPlace := ["internal/bytealg.IndexByteString", "internal/bytealg.IndexString"], unfollowed := true, recurses := true, named := ["unicode/utf8.first", "unicode/utf8.acceptRanges", "internal/bytealg.MaxLen"], apart := false, laid := [("unicode/utf8.acceptRanges", laid_unicode_utf8_acceptRanges), ("unicode/utf8.first", laid_unicode_utf8_first)], narrowed := true }
def FnExactCountOpenUptoSaid : Prop := fnExactCountOpenUptoRow.holds Tryd.pinned (OpenSpec.upto fnExactCountOpenSpec)

/-- 'laws.FnExactCountManyWonAt', WHERE WHAT IT READS IS OF BULK AT MOST 1048576: true; the input reads as it did. -/
def fnExactCountManyWonAtUptoRow : OpenClaim := { program := "ytjckmnbpfmcadacdoor", sum := "e1083d53cdbf78c3ada3dc9466d9c52df563e31630e9cb44752a40d7ade39f52", func := "loop.example/g01337/laws.FnExactCountManyWonAt", spec := "fnExactCountManyWonAt", inPlace := ["internal/bytealg.IndexByteString", "internal/bytealg.IndexString"], unfollowed := true, recurses := true, named := ["unicode/utf8.first", "unicode/utf8.acceptRanges", "internal/bytealg.MaxLen"], apart := false, laid := [("unicode/utf8.acceptRanges", laid_unicode_utf8_acceptRanges), ("unicode/utf8.first", laid_unicode_utf8_first)], narrowed := true }
def FnExactCountManyWonAtUptoSaid : Prop := fnExactCountManyWonAtUptoRow.holds Tryd.pinned (OpenSpec.upto fnExactCountManyWonAtSpec)

/-- 'laws.FnExactCountManyOpen', WHERE WHAT IT READS IS OF BULK AT MOST 1048576: true; the input reads as it did. -/
def fnExactCountManyOpenUptoRow : OpenClaim := { program := "ytjckmnbpfmcadacdoor", sum := "e1083d53cdbf78c3ada3dc9466d9c52df563e31630e9cb44752a40d7ade39f52", func := "loop.example/g01337/laws.FnExactCountManyOpen", spec := "fnExactCountManyOpen", inPlace := ["internal/bytealg.IndexByteString", "internal/bytealg.IndexString"], unfollowed := true, recurses := true, named := ["unicode/utf8.first", "unicode/utf8.acceptRanges", "internal/bytealg.MaxLen"], apart := false, laid := [("unicode/utf8.acceptRanges", laid_unicode_utf8_acceptRanges), ("unicode/utf8.first", laid_unicode_utf8_first)], narrowed := true }
def FnExactCountManyOpenUptoSaid : Prop := fnExactCountManyOpenUptoRow.holds Tryd.pinned (OpenSpec.upto fnExactCountManyOpenSpec)

/-- 'laws.FnExactAreManyRacers', WHERE WHAT IT READS IS OF BULK AT MOST 1048576: true; the input reads as it did. -/
def fnExactAreManyRacersUptoRow : OpenClaim := { program := "ytjckmnbpfmcadacdoor", sum := "e1083d53cdbf78c3ada3dc9466d9c52df563e31630e9cb44752a40d7ade39f52", func := "loop.example/g01337/laws.FnExactAreManyRacers", spec := "fnExactAreManyRacers", inPlace := ["internal/bytealg.IndexByteString", "internal/bytealg.IndexString"], named := ["unicode/utf8.first", "unicode/utf8.acceptRanges", "internal/bytealg.MaxLen"], apart := false, laid := [("unicode/utf8.acceptRanges", laid_unicode_utf8_acceptRanges), ("unicode/utf8.first", laid_unicode_utf8_first)], narrowed := true }
def FnExactAreManyRacersUptoSaid : Prop := fnExactAreManyRacersUptoRow.holds Tryd.pinned (OpenSpec.upto fnExactAreManyRacersSpec)

/-- 'laws.FnExactWinnerOfMany', WHERE WHAT IT READS IS OF BULK AT MOST 1048576: true; the input reads as it did. -/
def fnExactWinnerOfManyUptoRow : OpenClaim := { program := "ytjckmnbpfmcadacdoor", sum := "e1083d53cdbf78c3ada3dc9466d9c52df563e31630e9cb44752a40d7ade39f52", func := "loop.example/g01337/laws.FnExactWinnerOfMany", spec := "fnExactWinnerOfMany", inPlace := ["internal/bytealg.IndexByteString", "internal/bytealg.IndexString"], named := ["unicode/utf8.first", "unicode/utf8.acceptRanges", "internal/bytealg.MaxLen"], apart := false, laid := [("unicode/utf8.acceptRanges", laid_unicode_utf8_acceptRanges), ("unicode/utf8.first", laid_unicode_utf8_first)], narrowed := true }
def FnExactWinnerOfManyUptoSaid : Prop := fnExactWinnerOfManyUptoRow.holds Tryd.pinned (OpenSpec.upto fnExactWinnerOfManySpec)

end Rows
end Go.Proofs.YtjckmnbpfmcadacDoor
