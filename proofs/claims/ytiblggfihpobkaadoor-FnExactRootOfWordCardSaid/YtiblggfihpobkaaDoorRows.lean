/-
  NARROWER THAN 'FOR EVERY INPUT', by the rows' own cells (each row's printed sentence says how): FnExactIsWord: laid · FnExactWordOverlaps: laid · FnExactMeanTyped: laid · FnExactPlacesOfWord: laid · FnExactRankOfWord: laid · FnExactTurnWord: laid · FnExactFirstTurn: laid · FnExactSameNecklace: laid · FnExactIsPrimeWord: laid · FnExactRootOfWord: laid.
  DERIVED. THE GIVEN ROWS OF THIS SEAT. 10 by the template 'for every input the law returns true; each argument reads behind the call as it read before'; 0 by the template 'total and deterministic' (their statements: YtiblggfihpobkaaDoorTotals.lean).
  GIVEN WITH THE SEED: the statements are not yours to turn. If you find one false, say at which input.
  Laid BY PROGRAM, IN A SANDBOX (cutbox-rows.mjs): the forced cells as the released guide's own fill.sh prints them over the translation 6e3d81179eb22c58… (all of the seat's roots in one cut). By AI agents, Wed Nov 11 2026. No macro, syntax, notation, axiom, sorry.
-/
import Derived.Test.YtiblggfihpobkaaDoorChecked
import GoSem.PinnedTables
import GoSem.Claim
import GoSem.ClaimJoined
import GoSem.ClaimMapViews
import Derived.JoinedTies
import Derived.KernelRfl
namespace Go.Proofs.YtiblggfihpobkaaDoor
/- THE CELL 'sum', in the pinned program and in every row, IS THE sha256 OF THE DUMP (.gsa) THAT YtiblggfihpobkaaDoorProg.lean LOADS. Nothing in Lean hashes anything: it is a label: what it is worth is what the hold of that sum in a sandbox is worth. -/
noncomputable def Tryd.pinned : Pinned := { name := "ytiblggfihpobkaadoor", sum := "6e3d81179eb22c583e96e2236465509df52e0f21942cee4faa2662bf5bf2e776", checked := Tryd.checked }
namespace Rows
def none {H : Type} : Left H := { results := [], args := [] }

/- WHAT THE LISTED PACKAGE-LEVEL VARIABLES READ AS WHEN THE CALL BEGINS. Each datum BY PROGRAM (the guide's laid-datum.mjs) off the statement by which the dump's own 'gosem.cut.vars' lays the variable. In a bare row this is a premise. The card (YtiblggfihpobkaaDoorCards.lean) ties it to the program's text. -/
def laid_unicode_utf8_acceptRanges {H : Type} : DataW H := .agg [.agg [.lit (.int .u8 128), .lit (.int .u8 191)], .agg [.lit (.int .u8 160), .lit (.int .u8 191)], .agg [.lit (.int .u8 128), .lit (.int .u8 159)], .agg [.lit (.int .u8 144), .lit (.int .u8 191)], .agg [.lit (.int .u8 128), .lit (.int .u8 143)], .agg [.lit (.int .u8 0), .lit (.int .u8 0)], .agg [.lit (.int .u8 0), .lit (.int .u8 0)], .agg [.lit (.int .u8 0), .lit (.int .u8 0)], .agg [.lit (.int .u8 0), .lit (.int .u8 0)], .agg [.lit (.int .u8 0), .lit (.int .u8 0)], .agg [.lit (.int .u8 0), .lit (.int .u8 0)], .agg [.lit (.int .u8 0), .lit (.int .u8 0)], .agg [.lit (.int .u8 0), .lit (.int .u8 0)], .agg [.lit (.int .u8 0), .lit (.int .u8 0)], .agg [.lit (.int .u8 0), .lit (.int .u8 0)], .agg [.lit (.int .u8 0), .lit (.int .u8 0)]]
/-- One of Go's own tables, pinned by name: the form's constant. -/
def laid_unicode_utf8_first : DataW Unit := Go.Pinned.utf8First

/-- 'laws.FnExactIsWord': WHATEVER THE INPUT: true; the input reads as it did. -/
def fnExactIsWordSpec : ChangeSpec := { name := "fnExactIsWord", fn := fun _ => fun
  | [d1, d2] => { results := [.lit (.bool true)], args := [d1, d2] }
  | _ => none }
def fnExactIsWordRow : OpenClaim := { program := "ytiblggfihpobkaadoor", sum := "6e3d81179eb22c583e96e2236465509df52e0f21942cee4faa2662bf5bf2e776", func := "loop.example/g01337/laws.FnExactIsWord", spec := "fnExactIsWord", inPlace := ["internal/bytealg.IndexByteString", "internal/bytealg.IndexString"], named := ["unicode/utf8.first", "unicode/utf8.acceptRanges", "internal/bytealg.MaxLen"], apart := false, laid := [("unicode/utf8.acceptRanges", laid_unicode_utf8_acceptRanges), ("unicode/utf8.first", laid_unicode_utf8_first)] }
def FnExactIsWordSaid : Prop := fnExactIsWordRow.holds Tryd.pinned (OpenSpec.ofChange fnExactIsWordSpec)

/-- ITS FALSE NEIGHBOUR: 'it returns false'. Refute it at one input. -/
def fnExactIsWordWrong : ChangeSpec := { name := "fnExactIsWord", fn := fun _ => fun
  | [d1, d2] => { results := [.lit (.bool false)], args := [d1, d2] }
  | _ => none }
def FnExactIsWordWrongFalsely : Prop := fnExactIsWordRow.holds Tryd.pinned (OpenSpec.ofChange fnExactIsWordWrong)

/-- 'laws.FnExactWordOverlaps': WHATEVER THE INPUT: true; the input reads as it did. -/
def fnExactWordOverlapsSpec : ChangeSpec := { name := "fnExactWordOverlaps", fn := fun _ => fun
  | [d] => { results := [.lit (.bool true)], args := [d] }
  | _ => none }
def fnExactWordOverlapsRow : OpenClaim := { program := "ytiblggfihpobkaadoor", sum := "6e3d81179eb22c583e96e2236465509df52e0f21942cee4faa2662bf5bf2e776", func := "loop.example/g01337/laws.FnExactWordOverlaps", spec := "fnExactWordOverlaps", inPlace := ["internal/bytealg.IndexByteString", "internal/bytealg.IndexString"], named := ["unicode/utf8.first", "unicode/utf8.acceptRanges", "internal/bytealg.MaxLen"], apart := false, laid := [("unicode/utf8.acceptRanges", laid_unicode_utf8_acceptRanges), ("unicode/utf8.first", laid_unicode_utf8_first)] }
def FnExactWordOverlapsSaid : Prop := fnExactWordOverlapsRow.holds Tryd.pinned (OpenSpec.ofChange fnExactWordOverlapsSpec)

/-- ITS FALSE NEIGHBOUR: 'it returns false'. Refute it at one input. -/
def fnExactWordOverlapsWrong : ChangeSpec := { name := "fnExactWordOverlaps", fn := fun _ => fun
  | [d] => { results := [.lit (.bool false)], args := [d] }
  | _ => none }
def FnExactWordOverlapsWrongFalsely : Prop := fnExactWordOverlapsRow.holds Tryd.pinned (OpenSpec.ofChange fnExactWordOverlapsWrong)

/-- 'laws.FnExactMeanTyped': WHATEVER THE INPUT: true; the input reads as it did. -/
def fnExactMeanTypedSpec : ChangeSpec := { name := "fnExactMeanTyped", fn := fun _ => fun
  | [d1, d2] => { results := [.lit (.bool true)], args := [d1, d2] }
  | _ => none }
def fnExactMeanTypedRow : OpenClaim := { program := "ytiblggfihpobkaadoor", sum := "6e3d81179eb22c583e96e2236465509df52e0f21942cee4faa2662bf5bf2e776", func := "loop.example/g01337/laws.FnExactMeanTyped", spec := "fnExactMeanTyped", inPlace := ["internal/bytealg.IndexByteString", "internal/bytealg.IndexString"], named := ["unicode/utf8.first", "unicode/utf8.acceptRanges", "internal/bytealg.MaxLen"], apart := false, laid := [("unicode/utf8.acceptRanges", laid_unicode_utf8_acceptRanges), ("unicode/utf8.first", laid_unicode_utf8_first)] }
def FnExactMeanTypedSaid : Prop := fnExactMeanTypedRow.holds Tryd.pinned (OpenSpec.ofChange fnExactMeanTypedSpec)

/-- ITS FALSE NEIGHBOUR: 'it returns false'. Refute it at one input. -/
def fnExactMeanTypedWrong : ChangeSpec := { name := "fnExactMeanTyped", fn := fun _ => fun
  | [d1, d2] => { results := [.lit (.bool false)], args := [d1, d2] }
  | _ => none }
def FnExactMeanTypedWrongFalsely : Prop := fnExactMeanTypedRow.holds Tryd.pinned (OpenSpec.ofChange fnExactMeanTypedWrong)

/-- 'laws.FnExactPlacesOfWord': WHATEVER THE INPUT: true; the input reads as it did. -/
def fnExactPlacesOfWordSpec : ChangeSpec := { name := "fnExactPlacesOfWord", fn := fun _ => fun
  | [d1, d2] => { results := [.lit (.bool true)], args := [d1, d2] }
  | _ => none }
def fnExactPlacesOfWordRow : OpenClaim := { program := "ytiblggfihpobkaadoor", sum := "6e3d81179eb22c583e96e2236465509df52e0f21942cee4faa2662bf5bf2e776", func := "loop.example/g01337/laws.FnExactPlacesOfWord", spec := "fnExactPlacesOfWord", inPlace := ["internal/bytealg.IndexByteString", "internal/bytealg.IndexString"], named := ["unicode/utf8.first", "unicode/utf8.acceptRanges", "internal/bytealg.MaxLen"], apart := false, laid := [("unicode/utf8.acceptRanges", laid_unicode_utf8_acceptRanges), ("unicode/utf8.first", laid_unicode_utf8_first)] }
def FnExactPlacesOfWordSaid : Prop := fnExactPlacesOfWordRow.holds Tryd.pinned (OpenSpec.ofChange fnExactPlacesOfWordSpec)

/-- ITS FALSE NEIGHBOUR: 'it returns false'. Refute it at one input. -/
def fnExactPlacesOfWordWrong : ChangeSpec := { name := "fnExactPlacesOfWord", fn := fun _ => fun
  | [d1, d2] => { results := [.lit (.bool false)], args := [d1, d2] }
  | _ => none }
def FnExactPlacesOfWordWrongFalsely : Prop := fnExactPlacesOfWordRow.holds Tryd.pinned (OpenSpec.ofChange fnExactPlacesOfWordWrong)

/-- 'laws.FnExactRankOfWord': WHATEVER THE INPUT: true; the input reads as it did. -/
def fnExactRankOfWordSpec : ChangeSpec := { name := "fnExactRankOfWord", fn := fun _ => fun
  | [d1, d2] => { results := [.lit (.bool true)], args := [d1, d2] }
  | _ => none }
def fnExactRankOfWordRow : OpenClaim := { program := "ytiblggfihpobkaadoor", sum := "6e3d81179eb22c583e96e2236465509df52e0f21942cee4faa2662bf5bf2e776", func := "loop.example/g01337/laws.FnExactRankOfWord", spec := "fnExactRankOfWord", inPlace := ["internal/bytealg.IndexByteString", "internal/bytealg.IndexString"], named := ["unicode/utf8.first", "unicode/utf8.acceptRanges", "internal/bytealg.MaxLen"], apart := false, laid := [("unicode/utf8.acceptRanges", laid_unicode_utf8_acceptRanges), ("unicode/utf8.first", laid_unicode_utf8_first)] }
def FnExactRankOfWordSaid : Prop := fnExactRankOfWordRow.holds Tryd.pinned (OpenSpec.ofChange fnExactRankOfWordSpec)

/-- ITS FALSE NEIGHBOUR: 'it returns false'. Refute it at one input. -/
def fnExactRankOfWordWrong : ChangeSpec := { name := "fnExactRankOfWord", fn := fun _ => fun
  | [d1, d2] => { results := [.lit (.bool false)], args := [d1, d2] }
  | _ => none }
def FnExactRankOfWordWrongFalsely : Prop := fnExactRankOfWordRow.holds Tryd.pinned (OpenSpec.ofChange fnExactRankOfWordWrong)

/-- 'laws.FnExactTurnWord': WHATEVER THE INPUT: true; the input reads as it did. -/
def fnExactTurnWordSpec : ChangeSpec := { name := "fnExactTurnWord", fn := fun _ => fun
  | [d1, d2] => { results := [.lit (.bool true)], args := [d1, d2] }
  | _ => none }
def fnExactTurnWordRow : OpenClaim := { program := "ytiblggfihpobkaadoor", sum := "6e3d81179eb22c583e96e2236465509df52e0f21942cee4faa2662bf5bf2e776", func := "loop.example/g01337/laws.FnExactTurnWord", spec := "fnExactTurnWord", inPlace := ["internal/bytealg.IndexByteString", "internal/bytealg.IndexString"], named := ["unicode/utf8.first", "unicode/utf8.acceptRanges", "internal/bytealg.MaxLen"], apart := false, laid := [("unicode/utf8.acceptRanges", laid_unicode_utf8_acceptRanges), ("unicode/utf8.first", laid_unicode_utf8_first)] }
def FnExactTurnWordSaid : Prop := fnExactTurnWordRow.holds Tryd.pinned (OpenSpec.ofChange fnExactTurnWordSpec)

/-- ITS FALSE NEIGHBOUR: 'it returns false'. Refute it at one input. -/
def fnExactTurnWordWrong : ChangeSpec := { name := "fnExactTurnWord", fn := fun _ => fun
  | [d1, d2] => { results := [.lit (.bool false)], args := [d1, d2] }
  | _ => none }
def FnExactTurnWordWrongFalsely : Prop := fnExactTurnWordRow.holds Tryd.pinned (OpenSpec.ofChange fnExactTurnWordWrong)

/-- 'laws.FnExactFirstTurn': WHATEVER THE INPUT: true; the input reads as it did. -/
def fnExactFirstTurnSpec : ChangeSpec := { name := "fnExactFirstTurn", fn := fun _ => fun
  | [d] => { results := [.lit (.bool true)], args := [d] }
  | _ => none }
def fnExactFirstTurnRow : OpenClaim := { program := "ytiblggfihpobkaadoor", sum := "6e3d81179eb22c583e96e2236465509df52e0f21942cee4faa2662bf5bf2e776", func := "loop.example/g01337/laws.FnExactFirstTurn", spec := "fnExactFirstTurn", inPlace := ["internal/bytealg.IndexByteString", "internal/bytealg.IndexString"], unfollowed := true, recurses := true, named := ["unicode/utf8.first", "unicode/utf8.acceptRanges", "internal/bytealg.MaxLen"], apart := false, laid := [("unicode/utf8.acceptRanges", laid_unicode_utf8_acceptRanges), ("unicode/utf8.first", laid_unicode_utf8_first)] }
def FnExactFirstTurnSaid : Prop := fnExactFirstTurnRow.holds Tryd.pinned (OpenSpec.ofChange fnExactFirstTurnSpec)

/-- ITS FALSE NEIGHBOUR: 'it returns false'. Refute it at one input. -/
def fnExactFirstTurnWrong : ChangeSpec := { name := "fnExactFirstTurn", fn := fun _ => fun
  | [d] => { results := [.lit (.bool false)], args := [d] }
  | _ => none }
def FnExactFirstTurnWrongFalsely : Prop := fnExactFirstTurnRow.holds Tryd.pinned (OpenSpec.ofChange fnExactFirstTurnWrong)

/-- 'laws.FnExactSameNecklace': WHATEVER THE INPUT: true; the input reads as it did. -/
def fnExactSameNecklaceSpec : ChangeSpec := { name := "fnExactSameNecklace", fn := fun _ => fun
  | [d1, d2] => { results := [.lit (.bool true)], args := [d1, d2] }
  | _ => none }
def fnExactSameNecklaceRow : OpenClaim := { program := "ytiblggfihpobkaadoor", sum := "6e3d81179eb22c583e96e2236465509df52e0f21942cee4faa2662bf5bf2e776", func := "loop.example/g01337/laws.FnExactSameNecklace", spec := "fnExactSameNecklace", inPlace := ["internal/bytealg.IndexByteString", "internal/bytealg.IndexString"], unfollowed := true, recurses := true, named := ["unicode/utf8.first", "unicode/utf8.acceptRanges", "internal/bytealg.MaxLen"], apart := false, laid := [("unicode/utf8.acceptRanges", laid_unicode_utf8_acceptRanges), ("unicode/utf8.first", laid_unicode_utf8_first)] }
def FnExactSameNecklaceSaid : Prop := fnExactSameNecklaceRow.holds Tryd.pinned (OpenSpec.ofChange fnExactSameNecklaceSpec)

/-- ITS FALSE NEIGHBOUR: 'it returns false'. Refute it at one input. -/
def fnExactSameNecklaceWrong : ChangeSpec := { name := "fnExactSameNecklace", fn := fun _ => fun
  | [d1, d2] => { results := [.lit (.bool false)], args := [d1, d2] }
  | _ => none }
def FnExactSameNecklaceWrongFalsely : Prop := fnExactSameNecklaceRow.holds Tryd.pinned (OpenSpec.ofChange fnExactSameNecklaceWrong)

/-- 'laws.FnExactIsPrimeWord': WHATEVER THE INPUT: true; the input reads as it did. -/
def fnExactIsPrimeWordSpec : ChangeSpec := { name := "fnExactIsPrimeWord", fn := fun _ => fun
  | [d] => { results := [.lit (.bool true)], args := [d] }
  | _ => none }
def fnExactIsPrimeWordRow : OpenClaim := { program := "ytiblggfihpobkaadoor", sum := "6e3d81179eb22c583e96e2236465509df52e0f21942cee4faa2662bf5bf2e776", func := "loop.example/g01337/laws.FnExactIsPrimeWord", spec := "fnExactIsPrimeWord", inPlace := ["internal/bytealg.IndexByteString", "internal/bytealg.IndexString"], unfollowed := true, recurses := true, named := ["unicode/utf8.first", "unicode/utf8.acceptRanges", "internal/bytealg.MaxLen"], apart := false, laid := [("unicode/utf8.acceptRanges", laid_unicode_utf8_acceptRanges), ("unicode/utf8.first", laid_unicode_utf8_first)] }
def FnExactIsPrimeWordSaid : Prop := fnExactIsPrimeWordRow.holds Tryd.pinned (OpenSpec.ofChange fnExactIsPrimeWordSpec)

/-- ITS FALSE NEIGHBOUR: 'it returns false'. Refute it at one input. -/
def fnExactIsPrimeWordWrong : ChangeSpec := { name := "fnExactIsPrimeWord", fn := fun _ => fun
  | [d] => { results := [.lit (.bool false)], args := [d] }
  | _ => none }
def FnExactIsPrimeWordWrongFalsely : Prop := fnExactIsPrimeWordRow.holds Tryd.pinned (OpenSpec.ofChange fnExactIsPrimeWordWrong)

/-- 'laws.FnExactRootOfWord': WHATEVER THE INPUT: true; the input reads as it did. -/
def fnExactRootOfWordSpec : ChangeSpec := { name := "fnExactRootOfWord", fn := fun _ => fun
  | [d] => { results := [.lit (.bool true)], args := [d] }
  | _ => none }
def fnExactRootOfWordRow : OpenClaim := { program := "ytiblggfihpobkaadoor", sum := "6e3d81179eb22c583e96e2236465509df52e0f21942cee4faa2662bf5bf2e776", func := "loop.example/g01337/laws.FnExactRootOfWord", spec := "fnExactRootOfWord", inPlace := ["internal/bytealg.IndexByteString", "internal/bytealg.IndexString"], named := ["unicode/utf8.first", "unicode/utf8.acceptRanges", "internal/bytealg.MaxLen"], apart := false, laid := [("unicode/utf8.acceptRanges", laid_unicode_utf8_acceptRanges), ("unicode/utf8.first", laid_unicode_utf8_first)] }
def FnExactRootOfWordSaid : Prop := fnExactRootOfWordRow.holds Tryd.pinned (OpenSpec.ofChange fnExactRootOfWordSpec)

/-- ITS FALSE NEIGHBOUR: 'it returns false'. Refute it at one input. -/
def fnExactRootOfWordWrong : ChangeSpec := { name := "fnExactRootOfWord", fn := fun _ => fun
  | [d] => { results := [.lit (.bool false)], args := [d] }
  | _ => none }
def FnExactRootOfWordWrongFalsely : Prop := fnExactRootOfWordRow.holds Tryd.pinned (OpenSpec.ofChange fnExactRootOfWordWrong)

/- THE SECOND FORM. 'bulk': how many values and letters a reading holds, each counted each time it is reached (what is shared counts as often as it is met; a slice's spare places count too). A statement '..UptoSaid' is the law's where the arguments, and the package variables that the reading takes, are together of bulk at most 1048576: NARROWER than '..Said'. Prove '..Said' where nothing that the law and all that it calls make is longer than what came in: it says more and counts as full. Else prove '..UptoSaid'. A law counts once. -/
mutual
def uptoBulk {H : Type} : DataW H → Nat
  | .lit (.string bytes) => bytes.length + 1
  | .lit _ => 1
  | .nil => 1
  | .ptr d => uptoBulk d + 1
  | .slice elems spare => uptoBulkAll elems + uptoBulkAll spare + 1
  | .agg parts => uptoBulkAll parts + 1
  | .iface _ d => uptoBulk d + 1
  | .map entries => uptoBulkEntries entries + 1
  | .held _ => 1
def uptoBulkAll {H : Type} : List (DataW H) → Nat
  | [] => 0
  | d :: r => uptoBulk d + uptoBulkAll r
def uptoBulkEntries {H : Type} : List (Lit × DataW H) → Nat
  | [] => 0
  | x :: r => uptoBulkEntry x + uptoBulkEntries r
def uptoBulkEntry {H : Type} : Lit × DataW H → Nat
  | (.string bytes, d) => bytes.length + uptoBulk d + 1
  | (_, d) => uptoBulk d + 1
 end
def uptoSmall : (H : Type) → List (DataW H) → Bool := fun _ ds => decide (uptoBulkAll ds ≤ 1048576)
def OpenSpec.upto (s : _root_.Go.ChangeSpec) : _root_.Go.OpenSpec := { _root_.Go.OpenSpec.ofChange s with cond := some uptoSmall }

/-- 'laws.FnExactIsWord', WHERE WHAT IT READS IS OF BULK AT MOST 1048576: true; the input reads as it did. -/
def fnExactIsWordUptoRow : OpenClaim := { program := "ytiblggfihpobkaadoor", sum := "6e3d81179eb22c583e96e2236465509df52e0f21942cee4faa2662bf5bf2e776", func := "loop.example/g01337/laws.FnExactIsWord", spec := "fnExactIsWord", inPlace := ["internal/bytealg.IndexByteString", "internal/bytealg.IndexString"], named := ["unicode/utf8.first", "unicode/utf8.acceptRanges", "internal/bytealg.MaxLen"], apart := false, laid := [("unicode/utf8.acceptRanges", laid_unicode_utf8_acceptRanges), ("unicode/utf8.first", laid_unicode_utf8_first)], narrowed := true }
def FnExactIsWordUptoSaid : Prop := fnExactIsWordUptoRow.holds Tryd.pinned (OpenSpec.upto fnExactIsWordSpec)

/-- 'laws.FnExactWordOverlaps', WHERE WHAT IT READS IS OF BULK AT MOST 1048576: true; the input reads as it did. -/
def fnExactWordOverlapsUptoRow : OpenClaim := { program := "ytiblggfihpobkaadoor", sum := "6e3d81179eb22c583e96e2236465509df52e0f21942cee4faa2662bf5bf2e776", func := "loop.example/g01337/laws.FnExactWordOverlaps", spec := "fnExactWordOverlaps", inPlace := ["internal/bytealg.IndexByteString", "internal/bytealg.IndexString"], named := ["unicode/utf8.first", "unicode/utf8.acceptRanges", "internal/bytealg.MaxLen"], apart := false, laid := [("unicode/utf8.acceptRanges", laid_unicode_utf8_acceptRanges), ("unicode/utf8.first", laid_unicode_utf8_first)], narrowed := true }
def FnExactWordOverlapsUptoSaid : Prop := fnExactWordOverlapsUptoRow.holds Tryd.pinned (OpenSpec.upto fnExactWordOverlapsSpec)

/-- 'laws.FnExactMeanTyped', WHERE WHAT IT READS IS OF BULK AT MOST 1048576: true; the input reads as it did. -/
def fnExactMeanTypedUptoRow : OpenClaim := { program := "ytiblggfihpobkaadoor", sum := "6e3d81179eb22c583e96e2236465509df52e0f21942cee4faa2662bf5bf2e776", func := "loop.example/g01337/laws.FnExactMeanTyped", spec := "fnExactMeanTyped", inPlace := ["internal/bytealg.IndexByteString", "internal/bytealg.IndexString"], named := ["unicode/utf8.first", "unicode/utf8.acceptRanges", "internal/bytealg.MaxLen"], apart := false, laid := [("unicode/utf8.acceptRanges", laid_unicode_utf8_acceptRanges), ("unicode/utf8.first", laid_unicode_utf8_first)], narrowed := true }
def FnExactMeanTypedUptoSaid : Prop := fnExactMeanTypedUptoRow.holds Tryd.pinned (OpenSpec.upto fnExactMeanTypedSpec)

/-- 'laws.FnExactPlacesOfWord', WHERE WHAT IT READS IS OF BULK AT MOST 1048576: true; the input reads as it did. -/
def fnExactPlacesOfWordUptoRow : OpenClaim := { program := "ytiblggfihpobkaadoor", sum := "6e3d81179eb22c583e96e2236465509df52e0f21942cee4faa2662bf5bf2e776", func := "loop.example/g01337/laws.FnExactPlacesOfWord", spec := "fnExactPlacesOfWord", inPlace := ["internal/bytealg.IndexByteString", "internal/bytealg.IndexString"], named := ["unicode/utf8.first", "unicode/utf8.acceptRanges", "internal/bytealg.MaxLen"], apart := false, laid := [("unicode/utf8.acceptRanges", laid_unicode_utf8_acceptRanges), ("unicode/utf8.first", laid_unicode_utf8_first)], narrowed := true }
def FnExactPlacesOfWordUptoSaid : Prop := fnExactPlacesOfWordUptoRow.holds Tryd.pinned (OpenSpec.upto fnExactPlacesOfWordSpec)

/-- 'laws.FnExactRankOfWord', WHERE WHAT IT READS IS OF BULK AT MOST 1048576: true; the input reads as it did. -/
def fnExactRankOfWordUptoRow : OpenClaim := { program := "ytiblggfihpobkaadoor", sum := "6e3d81179eb22c583e96e2236465509df52e0f21942cee4faa2662bf5bf2e776", func := "loop.example/g01337/laws.FnExactRankOfWord", spec := "fnExactRankOfWord", inPlace := ["internal/bytealg.IndexByteString", "internal/bytealg.IndexString"], named := ["unicode/utf8.first", "unicode/utf8.acceptRanges", "internal/bytealg.MaxLen"], apart := false, laid := [("unicode/utf8.acceptRanges", laid_unicode_utf8_acceptRanges), ("unicode/utf8.first", laid_unicode_utf8_first)], narrowed := true }
def FnExactRankOfWordUptoSaid : Prop := fnExactRankOfWordUptoRow.holds Tryd.pinned (OpenSpec.upto fnExactRankOfWordSpec)

/-- 'laws.FnExactTurnWord', WHERE WHAT IT READS IS OF BULK AT MOST 1048576: true; the input reads as it did. -/
def fnExactTurnWordUptoRow : OpenClaim := { program := "ytiblggfihpobkaadoor", sum := "6e3d81179eb22c583e96e2236465509df52e0f21942cee4faa2662bf5bf2e776", func := "loop.example/g01337/laws.FnExactTurnWord", spec := "fnExactTurnWord", inPlace := ["internal/bytealg.IndexByteString", "internal/bytealg.IndexString"], named := ["unicode/utf8.first", "unicode/utf8.acceptRanges", "internal/bytealg.MaxLen"], apart := false, laid := [("unicode/utf8.acceptRanges", laid_unicode_utf8_acceptRanges), ("unicode/utf8.first", laid_unicode_utf8_first)], narrowed := true }
def FnExactTurnWordUptoSaid : Prop := fnExactTurnWordUptoRow.holds Tryd.pinned (OpenSpec.upto fnExactTurnWordSpec)

/-- 'laws.FnExactFirstTurn', WHERE WHAT IT READS IS OF BULK AT MOST 1048576: true; the input reads as it did. -/
def fnExactFirstTurnUptoRow : OpenClaim := { program := "ytiblggfihpobkaadoor", sum := "6e3d81179eb22c583e96e2236465509df52e0f21942cee4faa2662bf5bf2e776", func := "loop.example/g01337/laws.FnExactFirstTurn", spec := "fnExactFirstTurn", inPlace := ["internal/bytealg.IndexByteString", "internal/bytealg.IndexString"], unfollowed := true, recurses := true, named := ["unicode/utf8.first", "unicode/utf8.acceptRanges", "internal/bytealg.MaxLen"], apart := false, laid := [("unicode/utf8.acceptRanges", laid_unicode_utf8_acceptRanges), ("unicode/utf8.first", laid_unicode_utf8_first)], narrowed := true }
def FnExactFirstTurnUptoSaid : Prop := fnExactFirstTurnUptoRow.holds Tryd.pinned (OpenSpec.upto fnExactFirstTurnSpec)

/-- 'laws.FnExactSameNecklace', WHERE WHAT IT READS IS OF BULK AT MOST 1048576: true; the input reads as it did. -/
def fnExactSameNecklaceUptoRow : OpenClaim := { program := "ytiblggfihpobkaadoor", sum := "6e3d81179eb22c583e96e2236465509df52e0f21942cee4faa2662bf5bf2e776", func := "loop.example/g01337/laws.FnExactSameNecklace", spec := "fnExactSameNecklace", inPlace := ["internal/bytealg.IndexByteString", "internal/bytealg.IndexString"], unfollowed := true, recurses := true, named := ["unicode/utf8.first", "unicode/utf8.acceptRanges", "internal/bytealg.MaxLen"], apart := false, laid := [("unicode/utf8.acceptRanges", laid_unicode_utf8_acceptRanges), ("unicode/utf8.first", laid_unicode_utf8_first)], narrowed := true }
def FnExactSameNecklaceUptoSaid : Prop := fnExactSameNecklaceUptoRow.holds Tryd.pinned (OpenSpec.upto fnExactSameNecklaceSpec)

/-- 'laws.FnExactIsPrimeWord', WHERE WHAT IT READS IS OF BULK AT MOST 1048576: true; the input reads as it did. -/
def fnExactIsPrimeWordUptoRow : OpenClaim := { program := "ytiblggfihpobkaadoor", sum := "6e3d81179eb22c583e96e2236465509df52e0f21942cee4faa2662bf5bf2e776", func := "loop.example/g01337/laws.FnExactIsPrimeWord", spec := "fnExactIsPrimeWord", inPlace := ["internal/bytealg.IndexByteString", "internal/bytealg.IndexString"], unfollowed := true, recurses := true, named := ["unicode/utf8.first", "unicode/utf8.acceptRanges", "internal/bytealg.MaxLen"], apart := false, laid := [("unicode/utf8.acceptRanges", laid_unicode_utf8_acceptRanges), ("unicode/utf8.first", laid_unicode_utf8_first)], narrowed := true }
def FnExactIsPrimeWordUptoSaid : Prop := fnExactIsPrimeWordUptoRow.holds Tryd.pinned (OpenSpec.upto fnExactIsPrimeWordSpec)

/-- 'laws.FnExactRootOfWord', WHERE WHAT IT READS IS OF BULK AT MOST 1048576: true; the input reads as it did. -/
def fnExactRootOfWordUptoRow : OpenClaim := { program := "ytiblggfihpobkaadoor", sum := "6e3d81179eb22c583e96e2236465509df52e0f21942cee4faa2662bf5bf2e776", func := "loop.example/g01337/laws.FnExactRootOfWord", spec := "fnExactRootOfWord", inPlace := ["internal/bytealg.IndexByteString", "internal/bytealg.IndexString"], named := ["unicode/utf8.first", "unicode/utf8.acceptRanges", "internal/bytealg.MaxLen"], apart := false, laid := [("unicode/utf8.acceptRanges", laid_unicode_utf8_acceptRanges), ("unicode/utf8.first", laid_unicode_utf8_first)], narrowed := true }
def FnExactRootOfWordUptoSaid : Prop := fnExactRootOfWordUptoRow.holds Tryd.pinned (OpenSpec.upto fnExactRootOfWordSpec)

end Rows
end Go.Proofs.YtiblggfihpobkaaDoor
