/-
  NARROWER THAN 'FOR EVERY INPUT', by the rows' own cells (each row's printed sentence says how): FnExactAreManyTosses: laid · FnExactFairByPairs: laid · FnExactFairAgain: laid · FnExactPairsThatGive: laid · FnExactSameFair: laid · FnExactChanceOfAll: laid.
  DERIVED. THE GIVEN ROWS OF THIS SEAT. 6 by the template 'for every input the law returns true; each argument reads behind the call as it read before'; 0 by the template 'total and deterministic' (their statements: YtnpghbbmhehnlaaDoorTotals.lean).
  GIVEN WITH THE SEED: the statements are not yours to turn. If you find one false, say at which input.
  Laid BY PROGRAM, IN A SANDBOX (cutbox-rows.mjs): the forced cells as the released guide's own fill.sh prints them over the translation 0da92a1791904594… (all of the seat's roots in one cut). By AI agents, Wed Nov 11 2026. No macro, syntax, notation, axiom, sorry.
-/
import Derived.Test.YtnpghbbmhehnlaaDoorChecked
import GoSem.PinnedTables
import GoSem.Claim
import GoSem.ClaimJoined
import GoSem.ClaimMapViews
import Derived.JoinedTies
import Derived.KernelRfl
namespace Go.Proofs.YtnpghbbmhehnlaaDoor
/- THE CELL 'sum', in the pinned program and in every row, IS THE sha256 OF THE DUMP (.gsa) THAT YtnpghbbmhehnlaaDoorProg.lean LOADS. Nothing in Lean hashes anything: it is a label: what it is worth is what the hold of that sum in a sandbox is worth. -/
noncomputable def Tryd.pinned : Pinned := { name := "ytnpghbbmhehnlaadoor", sum := "0da92a17919045940862eee1770ea20405d369f04781a56c16b51c4af000c3cd", checked := Tryd.checked }
namespace Rows
def none {H : Type} : Left H := { results := [], args := [] }

/- WHAT THE LISTED PACKAGE-LEVEL VARIABLES READ AS WHEN THE CALL BEGINS. Each datum BY PROGRAM (the guide's laid-datum.mjs) off the statement by which the dump's own 'gosem.cut.vars' lays the variable. In a bare row this is a premise. The card (YtnpghbbmhehnlaaDoorCards.lean) ties it to the program's text. -/
def laid_unicode_utf8_acceptRanges {H : Type} : DataW H := .agg [.agg [.lit (.int .u8 128), .lit (.int .u8 191)], .agg [.lit (.int .u8 160), .lit (.int .u8 191)], .agg [.lit (.int .u8 128), .lit (.int .u8 159)], .agg [.lit (.int .u8 144), .lit (.int .u8 191)], .agg [.lit (.int .u8 128), .lit (.int .u8 143)], .agg [.lit (.int .u8 0), .lit (.int .u8 0)], .agg [.lit (.int .u8 0), .lit (.int .u8 0)], .agg [.lit (.int .u8 0), .lit (.int .u8 0)], .agg [.lit (.int .u8 0), .lit (.int .u8 0)], .agg [.lit (.int .u8 0), .lit (.int .u8 0)], .agg [.lit (.int .u8 0), .lit (.int .u8 0)], .agg [.lit (.int .u8 0), .lit (.int .u8 0)], .agg [.lit (.int .u8 0), .lit (.int .u8 0)], .agg [.lit (.int .u8 0), .lit (.int .u8 0)], .agg [.lit (.int .u8 0), .lit (.int .u8 0)], .agg [.lit (.int .u8 0), .lit (.int .u8 0)]]
/-- One of Go's own tables, pinned by name: the form's constant. -/
def laid_unicode_utf8_first : DataW Unit := Go.Pinned.utf8First

/-- 'laws.FnExactAreManyTosses': WHATEVER THE INPUT: true; the input reads as it did. -/
def fnExactAreManyTossesSpec : ChangeSpec := { name := "fnExactAreManyTosses", fn := fun _ => fun
  | [d] => { results := [.lit (.bool true)], args := [d] }
  | _ => none }
def fnExactAreManyTossesRow : OpenClaim := { program := "ytnpghbbmhehnlaadoor", sum := "0da92a17919045940862eee1770ea20405d369f04781a56c16b51c4af000c3cd", func := "loop.example/g01337/laws.FnExactAreManyTosses", spec := "fnExactAreManyTosses", inPlace := ["internal/bytealg.IndexByteString", "internal/bytealg.IndexString"], named := ["unicode/utf8.first", "unicode/utf8.acceptRanges", "internal/bytealg.MaxLen"], apart := false, laid := [("unicode/utf8.acceptRanges", laid_unicode_utf8_acceptRanges), ("unicode/utf8.first", laid_unicode_utf8_first)] }
def FnExactAreManyTossesSaid : Prop := fnExactAreManyTossesRow.holds Tryd.pinned (OpenSpec.ofChange fnExactAreManyTossesSpec)

/-- ITS FALSE NEIGHBOUR: 'it returns false'. Refute it at one input. -/
def fnExactAreManyTossesWrong : ChangeSpec := { name := "fnExactAreManyTosses", fn := fun _ => fun
  | [d] => { results := [.lit (.bool false)], args := [d] }
  | _ => none }
def FnExactAreManyTossesWrongFalsely : Prop := fnExactAreManyTossesRow.holds Tryd.pinned (OpenSpec.ofChange fnExactAreManyTossesWrong)

/-- 'laws.FnExactFairByPairs': WHATEVER THE INPUT: true; the input reads as it did. -/
def fnExactFairByPairsSpec : ChangeSpec := { name := "fnExactFairByPairs", fn := fun _ => fun
  | [d] => { results := [.lit (.bool true)], args := [d] }
  | _ => none }
def fnExactFairByPairsRow : OpenClaim := { program := "ytnpghbbmhehnlaadoor", sum := "0da92a17919045940862eee1770ea20405d369f04781a56c16b51c4af000c3cd", func := "loop.example/g01337/laws.FnExactFairByPairs", spec := "fnExactFairByPairs", inPlace := ["internal/bytealg.IndexByteString", "internal/bytealg.IndexString"], named := ["unicode/utf8.first", "unicode/utf8.acceptRanges", "internal/bytealg.MaxLen"], apart := false, laid := [("unicode/utf8.acceptRanges", laid_unicode_utf8_acceptRanges), ("unicode/utf8.first", laid_unicode_utf8_first)] }
def FnExactFairByPairsSaid : Prop := fnExactFairByPairsRow.holds Tryd.pinned (OpenSpec.ofChange fnExactFairByPairsSpec)

/-- ITS FALSE NEIGHBOUR: 'it returns false'. Refute it at one input. -/
def fnExactFairByPairsWrong : ChangeSpec := { name := "fnExactFairByPairs", fn := fun _ => fun
  | [d] => { results := [.lit (.bool false)], args := [d] }
  | _ => none }
def FnExactFairByPairsWrongFalsely : Prop := fnExactFairByPairsRow.holds Tryd.pinned (OpenSpec.ofChange fnExactFairByPairsWrong)

/-- 'laws.FnExactFairAgain': WHATEVER THE INPUT: true; the input reads as it did. -/
def fnExactFairAgainSpec : ChangeSpec := { name := "fnExactFairAgain", fn := fun _ => fun
  | [d] => { results := [.lit (.bool true)], args := [d] }
  | _ => none }
def fnExactFairAgainRow : OpenClaim := { program := "ytnpghbbmhehnlaadoor", sum := "0da92a17919045940862eee1770ea20405d369f04781a56c16b51c4af000c3cd", func := "loop.example/g01337/laws.FnExactFairAgain", spec := "fnExactFairAgain", inPlace := ["internal/bytealg.IndexByteString", "internal/bytealg.IndexString"], recurses := true, named := ["unicode/utf8.first", "unicode/utf8.acceptRanges", "internal/bytealg.MaxLen"], apart := false, laid := [("unicode/utf8.acceptRanges", laid_unicode_utf8_acceptRanges), ("unicode/utf8.first", laid_unicode_utf8_first)] }
def FnExactFairAgainSaid : Prop := fnExactFairAgainRow.holds Tryd.pinned (OpenSpec.ofChange fnExactFairAgainSpec)

/-- ITS FALSE NEIGHBOUR: 'it returns false'. Refute it at one input. -/
def fnExactFairAgainWrong : ChangeSpec := { name := "fnExactFairAgain", fn := fun _ => fun
  | [d] => { results := [.lit (.bool false)], args := [d] }
  | _ => none }
def FnExactFairAgainWrongFalsely : Prop := fnExactFairAgainRow.holds Tryd.pinned (OpenSpec.ofChange fnExactFairAgainWrong)

/-- 'laws.FnExactPairsThatGive': WHATEVER THE INPUT: true; the input reads as it did. -/
def fnExactPairsThatGiveSpec : ChangeSpec := { name := "fnExactPairsThatGive", fn := fun _ => fun
  | [d] => { results := [.lit (.bool true)], args := [d] }
  | _ => none }
def fnExactPairsThatGiveRow : OpenClaim := { program := "ytnpghbbmhehnlaadoor", sum := "0da92a17919045940862eee1770ea20405d369f04781a56c16b51c4af000c3cd", func := "loop.example/g01337/laws.FnExactPairsThatGive", spec := "fnExactPairsThatGive", inPlace := ["internal/bytealg.IndexByteString", "internal/bytealg.IndexString"], named := ["unicode/utf8.first", "unicode/utf8.acceptRanges", "internal/bytealg.MaxLen"], apart := false, laid := [("unicode/utf8.acceptRanges", laid_unicode_utf8_acceptRanges), ("unicode/utf8.first", laid_unicode_utf8_first)] }
def FnExactPairsThatGiveSaid : Prop := fnExactPairsThatGiveRow.holds Tryd.pinned (OpenSpec.ofChange fnExactPairsThatGiveSpec)

/-- ITS FALSE NEIGHBOUR: 'it returns false'. Refute it at one input. -/
def fnExactPairsThatGiveWrong : ChangeSpec := { name := "fnExactPairsThatGive", fn := fun _ => fun
  | [d] => { results := [.lit (.bool false)], args := [d] }
  | _ => none }
def FnExactPairsThatGiveWrongFalsely : Prop := fnExactPairsThatGiveRow.holds Tryd.pinned (OpenSpec.ofChange fnExactPairsThatGiveWrong)

/-- 'laws.FnExactSameFair': WHATEVER THE INPUT: true; the input reads as it did. -/
def fnExactSameFairSpec : ChangeSpec := { name := "fnExactSameFair", fn := fun _ => fun
  | [d1, d2] => { results := [.lit (.bool true)], args := [d1, d2] }
  | _ => none }
def fnExactSameFairRow : OpenClaim := { program := "ytnpghbbmhehnlaadoor", sum := "0da92a17919045940862eee1770ea20405d369f04781a56c16b51c4af000c3cd", func := "loop.example/g01337/laws.FnExactSameFair", spec := "fnExactSameFair", inPlace := ["internal/bytealg.IndexByteString", "internal/bytealg.IndexString"], named := ["unicode/utf8.first", "unicode/utf8.acceptRanges", "internal/bytealg.MaxLen"], apart := false, laid := [("unicode/utf8.acceptRanges", laid_unicode_utf8_acceptRanges), ("unicode/utf8.first", laid_unicode_utf8_first)] }
def FnExactSameFairSaid : Prop := fnExactSameFairRow.holds Tryd.pinned (OpenSpec.ofChange fnExactSameFairSpec)

/-- ITS FALSE NEIGHBOUR: 'it returns false'. Refute it at one input. -/
def fnExactSameFairWrong : ChangeSpec := { name := "fnExactSameFair", fn := fun _ => fun
  | [d1, d2] => { results := [.lit (.bool false)], args := [d1, d2] }
  | _ => none }
def FnExactSameFairWrongFalsely : Prop := fnExactSameFairRow.holds Tryd.pinned (OpenSpec.ofChange fnExactSameFairWrong)

/-- 'laws.FnExactChanceOfAll': WHATEVER THE INPUT: true; the input reads as it did. -/
def fnExactChanceOfAllSpec : ChangeSpec := { name := "fnExactChanceOfAll", fn := fun _ => fun
  | [d1, d2] => { results := [.lit (.bool true)], args := [d1, d2] }
  | _ => none }
def fnExactChanceOfAllRow : OpenClaim := { program := "ytnpghbbmhehnlaadoor", sum := "0da92a17919045940862eee1770ea20405d369f04781a56c16b51c4af000c3cd", func := "loop.example/g01337/laws.FnExactChanceOfAll", spec := "fnExactChanceOfAll", inPlace := ["internal/bytealg.IndexByteString", "internal/bytealg.IndexString", "internal/bytealg.CountString"], named := ["unicode/utf8.first", "unicode/utf8.acceptRanges", "internal/bytealg.MaxLen"], apart := false, laid := [("unicode/utf8.acceptRanges", laid_unicode_utf8_acceptRanges), ("unicode/utf8.first", laid_unicode_utf8_first)] }
def FnExactChanceOfAllSaid : Prop := fnExactChanceOfAllRow.holds Tryd.pinned (OpenSpec.ofChange fnExactChanceOfAllSpec)

/-- ITS FALSE NEIGHBOUR: 'it returns false'. Refute it at one input. -/
def fnExactChanceOfAllWrong : ChangeSpec := { name := "fnExactChanceOfAll", fn := fun _ => fun
  | [d1, d2] => { results := [.lit (.bool false)], args := [d1, d2] }
  | _ => none }
def FnExactChanceOfAllWrongFalsely : Prop := fnExactChanceOfAllRow.holds Tryd.pinned (OpenSpec.ofChange fnExactChanceOfAllWrong)

/- THE SECOND FORM. 'bulk': how many values and letters a reading holds, each counted each time it is reached (what is shared counts as often as it is met; a slice's spare places count too). A statement '..UptoSaid' is the law's where the arguments, and the package variables that the reading takes, are together of bulk at most 1048576: NARROWER than '..Said'. Prove '..Said' where nothing that the law and all that it calls make is longer than what came in: it says more and counts as full. Else prove '..UptoSaid'. A law counts once. -/
mutual
def uptoBulk {H : Type} : DataW H → Nat
  | .lit (.string bytes) => bytes.length + 1
  | .lit _ => 1
  | .nil => 1
  | .ptr d => uptoBulk d + 1
  | .slice elems spare => uptoBulkAll elems + uptoBulkAll spare + 1
  | .agg parts => uptoBulkAll parts + 1
  | .iface _ d => uptoBulk d + 1
  | .map entries => uptoBulkEntries entries + 1
  | .held _ => 1
def uptoBulkAll {H : Type} : List (DataW H) → Nat
  | [] => 0
  | d :: r => uptoBulk d + uptoBulkAll r
def uptoBulkEntries {H : Type} : List (Lit × DataW H) → Nat
  | [] => 0
  | x :: r => uptoBulkEntry x + uptoBulkEntries r
def uptoBulkEntry {H : Type} : Lit × DataW H → Nat
  | (.string bytes, d) => bytes.length + uptoBulk d + 1
  | (_, d) => uptoBulk d + 1
 end
def uptoSmall : (H : Type) → List (DataW H) → Bool := fun _ ds => decide (uptoBulkAll ds ≤ 1048576)
def OpenSpec.upto (s : _root_.Go.ChangeSpec) : _root_.Go.OpenSpec := { _root_.Go.OpenSpec.ofChange s with cond := some uptoSmall }

/-- 'laws.FnExactAreManyTosses', WHERE WHAT IT READS IS OF BULK AT MOST 1048576: true; the input reads as it did. -/
def fnExactAreManyTossesUptoRow : OpenClaim := { program := "ytnpghbbmhehnlaadoor", sum := "0da92a17919045940862eee1770ea20405d369f04781a56c16b51c4af000c3cd", func := "loop.example/g01337/laws.FnExactAreManyTosses", spec := "fnExactAreManyTosses", inPlace := ["internal/bytealg.IndexByteString", "internal/bytealg.IndexString"], named := ["unicode/utf8.first", "unicode/utf8.acceptRanges", "internal/bytealg.MaxLen"], apart := false, laid := [("unicode/utf8.acceptRanges", laid_unicode_utf8_acceptRanges), ("unicode/utf8.first", laid_unicode_utf8_first)], narrowed := true }
def FnExactAreManyTossesUptoSaid : Prop := fnExactAreManyTossesUptoRow.holds Tryd.pinned (OpenSpec.upto fnExactAreManyTossesSpec)

/-- 'laws.FnExactFairByPairs', WHERE WHAT IT READS IS OF BULK AT MOST 1048576: true; the input reads as it did. -/
def fnExactFairByPairsUptoRow : OpenClaim := { program := "ytnpghbbmhehnlaadoor", sum := "0da92a17919045940862eee1770ea20405d369f04781a56c16b51c4af000c3cd", func := "loop.example/g01337/laws.FnExactFairByPairs", spec := "fnExactFairByPairs", inPlace := ["internal/bytealg.IndexByteString", "internal/bytealg.IndexString"], named := ["unicode/utf8.first", "unicode/utf8.acceptRanges", "internal/bytealg.MaxLen"], apart := false, laid := [("unicode/utf8.acceptRanges", laid_unicode_utf8_acceptRanges), ("unicode/utf8.first", laid_unicode_utf8_first)], narrowed := true }
def FnExactFairByPairsUptoSaid : Prop := fnExactFairByPairsUptoRow.holds Tryd.pinned (OpenSpec.upto fnExactFairByPairsSpec)

/-- 'laws.FnExactFairAgain', WHERE WHAT IT READS IS OF BULK AT MOST 1048576: true; the input reads as it did. -/
def fnExactFairAgainUptoRow : OpenClaim := { program := "ytnpghbbmhehnlaadoor", sum := "0da92a17919045940862eee1770ea20405d369f04781a56c16b51c4af000c3cd", func := "loop.example/g01337/laws.FnExactFairAgain", spec := "fnExactFairAgain", inPlace := ["internal/bytealg.IndexByteString", "internal/bytealg.IndexString"], recurses := true, named := ["unicode/utf8.first", "unicode/utf8.acceptRanges", "internal/bytealg.MaxLen"], apart := false, laid := [("unicode/utf8.acceptRanges", laid_unicode_utf8_acceptRanges), ("unicode/utf8.first", laid_unicode_utf8_first)], narrowed := true }
def FnExactFairAgainUptoSaid : Prop := fnExactFairAgainUptoRow.holds Tryd.pinned (OpenSpec.upto fnExactFairAgainSpec)

/-- 'laws.FnExactPairsThatGive', WHERE WHAT IT READS IS OF BULK AT MOST 1048576: true; the input reads as it did. -/
def fnExactPairsThatGiveUptoRow : OpenClaim := { program := "ytnpghbbmhehnlaadoor", sum := "0da92a17919045940862eee1770ea20405d369f04781a56c16b51c4af000c3cd", func := "loop.example/g01337/laws.FnExactPairsThatGive", spec := "fnExactPairsThatGive", inPlace := ["internal/bytealg.IndexByteString", "internal/bytealg.IndexString"], named := ["unicode/utf8.first", "unicode/utf8.acceptRanges", "internal/bytealg.MaxLen"], apart := false, laid := [("unicode/utf8.acceptRanges", laid_unicode_utf8_acceptRanges), ("unicode/utf8.first", laid_unicode_utf8_first)], narrowed := true }
def FnExactPairsThatGiveUptoSaid : Prop := fnExactPairsThatGiveUptoRow.holds Tryd.pinned (OpenSpec.upto fnExactPairsThatGiveSpec)

/-- 'laws.FnExactSameFair', WHERE WHAT IT READS IS OF BULK AT MOST 1048576: true; the input reads as it did. -/
def fnExactSameFairUptoRow : OpenClaim := { program := "ytnpghbbmhehnlaadoor", sum := "0da92a17919045940862eee1770ea20405d369f04781a56c16b51c4af000c3cd", func := "loop.example/g01337/laws.FnExactSameFair", spec := "fnExactSameFair", inPlace := ["internal/bytealg.IndexByteString", "internal/bytealg.IndexString"], named := ["unicode/utf8.first", "unicode/utf8.acceptRanges", "internal/bytealg.MaxLen"], apart := false, laid := [("unicode/utf8.acceptRanges", laid_unicode_utf8_acceptRanges), ("unicode/utf8.first", laid_unicode_utf8_first)], narrowed := true }
def FnExactSameFairUptoSaid : Prop := fnExactSameFairUptoRow.holds Tryd.pinned (OpenSpec.upto fnExactSameFairSpec)

/-- 'laws.FnExactChanceOfAll', WHERE WHAT IT READS IS OF BULK AT MOST 1048576: true; the input reads as it did. -/
def fnExactChanceOfAllUptoRow : OpenClaim := { program := "ytnpghbbmhehnlaadoor", sum := "0da92a17919045940862eee1770ea20405d369f04781a56c16b51c4af000c3cd", func := "loop.example/g01337/laws.FnExactChanceOfAll", spec := "fnExactChanceOfAll", inPlace := ["internal/bytealg.IndexByteString", "internal/bytealg.IndexString", "internal/bytealg.CountString"], named := ["unicode/utf8.first", "unicode/utf8.acceptRanges", "internal/bytealg.MaxLen"], apart := false, laid := [("unicode/utf8.acceptRanges", laid_unicode_utf8_acceptRanges), ("unicode/utf8.first", laid_unicode_utf8_first)], narrowed := true }
def FnExactChanceOfAllUptoSaid : Prop := fnExactChanceOfAllUptoRow.holds Tryd.pinned (OpenSpec.upto fnExactChanceOfAllSpec)

end Rows
end Go.Proofs.YtnpghbbmhehnlaaDoor
