/-
  NARROWER THAN 'FOR EVERY INPUT', by the rows' own cells (each row's printed sentence says how): FnExactAreSigns: laid · FnExactChanceBoth: laid · FnExactChanceOfSigns: laid · FnExactChanceOfDay: laid · FnExactChanceOfHidden: laid · FnExactLikeliestHidden: laid · FnExactCountPossible: laid · FnExactFirstPossible: laid · FnExactChanceOfNextSign: laid.
  DERIVED. THE GIVEN ROWS OF THIS SEAT. 9 by the template 'for every input the law returns true; each argument reads behind the call as it read before'; 0 by the template 'total and deterministic' (their statements: YtjfcpbedmdnjcaaDoorTotals.lean).
  GIVEN WITH THE SEED: the statements are not yours to turn. If you find one false, say at which input.
  Laid BY PROGRAM, IN A SANDBOX (cutbox-rows.mjs): the forced cells as the released guide's own fill.sh prints them over the translation 75d236618cd7eb40… (all of the seat's roots in one cut). By AI agents, Wed Nov 11 2026. No macro, syntax, notation, axiom, sorry.
-/
import Derived.Test.YtjfcpbedmdnjcaaDoorChecked
import GoSem.PinnedTables
import GoSem.Claim
import GoSem.ClaimJoined
import GoSem.ClaimMapViews
import Derived.JoinedTies
import Derived.KernelRfl
namespace Go.Proofs.YtjfcpbedmdnjcaaDoor
/- THE CELL 'sum', in the pinned program and in every row, IS THE sha256 OF THE DUMP (.gsa) THAT YtjfcpbedmdnjcaaDoorProg.lean LOADS. Nothing in Lean hashes anything: it is a label: what it is worth is what the hold of that sum in a sandbox is worth. -/
noncomputable def Tryd.pinned : Pinned := { name := "ytjfcpbedmdnjcaadoor", sum := "75d236618cd7eb40bd2d16076923b15518206fb325c50fc76bb7be1021420901", checked := Tryd.checked }
namespace Rows
def none {H : Type} : Left H := { results := [], args := [] }

/- WHAT THE LISTED PACKAGE-LEVEL VARIABLES READ AS WHEN THE CALL BEGINS. Each datum BY PROGRAM (the guide's laid-datum.mjs) off the statement by which the dump's own 'gosem.cut.vars' lays the variable. In a bare row this is a premise. The card (YtjfcpbedmdnjcaaDoorCards.lean) ties it to the program's text. -/
def laid_unicode_utf8_acceptRanges {H : Type} : DataW H := .agg [.agg [.lit (.int .u8 128), .lit (.int .u8 191)], .agg [.lit (.int .u8 160), .lit (.int .u8 191)], .agg [.lit (.int .u8 128), .lit (.int .u8 159)], .agg [.lit (.int .u8 144), .lit (.int .u8 191)], .agg [.lit (.int .u8 128), .lit (.int .u8 143)], .agg [.lit (.int .u8 0), .lit (.int .u8 0)], .agg [.lit (.int .u8 0), .lit (.int .u8 0)], .agg [.lit (.int .u8 0), .lit (.int .u8 0)], .agg [.lit (.int .u8 0), .lit (.int .u8 0)], .agg [.lit (.int .u8 0), .lit (.int .u8 0)], .agg [.lit (.int .u8 0), .lit (.int .u8 0)], .agg [.lit (.int .u8 0), .lit (.int .u8 0)], .agg [.lit (.int .u8 0), .lit (.int .u8 0)], .agg [.lit (.int .u8 0), .lit (.int .u8 0)], .agg [.lit (.int .u8 0), .lit (.int .u8 0)], .agg [.lit (.int .u8 0), .lit (.int .u8 0)]]
/-- One of Go's own tables, pinned by name: the form's constant. -/
def laid_unicode_utf8_first : DataW Unit := Go.Pinned.utf8First

/-- 'laws.FnExactAreSigns': WHATEVER THE INPUT: true; the input reads as it did. -/
def fnExactAreSignsSpec : ChangeSpec := { name := "fnExactAreSigns", fn := fun _ => fun
  | [d] => { results := [.lit (.bool true)], args := [d] }
  | _ => none }
def fnExactAreSignsRow : OpenClaim := { program := "ytjfcpbedmdnjcaadoor", sum := "75d236618cd7eb40bd2d16076923b15518206fb325c50fc76bb7be1021420901", func := "loop.example/g01337/laws.FnExactAreSigns", spec := "fnExactAreSigns", inPlace := ["internal/bytealg.IndexByteString", "internal/bytealg.IndexString"], named := ["unicode/utf8.first", "unicode/utf8.acceptRanges", "internal/bytealg.MaxLen"], apart := false, laid := [("unicode/utf8.acceptRanges", laid_unicode_utf8_acceptRanges), ("unicode/utf8.first", laid_unicode_utf8_first)] }
def FnExactAreSignsSaid : Prop := fnExactAreSignsRow.holds Tryd.pinned (OpenSpec.ofChange fnExactAreSignsSpec)

/-- ITS FALSE NEIGHBOUR: 'it returns false'. Refute it at one input. -/
def fnExactAreSignsWrong : ChangeSpec := { name := "fnExactAreSigns", fn := fun _ => fun
  | [d] => { results := [.lit (.bool false)], args := [d] }
  | _ => none }
def FnExactAreSignsWrongFalsely : Prop := fnExactAreSignsRow.holds Tryd.pinned (OpenSpec.ofChange fnExactAreSignsWrong)

/-- 'laws.FnExactChanceBoth': WHATEVER THE INPUT: true; the input reads as it did. -/
def fnExactChanceBothSpec : ChangeSpec := { name := "fnExactChanceBoth", fn := fun _ => fun
  | [d1, d2, d3] => { results := [.lit (.bool true)], args := [d1, d2, d3] }
  | _ => none }
def fnExactChanceBothRow : OpenClaim := { program := "ytjfcpbedmdnjcaadoor", sum := "75d236618cd7eb40bd2d16076923b15518206fb325c50fc76bb7be1021420901", func := "loop.example/g01337/laws.FnExactChanceBoth", spec := "fnExactChanceBoth", inPlace := ["internal/bytealg.IndexByteString", "internal/bytealg.IndexString"], unfollowed := true, recurses := true, named := ["unicode/utf8.first", "unicode/utf8.acceptRanges", "internal/bytealg.MaxLen"], apart := false, laid := [("unicode/utf8.acceptRanges", laid_unicode_utf8_acceptRanges), ("unicode/utf8.first", laid_unicode_utf8_first)] }
def FnExactChanceBothSaid : Prop := fnExactChanceBothRow.holds Tryd.pinned (OpenSpec.ofChange fnExactChanceBothSpec)

/-- ITS FALSE NEIGHBOUR: 'it returns false'. Refute it at one input. -/
def fnExactChanceBothWrong : ChangeSpec := { name := "fnExactChanceBoth", fn := fun _ => fun
  | [d1, d2, d3] => { results := [.lit (.bool false)], args := [d1, d2, d3] }
  | _ => none }
def FnExactChanceBothWrongFalsely : Prop := fnExactChanceBothRow.holds Tryd.pinned (OpenSpec.ofChange fnExactChanceBothWrong)

/-- 'laws.FnExactChanceOfSigns': WHATEVER THE INPUT: true; the input reads as it did. -/
def fnExactChanceOfSignsSpec : ChangeSpec := { name := "fnExactChanceOfSigns", fn := fun _ => fun
  | [d1, d2] => { results := [.lit (.bool true)], args := [d1, d2] }
  | _ => none }
def fnExactChanceOfSignsRow : OpenClaim := { program := "ytjfcpbedmdnjcaadoor", sum := "75d236618cd7eb40bd2d16076923b15518206fb325c50fc76bb7be1021420901", func := "loop.example/g01337/laws.FnExactChanceOfSigns", spec := "fnExactChanceOfSigns", inPlace := ["internal/bytealg.IndexByteString", "internal/bytealg.IndexString"], unfollowed := true, recurses := true, named := ["unicode/utf8.first", "unicode/utf8.acceptRanges", "internal/bytealg.MaxLen"], apart := false, laid := [("unicode/utf8.acceptRanges", laid_unicode_utf8_acceptRanges), ("unicode/utf8.first", laid_unicode_utf8_first)] }
def FnExactChanceOfSignsSaid : Prop := fnExactChanceOfSignsRow.holds Tryd.pinned (OpenSpec.ofChange fnExactChanceOfSignsSpec)

/-- ITS FALSE NEIGHBOUR: 'it returns false'. Refute it at one input. -/
def fnExactChanceOfSignsWrong : ChangeSpec := { name := "fnExactChanceOfSigns", fn := fun _ => fun
  | [d1, d2] => { results := [.lit (.bool false)], args := [d1, d2] }
  | _ => none }
def FnExactChanceOfSignsWrongFalsely : Prop := fnExactChanceOfSignsRow.holds Tryd.pinned (OpenSpec.ofChange fnExactChanceOfSignsWrong)

/-- 'laws.FnExactChanceOfDay': WHATEVER THE INPUT: true; the input reads as it did. -/
def fnExactChanceOfDaySpec : ChangeSpec := { name := "fnExactChanceOfDay", fn := fun _ => fun
  | [d1, d2, d3, d4] => { results := [.lit (.bool true)], args := [d1, d2, d3, d4] }
  | _ => none }
def fnExactChanceOfDayRow : OpenClaim := { program := "ytjfcpbedmdnjcaadoor", sum := "75d236618cd7eb40bd2d16076923b15518206fb325c50fc76bb7be1021420901", func := "loop.example/g01337/laws.FnExactChanceOfDay", spec := "fnExactChanceOfDay", inPlace := ["internal/bytealg.IndexByteString", "internal/bytealg.IndexString"], unfollowed := true, recurses := true, named := ["unicode/utf8.first", "unicode/utf8.acceptRanges", "internal/bytealg.MaxLen"], apart := false, laid := [("unicode/utf8.acceptRanges", laid_unicode_utf8_acceptRanges), ("unicode/utf8.first", laid_unicode_utf8_first)] }
def FnExactChanceOfDaySaid : Prop := fnExactChanceOfDayRow.holds Tryd.pinned (OpenSpec.ofChange fnExactChanceOfDaySpec)

/-- ITS FALSE NEIGHBOUR: 'it returns false'. Refute it at one input. -/
def fnExactChanceOfDayWrong : ChangeSpec := { name := "fnExactChanceOfDay", fn := fun _ => fun
  | [d1, d2, d3, d4] => { results := [.lit (.bool false)], args := [d1, d2, d3, d4] }
  | _ => none }
def FnExactChanceOfDayWrongFalsely : Prop := fnExactChanceOfDayRow.holds Tryd.pinned (OpenSpec.ofChange fnExactChanceOfDayWrong)

/-- 'laws.FnExactChanceOfHidden': WHATEVER THE INPUT: true; the input reads as it did. -/
def fnExactChanceOfHiddenSpec : ChangeSpec := { name := "fnExactChanceOfHidden", fn := fun _ => fun
  | [d1, d2, d3] => { results := [.lit (.bool true)], args := [d1, d2, d3] }
  | _ => none }
def fnExactChanceOfHiddenRow : OpenClaim := { program := "ytjfcpbedmdnjcaadoor", sum := "75d236618cd7eb40bd2d16076923b15518206fb325c50fc76bb7be1021420901", func := "loop.example/g01337/laws.FnExactChanceOfHidden", spec := "fnExactChanceOfHidden", inPlace := ["internal/bytealg.IndexByteString", "internal/bytealg.IndexString"], unfollowed := true, recurses := true, named := ["unicode/utf8.first", "unicode/utf8.acceptRanges", "internal/bytealg.MaxLen"], apart := false, laid := [("unicode/utf8.acceptRanges", laid_unicode_utf8_acceptRanges), ("unicode/utf8.first", laid_unicode_utf8_first)] }
def FnExactChanceOfHiddenSaid : Prop := fnExactChanceOfHiddenRow.holds Tryd.pinned (OpenSpec.ofChange fnExactChanceOfHiddenSpec)

/-- ITS FALSE NEIGHBOUR: 'it returns false'. Refute it at one input. -/
def fnExactChanceOfHiddenWrong : ChangeSpec := { name := "fnExactChanceOfHidden", fn := fun _ => fun
  | [d1, d2, d3] => { results := [.lit (.bool false)], args := [d1, d2, d3] }
  | _ => none }
def FnExactChanceOfHiddenWrongFalsely : Prop := fnExactChanceOfHiddenRow.holds Tryd.pinned (OpenSpec.ofChange fnExactChanceOfHiddenWrong)

/-- 'laws.FnExactLikeliestHidden': WHATEVER THE INPUT: true; the input reads as it did. -/
def fnExactLikeliestHiddenSpec : ChangeSpec := { name := "fnExactLikeliestHidden", fn := fun _ => fun
  | [d1, d2] => { results := [.lit (.bool true)], args := [d1, d2] }
  | _ => none }
def fnExactLikeliestHiddenRow : OpenClaim := { program := "ytjfcpbedmdnjcaadoor", sum := "75d236618cd7eb40bd2d16076923b15518206fb325c50fc76bb7be1021420901", func := "loop.example/g01337/laws.FnExactLikeliestHidden", spec := "fnExactLikeliestHidden", inPlace := ["internal/bytealg.IndexByteString", "internal/bytealg.IndexString"], unfollowed := true, recurses := true, named := ["unicode/utf8.first", "unicode/utf8.acceptRanges", "internal/bytealg.MaxLen"], apart := false, laid := [("unicode/utf8.acceptRanges", laid_unicode_utf8_acceptRanges), ("unicode/utf8.first", laid_unicode_utf8_first)] }
def FnExactLikeliestHiddenSaid : Prop := fnExactLikeliestHiddenRow.holds Tryd.pinned (OpenSpec.ofChange fnExactLikeliestHiddenSpec)

/-- ITS FALSE NEIGHBOUR: 'it returns false'. Refute it at one input. -/
def fnExactLikeliestHiddenWrong : ChangeSpec := { name := "fnExactLikeliestHidden", fn := fun _ => fun
  | [d1, d2] => { results := [.lit (.bool false)], args := [d1, d2] }
  | _ => none }
def FnExactLikeliestHiddenWrongFalsely : Prop := fnExactLikeliestHiddenRow.holds Tryd.pinned (OpenSpec.ofChange fnExactLikeliestHiddenWrong)

/-- 'laws.FnExactCountPossible': WHATEVER THE INPUT: true; the input reads as it did. -/
def fnExactCountPossibleSpec : ChangeSpec := { name := "fnExactCountPossible", fn := fun _ => fun
  | [d1, d2] => { results := [.lit (.bool true)], args := [d1, d2] }
  | _ => none }
def fnExactCountPossibleRow : OpenClaim := { program := "ytjfcpbedmdnjcaadoor", sum := "75d236618cd7eb40bd2d16076923b15518206fb325c50fc76bb7be1021420901", func := "loop.example/g01337/laws.FnExactCountPossible", spec := "fnExactCountPossible", inPlace := ["internal/bytealg.IndexByteString", "internal/bytealg.IndexString"], unfollowed := true, recurses := true, named := ["unicode/utf8.first", "unicode/utf8.acceptRanges", "internal/bytealg.MaxLen"], apart := false, laid := [("unicode/utf8.acceptRanges", laid_unicode_utf8_acceptRanges), ("unicode/utf8.first", laid_unicode_utf8_first)] }
def FnExactCountPossibleSaid : Prop := fnExactCountPossibleRow.holds Tryd.pinned (OpenSpec.ofChange fnExactCountPossibleSpec)

/-- ITS FALSE NEIGHBOUR: 'it returns false'. Refute it at one input. -/
def fnExactCountPossibleWrong : ChangeSpec := { name := "fnExactCountPossible", fn := fun _ => fun
  | [d1, d2] => { results := [.lit (.bool false)], args := [d1, d2] }
  | _ => none }
def FnExactCountPossibleWrongFalsely : Prop := fnExactCountPossibleRow.holds Tryd.pinned (OpenSpec.ofChange fnExactCountPossibleWrong)

/-- 'laws.FnExactFirstPossible': WHATEVER THE INPUT: true; the input reads as it did. -/
def fnExactFirstPossibleSpec : ChangeSpec := { name := "fnExactFirstPossible", fn := fun _ => fun
  | [d1, d2] => { results := [.lit (.bool true)], args := [d1, d2] }
  | _ => none }
def fnExactFirstPossibleRow : OpenClaim := { program := "ytjfcpbedmdnjcaadoor", sum := "75d236618cd7eb40bd2d16076923b15518206fb325c50fc76bb7be1021420901", func := "loop.example/g01337/laws.FnExactFirstPossible", spec := "fnExactFirstPossible", inPlace := ["internal/bytealg.IndexByteString", "internal/bytealg.IndexString"], unfollowed := true, recurses := true, named := ["unicode/utf8.first", "unicode/utf8.acceptRanges", "internal/bytealg.MaxLen"], apart := false, laid := [("unicode/utf8.acceptRanges", laid_unicode_utf8_acceptRanges), ("unicode/utf8.first", laid_unicode_utf8_first)] }
def FnExactFirstPossibleSaid : Prop := fnExactFirstPossibleRow.holds Tryd.pinned (OpenSpec.ofChange fnExactFirstPossibleSpec)

/-- ITS FALSE NEIGHBOUR: 'it returns false'. Refute it at one input. -/
def fnExactFirstPossibleWrong : ChangeSpec := { name := "fnExactFirstPossible", fn := fun _ => fun
  | [d1, d2] => { results := [.lit (.bool false)], args := [d1, d2] }
  | _ => none }
def FnExactFirstPossibleWrongFalsely : Prop := fnExactFirstPossibleRow.holds Tryd.pinned (OpenSpec.ofChange fnExactFirstPossibleWrong)

/-- 'laws.FnExactChanceOfNextSign': WHATEVER THE INPUT: true; the input reads as it did. -/
def fnExactChanceOfNextSignSpec : ChangeSpec := { name := "fnExactChanceOfNextSign", fn := fun _ => fun
  | [d1, d2, d3] => { results := [.lit (.bool true)], args := [d1, d2, d3] }
  | _ => none }
def fnExactChanceOfNextSignRow : OpenClaim := { program := "ytjfcpbedmdnjcaadoor", sum := "75d236618cd7eb40bd2d16076923b15518206fb325c50fc76bb7be1021420901", func := "loop.example/g01337/laws.FnExactChanceOfNextSign", spec := "fnExactChanceOfNextSign", inPlace := ["internal/bytealg.IndexByteString", "internal/bytealg.IndexString"], unfollowed := true, recurses := true, named := ["unicode/utf8.first", "unicode/utf8.acceptRanges", "internal/bytealg.MaxLen"], apart := false, laid := [("unicode/utf8.acceptRanges", laid_unicode_utf8_acceptRanges), ("unicode/utf8.first", laid_unicode_utf8_first)] }
def FnExactChanceOfNextSignSaid : Prop := fnExactChanceOfNextSignRow.holds Tryd.pinned (OpenSpec.ofChange fnExactChanceOfNextSignSpec)

/-- ITS FALSE NEIGHBOUR: 'it returns false'. Refute it at one input. -/
def fnExactChanceOfNextSignWrong : ChangeSpec := { name := "fnExactChanceOfNextSign", fn := fun _ => fun
  | [d1, d2, d3] => { results := [.lit (.bool false)], args := [d1, d2, d3] }
  | _ => none }
def FnExactChanceOfNextSignWrongFalsely : Prop := fnExactChanceOfNextSignRow.holds Tryd.pinned (OpenSpec.ofChange fnExactChanceOfNextSignWrong)

/- THE SECOND FORM. 'bulk': how many values and letters a reading holds, each counted each time it is reached (what is shared counts as often as it is met; a slice's spare places count too). A statement '..UptoSaid' is the law's where the arguments, and the package variables that the reading takes, are together of bulk at most 1048576: NARROWER than '..Said'. Prove '..Said' where nothing that the law and all that it calls make is longer than what came in: it says more and counts as full. Else prove '..UptoSaid'. A law counts once. -/
mutual
def uptoBulk {H : Type} : DataW H → Nat
  | .lit (.string bytes) => bytes.length + 1
  | .lit _ => 1
  | .nil => 1
  | .ptr d => uptoBulk d + 1
  | .slice elems spare => uptoBulkAll elems + uptoBulkAll spare + 1
  | .agg parts => uptoBulkAll parts + 1
  | .iface _ d => uptoBulk d + 1
  | .map entries => uptoBulkEntries entries + 1
  | .held _ => 1
def uptoBulkAll {H : Type} : List (DataW H) → Nat
  | [] => 0
  | d :: r => uptoBulk d + uptoBulkAll r
def uptoBulkEntries {H : Type} : List (Lit × DataW H) → Nat
  | [] => 0
  | x :: r => uptoBulkEntry x + uptoBulkEntries r
def uptoBulkEntry {H : Type} : Lit × DataW H → Nat
  | (.string bytes, d) => bytes.length + uptoBulk d + 1
  | (_, d) => uptoBulk d + 1
 end
def uptoSmall : (H : Type) → List (DataW H) → Bool := fun _ ds => decide (uptoBulkAll ds ≤ 1048576)
def OpenSpec.upto (s : _root_.Go.ChangeSpec) : _root_.Go.OpenSpec := { _root_.Go.OpenSpec.ofChange s with cond := some uptoSmall }

/-- 'laws.FnExactAreSigns', WHERE WHAT IT READS IS OF BULK AT MOST 1048576: true; the input reads as it did. -/
def fnExactAreSignsUptoRow : OpenClaim := { program := "ytjfcpbedmdnjcaadoor", sum := "75d236618cd7eb40bd2d16076923b15518206fb325c50fc76bb7be1021420901", func := "loop.example/g01337/laws.FnExactAreSigns", spec := "fnExactAreSigns", inPlace := ["internal/bytealg.IndexByteString", "internal/bytealg.IndexString"], named := ["unicode/utf8.first", "unicode/utf8.acceptRanges", "internal/bytealg.MaxLen"], apart := false, laid := [("unicode/utf8.acceptRanges", laid_unicode_utf8_acceptRanges), ("unicode/utf8.first", laid_unicode_utf8_first)], narrowed := true }
def FnExactAreSignsUptoSaid : Prop := fnExactAreSignsUptoRow.holds Tryd.pinned (OpenSpec.upto fnExactAreSignsSpec)

/-- 'laws.FnExactChanceBoth', WHERE WHAT IT READS IS OF BULK AT MOST 1048576: true; the input reads as it did. -/
def fnExactChanceBothUptoRow : OpenClaim := { program := "ytjfcpbedmdnjcaadoor", sum := "75d236618cd7eb40bd2d16076923b15518206fb325c50fc76bb7be1021420901", func := "loop.example/g01337/laws.FnExactChanceBoth", spec := "fnExactChanceBoth", inPlace := ["internal/bytealg.IndexByteString", "internal/bytealg.IndexString"], unfollowed := true, recurses := true, named := ["unicode/utf8.first", "unicode/utf8.acceptRanges", "internal/bytealg.MaxLen"], apart := false, laid := [("unicode/utf8.acceptRanges", laid_unicode_utf8_acceptRanges), ("unicode/utf8.first", laid_unicode_utf8_first)], narrowed := true }
def FnExactChanceBothUptoSaid : Prop := fnExactChanceBothUptoRow.holds Tryd.pinned (OpenSpec.upto fnExactChanceBothSpec)

/-- 'laws.FnExactChanceOfSigns', WHERE WHAT IT READS IS OF BULK AT MOST 1048576: true; the input reads as it did. -/
def fnExactChanceOfSignsUptoRow : OpenClaim := { program := "ytjfcpbedmdnjcaadoor", sum := "75d236618cd7eb40bd2d16076923b15518206fb325c50fc76bb7be1021420901", func := "loop.example/g01337/laws.FnExactChanceOfSigns", spec := "fnExactChanceOfSigns", inPlace := ["internal/bytealg.IndexByteString", "internal/bytealg.IndexString"], unfollowed := true, recurses := true, named := ["unicode/utf8.first", "unicode/utf8.acceptRanges", "internal/bytealg.MaxLen"], apart := false, laid := [("unicode/utf8.acceptRanges", laid_unicode_utf8_acceptRanges), ("unicode/utf8.first", laid_unicode_utf8_first)], narrowed := true }
def FnExactChanceOfSignsUptoSaid : Prop := fnExactChanceOfSignsUptoRow.holds Tryd.pinned (OpenSpec.upto fnExactChanceOfSignsSpec)

/-- 'laws.FnExactChanceOfDay', WHERE WHAT IT READS IS OF BULK AT MOST 1048576: true; the input reads as it did. -/
def fnExactChanceOfDayUptoRow : OpenClaim := { program := "ytjfcpbedmdnjcaadoor", sum := "75d236618cd7eb40bd2d16076923b15518206fb325c50fc76bb7be1021420901", func := "loop.example/g01337/laws.FnExactChanceOfDay", spec := "fnExactChanceOfDay", inPlace := ["internal/bytealg.IndexByteString", "internal/bytealg.IndexString"], unfollowed := true, recurses := true, named := ["unicode/utf8.first", "unicode/utf8.acceptRanges", "internal/bytealg.MaxLen"], apart := false, laid := [("unicode/utf8.acceptRanges", laid_unicode_utf8_acceptRanges), ("unicode/utf8.first", laid_unicode_utf8_first)], narrowed := true }
def FnExactChanceOfDayUptoSaid : Prop := fnExactChanceOfDayUptoRow.holds Tryd.pinned (OpenSpec.upto fnExactChanceOfDaySpec)

/-- 'laws.FnExactChanceOfHidden', WHERE WHAT IT READS IS OF BULK AT MOST 1048576: true; the input reads as it did. -/
def fnExactChanceOfHiddenUptoRow : OpenClaim := { program := "ytjfcpbedmdnjcaadoor", sum := "75d236618cd7eb40bd2d16076923b15518206fb325c50fc76bb7be1021420901", func := "loop.example/g01337/laws.FnExactChanceOfHidden", spec := "fnExactChanceOfHidden", inPlace := ["internal/bytealg.IndexByteString", "internal/bytealg.IndexString"], unfollowed := true, recurses := true, named := ["unicode/utf8.first", "unicode/utf8.acceptRanges", "internal/bytealg.MaxLen"], apart := false, laid := [("unicode/utf8.acceptRanges", laid_unicode_utf8_acceptRanges), ("unicode/utf8.first", laid_unicode_utf8_first)], narrowed := true }
def FnExactChanceOfHiddenUptoSaid : Prop := fnExactChanceOfHiddenUptoRow.holds Tryd.pinned (OpenSpec.upto fnExactChanceOfHiddenSpec)

/-- 'laws.FnExactLikeliestHidden', WHERE WHAT IT READS IS OF BULK AT MOST 1048576: true; the input reads as it did. -/
def fnExactLikeliestHiddenUptoRow : OpenClaim := { program := "ytjfcpbedmdnjcaadoor", sum := "75d236618cd7eb40bd2d16076923b15518206fb325c50fc76bb7be1021420901", func := "loop.example/g01337/laws.FnExactLikeliestHidden", spec := "fnExactLikeliestHidden", inPlace := ["internal/bytealg.IndexByteString", "internal/bytealg.IndexString"], unfollowed := true, recurses := true, named := ["unicode/utf8.first", "unicode/utf8.acceptRanges", "internal/bytealg.MaxLen"], apart := false, laid := [("unicode/utf8.acceptRanges", laid_unicode_utf8_acceptRanges), ("unicode/utf8.first", laid_unicode_utf8_first)], narrowed := true }
def FnExactLikeliestHiddenUptoSaid : Prop := fnExactLikeliestHiddenUptoRow.holds Tryd.pinned (OpenSpec.upto fnExactLikeliestHiddenSpec)

/-- 'laws.FnExactCountPossible', WHERE WHAT IT READS IS OF BULK AT MOST 1048576: true; the input reads as it did. -/
def fnExactCountPossibleUptoRow : OpenClaim := { program := "ytjfcpbedmdnjcaadoor", sum := "75d236618cd7eb40bd2d16076923b15518206fb325c50fc76bb7be1021420901", func := "loop.example/g01337/laws.FnExactCountPossible", spec := "fnExactCountPossible", inPlace := ["internal/bytealg.IndexByteString", "internal/bytealg.IndexString"], unfollowed := true, recurses := true, named := ["unicode/utf8.first", "unicode/utf8.acceptRanges", "internal/bytealg.MaxLen"], apart := false, laid := [("unicode/utf8.acceptRanges", laid_unicode_utf8_acceptRanges), ("unicode/utf8.first", laid_unicode_utf8_first)], narrowed := true }
def FnExactCountPossibleUptoSaid : Prop := fnExactCountPossibleUptoRow.holds Tryd.pinned (OpenSpec.upto fnExactCountPossibleSpec)

/-- 'laws.FnExactFirstPossible', WHERE WHAT IT READS IS OF BULK AT MOST 1048576: true; the input reads as it did. -/
def fnExactFirstPossibleUptoRow : OpenClaim := { program := "ytjfcpbedmdnjcaadoor", sum := "75d236618cd7eb40bd2d16076923b15518206fb325c50fc76bb7be1021420901", func := "loop.example/g01337/laws.FnExactFirstPossible", spec := "fnExactFirstPossible", inPlace := ["internal/bytealg.IndexByteString", "internal/bytealg.IndexString"], unfollowed := true, recurses := true, named := ["unicode/utf8.first", "unicode/utf8.acceptRanges", "internal/bytealg.MaxLen"], apart := false, laid := [("unicode/utf8.acceptRanges", laid_unicode_utf8_acceptRanges), ("unicode/utf8.first", laid_unicode_utf8_first)], narrowed := true }
def FnExactFirstPossibleUptoSaid : Prop := fnExactFirstPossibleUptoRow.holds Tryd.pinned (OpenSpec.upto fnExactFirstPossibleSpec)

/-- 'laws.FnExactChanceOfNextSign', WHERE WHAT IT READS IS OF BULK AT MOST 1048576: true; the input reads as it did. -/
def fnExactChanceOfNextSignUptoRow : OpenClaim := { program := "ytjfcpbedmdnjcaadoor", sum := "75d236618cd7eb40bd2d16076923b15518206fb325c50fc76bb7be1021420901", func := "loop.example/g01337/laws.FnExactChanceOfNextSign", spec := "fnExactChanceOfNextSign", inPlace := ["internal/bytealg.IndexByteString", "internal/bytealg.IndexString"], unfollowed := true, recurses := true, named := ["unicode/utf8.first", "unicode/utf8.acceptRanges", "internal/bytealg.MaxLen"], apart := false, laid := [("unicode/utf8.acceptRanges", laid_unicode_utf8_acceptRanges), ("unicode/utf8.first", laid_unicode_utf8_first)], narrowed := true }
def FnExactChanceOfNextSignUptoSaid : Prop := fnExactChanceOfNextSignUptoRow.holds Tryd.pinned (OpenSpec.upto fnExactChanceOfNextSignSpec)

end Rows
end Go.Proofs.YtjfcpbedmdnjcaaDoor
