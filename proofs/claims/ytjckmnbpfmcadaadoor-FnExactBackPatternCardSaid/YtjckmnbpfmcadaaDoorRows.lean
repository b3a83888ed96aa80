/-
  NARROWER THAN 'FOR EVERY INPUT', by the rows' own cells (each row's printed sentence says how): FnExactIsPattern: laid · FnExactChanceOfPattern: laid · FnExactOverlapsOf: laid · FnExactMeanWait: laid · FnExactMeanBetween: laid · FnExactPlacesOf: laid · FnExactFirstPlace: laid · FnExactMeanPlaces: laid · FnExactBackPattern: laid.
  DERIVED. THE GIVEN ROWS OF THIS SEAT. 9 by the template 'for every input the law returns true; each argument reads behind the call as it read before'; 0 by the template 'total and deterministic' (their statements: YtjckmnbpfmcadaaDoorTotals.lean).
  GIVEN WITH THE SEED: the statements are not yours to turn. If you find one false, say at which input.
  Laid BY PROGRAM, IN A SANDBOX (cutbox-rows.mjs): the forced cells as the released guide's own fill.sh prints them over the translation 9450140c653a9030… (all of the seat's roots in one cut). By AI agents, Wed Nov 11 2026. No macro, syntax, notation, axiom, sorry.
-/
import Derived.Test.YtjckmnbpfmcadaaDoorChecked
import GoSem.PinnedTables
import GoSem.Claim
import GoSem.ClaimJoined
import GoSem.ClaimMapViews
import Derived.JoinedTies
import Derived.KernelRfl
namespace Go.Proofs.YtjckmnbpfmcadaaDoor
/- THE CELL 'sum', in the pinned program and in every row, IS THE sha256 OF THE DUMP (.gsa) THAT YtjckmnbpfmcadaaDoorProg.lean LOADS. Nothing in Lean hashes anything: it is a label: what it is worth is what the hold of that sum in a sandbox is worth. -/
noncomputable def Tryd.pinned : Pinned := { name := "ytjckmnbpfmcadaadoor", sum := "9450140c653a903093c2a92a9bd6a9e968be279cce947e1a48891ed791f1bac0", checked := Tryd.checked }
namespace Rows
def none {H : Type} : Left H := { results := [], args := [] }

/- WHAT THE LISTED PACKAGE-LEVEL VARIABLES READ AS WHEN THE CALL BEGINS. Each datum BY PROGRAM (the guide's laid-datum.mjs) off the statement by which the dump's own 'gosem.cut.vars' lays the variable. In a bare row this is a premise. The card (YtjckmnbpfmcadaaDoorCards.lean) ties it to the program's text. -/
def laid_unicode_utf8_acceptRanges {H : Type} : DataW H := .agg [.agg [.lit (.int .u8 128), .lit (.int .u8 191)], .agg [.lit (.int .u8 160), .lit (.int .u8 191)], .agg [.lit (.int .u8 128), .lit (.int .u8 159)], .agg [.lit (.int .u8 144), .lit (.int .u8 191)], .agg [.lit (.int .u8 128), .lit (.int .u8 143)], .agg [.lit (.int .u8 0), .lit (.int .u8 0)], .agg [.lit (.int .u8 0), .lit (.int .u8 0)], .agg [.lit (.int .u8 0), .lit (.int .u8 0)], .agg [.lit (.int .u8 0), .lit (.int .u8 0)], .agg [.lit (.int .u8 0), .lit (.int .u8 0)], .agg [.lit (.int .u8 0), .lit (.int .u8 0)], .agg [.lit (.int .u8 0), .lit (.int .u8 0)], .agg [.lit (.int .u8 0), .lit (.int .u8 0)], .agg [.lit (.int .u8 0), .lit (.int .u8 0)], .agg [.lit (.int .u8 0), .lit (.int .u8 0)], .agg [.lit (.int .u8 0), .lit (.int .u8 0)]]
/-- One of Go's own tables, pinned by name: the form's constant. -/
def laid_unicode_utf8_first : DataW Unit := Go.Pinned.utf8First

/-- 'laws.FnExactIsPattern': WHATEVER THE INPUT: true; the input reads as it did. -/
def fnExactIsPatternSpec : ChangeSpec := { name := "fnExactIsPattern", fn := fun _ => fun
  | [d] => { results := [.lit (.bool true)], args := [d] }
  | _ => none }
def fnExactIsPatternRow : OpenClaim := { program := "ytjckmnbpfmcadaadoor", sum := "9450140c653a903093c2a92a9bd6a9e968be279cce947e1a48891ed791f1bac0", func := "loop.example/g01337/laws.FnExactIsPattern", spec := "fnExactIsPattern", inPlace := ["internal/bytealg.IndexByteString", "internal/bytealg.IndexString"], named := ["unicode/utf8.first", "unicode/utf8.acceptRanges", "internal/bytealg.MaxLen"], apart := false, laid := [("unicode/utf8.acceptRanges", laid_unicode_utf8_acceptRanges), ("unicode/utf8.first", laid_unicode_utf8_first)] }
def FnExactIsPatternSaid : Prop := fnExactIsPatternRow.holds Tryd.pinned (OpenSpec.ofChange fnExactIsPatternSpec)

/-- ITS FALSE NEIGHBOUR: 'it returns false'. Refute it at one input. -/
def fnExactIsPatternWrong : ChangeSpec := { name := "fnExactIsPattern", fn := fun _ => fun
  | [d] => { results := [.lit (.bool false)], args := [d] }
  | _ => none }
def FnExactIsPatternWrongFalsely : Prop := fnExactIsPatternRow.holds Tryd.pinned (OpenSpec.ofChange fnExactIsPatternWrong)

/-- 'laws.FnExactChanceOfPattern': WHATEVER THE INPUT: true; the input reads as it did. -/
def fnExactChanceOfPatternSpec : ChangeSpec := { name := "fnExactChanceOfPattern", fn := fun _ => fun
  | [d1, d2] => { results := [.lit (.bool true)], args := [d1, d2] }
  | _ => none }
def fnExactChanceOfPatternRow : OpenClaim := { program := "ytjckmnbpfmcadaadoor", sum := "9450140c653a903093c2a92a9bd6a9e968be279cce947e1a48891ed791f1bac0", func := "loop.example/g01337/laws.FnExactChanceOfPattern", spec := "fnExactChanceOfPattern", inPlace := ["internal/bytealg.IndexByteString", "internal/bytealg.IndexString", "internal/bytealg.CountString"], named := ["unicode/utf8.first", "unicode/utf8.acceptRanges", "internal/bytealg.MaxLen"], apart := false, laid := [("unicode/utf8.acceptRanges", laid_unicode_utf8_acceptRanges), ("unicode/utf8.first", laid_unicode_utf8_first)] }
def FnExactChanceOfPatternSaid : Prop := fnExactChanceOfPatternRow.holds Tryd.pinned (OpenSpec.ofChange fnExactChanceOfPatternSpec)

/-- ITS FALSE NEIGHBOUR: 'it returns false'. Refute it at one input. -/
def fnExactChanceOfPatternWrong : ChangeSpec := { name := "fnExactChanceOfPattern", fn := fun _ => fun
  | [d1, d2] => { results := [.lit (.bool false)], args := [d1, d2] }
  | _ => none }
def FnExactChanceOfPatternWrongFalsely : Prop := fnExactChanceOfPatternRow.holds Tryd.pinned (OpenSpec.ofChange fnExactChanceOfPatternWrong)

/-- 'laws.FnExactOverlapsOf': WHATEVER THE INPUT: true; the input reads as it did. -/
def fnExactOverlapsOfSpec : ChangeSpec := { name := "fnExactOverlapsOf", fn := fun _ => fun
  | [d] => { results := [.lit (.bool true)], args := [d] }
  | _ => none }
def fnExactOverlapsOfRow : OpenClaim := { program := "ytjckmnbpfmcadaadoor", sum := "9450140c653a903093c2a92a9bd6a9e968be279cce947e1a48891ed791f1bac0", func := "loop.example/g01337/laws.FnExactOverlapsOf", spec := "fnExactOverlapsOf", inPlace := ["internal/bytealg.IndexByteString", "internal/bytealg.IndexString"], named := ["unicode/utf8.first", "unicode/utf8.acceptRanges", "internal/bytealg.MaxLen"], apart := false, laid := [("unicode/utf8.acceptRanges", laid_unicode_utf8_acceptRanges), ("unicode/utf8.first", laid_unicode_utf8_first)] }
def FnExactOverlapsOfSaid : Prop := fnExactOverlapsOfRow.holds Tryd.pinned (OpenSpec.ofChange fnExactOverlapsOfSpec)

/-- ITS FALSE NEIGHBOUR: 'it returns false'. Refute it at one input. -/
def fnExactOverlapsOfWrong : ChangeSpec := { name := "fnExactOverlapsOf", fn := fun _ => fun
  | [d] => { results := [.lit (.bool false)], args := [d] }
  | _ => none }
def FnExactOverlapsOfWrongFalsely : Prop := fnExactOverlapsOfRow.holds Tryd.pinned (OpenSpec.ofChange fnExactOverlapsOfWrong)

/-- 'laws.FnExactMeanWait': WHATEVER THE INPUT: true; the input reads as it did. -/
def fnExactMeanWaitSpec : ChangeSpec := { name := "fnExactMeanWait", fn := fun _ => fun
  | [d1, d2] => { results := [.lit (.bool true)], args := [d1, d2] }
  | _ => none }
def fnExactMeanWaitRow : OpenClaim := { program := "ytjckmnbpfmcadaadoor", sum := "9450140c653a903093c2a92a9bd6a9e968be279cce947e1a48891ed791f1bac0", func := "loop.example/g01337/laws.FnExactMeanWait", spec := "fnExactMeanWait", inPlace := ["internal/bytealg.IndexByteString", "internal/bytealg.IndexString", "internal/bytealg.CountString"], named := ["unicode/utf8.first", "unicode/utf8.acceptRanges", "internal/bytealg.MaxLen"], apart := false, laid := [("unicode/utf8.acceptRanges", laid_unicode_utf8_acceptRanges), ("unicode/utf8.first", laid_unicode_utf8_first)] }
def FnExactMeanWaitSaid : Prop := fnExactMeanWaitRow.holds Tryd.pinned (OpenSpec.ofChange fnExactMeanWaitSpec)

/-- ITS FALSE NEIGHBOUR: 'it returns false'. Refute it at one input. -/
def fnExactMeanWaitWrong : ChangeSpec := { name := "fnExactMeanWait", fn := fun _ => fun
  | [d1, d2] => { results := [.lit (.bool false)], args := [d1, d2] }
  | _ => none }
def FnExactMeanWaitWrongFalsely : Prop := fnExactMeanWaitRow.holds Tryd.pinned (OpenSpec.ofChange fnExactMeanWaitWrong)

/-- 'laws.FnExactMeanBetween': WHATEVER THE INPUT: true; the input reads as it did. -/
def fnExactMeanBetweenSpec : ChangeSpec := { name := "fnExactMeanBetween", fn := fun _ => fun
  | [d1, d2] => { results := [.lit (.bool true)], args := [d1, d2] }
  | _ => none }
def fnExactMeanBetweenRow : OpenClaim := { program := "ytjckmnbpfmcadaadoor", sum := "9450140c653a903093c2a92a9bd6a9e968be279cce947e1a48891ed791f1bac0", func := "loop.example/g01337/laws.FnExactMeanBetween", spec := "fnExactMeanBetween", inPlace := ["internal/bytealg.IndexByteString", "internal/bytealg.IndexString", "internal/bytealg.CountString"], named := ["unicode/utf8.first", "unicode/utf8.acceptRanges", "internal/bytealg.MaxLen"], apart := false, laid := [("unicode/utf8.acceptRanges", laid_unicode_utf8_acceptRanges), ("unicode/utf8.first", laid_unicode_utf8_first)] }
def FnExactMeanBetweenSaid : Prop := fnExactMeanBetweenRow.holds Tryd.pinned (OpenSpec.ofChange fnExactMeanBetweenSpec)

/-- ITS FALSE NEIGHBOUR: 'it returns false'. Refute it at one input. -/
def fnExactMeanBetweenWrong : ChangeSpec := { name := "fnExactMeanBetween", fn := fun _ => fun
  | [d1, d2] => { results := [.lit (.bool false)], args := [d1, d2] }
  | _ => none }
def FnExactMeanBetweenWrongFalsely : Prop := fnExactMeanBetweenRow.holds Tryd.pinned (OpenSpec.ofChange fnExactMeanBetweenWrong)

/-- 'laws.FnExactPlacesOf': WHATEVER THE INPUT: true; the input reads as it did. -/
def fnExactPlacesOfSpec : ChangeSpec := { name := "fnExactPlacesOf", fn := fun _ => fun
  | [d1, d2] => { results := [.lit (.bool true)], args := [d1, d2] }
  | _ => none }
def fnExactPlacesOfRow : OpenClaim := { program := "ytjckmnbpfmcadaadoor", sum := "9450140c653a903093c2a92a9bd6a9e968be279cce947e1a48891ed791f1bac0", func := "loop.example/g01337/laws.FnExactPlacesOf", spec := "fnExactPlacesOf", inPlace := ["internal/bytealg.IndexByteString", "internal/bytealg.IndexString"], named := ["unicode/utf8.first", "unicode/utf8.acceptRanges", "internal/bytealg.MaxLen"], apart := false, laid := [("unicode/utf8.acceptRanges", laid_unicode_utf8_acceptRanges), ("unicode/utf8.first", laid_unicode_utf8_first)] }
def FnExactPlacesOfSaid : Prop := fnExactPlacesOfRow.holds Tryd.pinned (OpenSpec.ofChange fnExactPlacesOfSpec)

/-- ITS FALSE NEIGHBOUR: 'it returns false'. Refute it at one input. -/
def fnExactPlacesOfWrong : ChangeSpec := { name := "fnExactPlacesOf", fn := fun _ => fun
  | [d1, d2] => { results := [.lit (.bool false)], args := [d1, d2] }
  | _ => none }
def FnExactPlacesOfWrongFalsely : Prop := fnExactPlacesOfRow.holds Tryd.pinned (OpenSpec.ofChange fnExactPlacesOfWrong)

/-- 'laws.FnExactFirstPlace': WHATEVER THE INPUT: true; the input reads as it did. -/
def fnExactFirstPlaceSpec : ChangeSpec := { name := "fnExactFirstPlace", fn := fun _ => fun
  | [d1, d2] => { results := [.lit (.bool true)], args := [d1, d2] }
  | _ => none }
def fnExactFirstPlaceRow : OpenClaim := { program := "ytjckmnbpfmcadaadoor", sum := "9450140c653a903093c2a92a9bd6a9e968be279cce947e1a48891ed791f1bac0", func := "loop.example/g01337/laws.FnExactFirstPlace", spec := "fnExactFirstPlace", inPlace := ["internal/bytealg.IndexByteString", "internal/bytealg.IndexString"], named := ["unicode/utf8.first", "unicode/utf8.acceptRanges", "internal/bytealg.MaxLen"], apart := false, laid := [("unicode/utf8.acceptRanges", laid_unicode_utf8_acceptRanges), ("unicode/utf8.first", laid_unicode_utf8_first)] }
def FnExactFirstPlaceSaid : Prop := fnExactFirstPlaceRow.holds Tryd.pinned (OpenSpec.ofChange fnExactFirstPlaceSpec)

/-- ITS FALSE NEIGHBOUR: 'it returns false'. Refute it at one input. -/
def fnExactFirstPlaceWrong : ChangeSpec := { name := "fnExactFirstPlace", fn := fun _ => fun
  | [d1, d2] => { results := [.lit (.bool false)], args := [d1, d2] }
  | _ => none }
def FnExactFirstPlaceWrongFalsely : Prop := fnExactFirstPlaceRow.holds Tryd.pinned (OpenSpec.ofChange fnExactFirstPlaceWrong)

/-- 'laws.FnExactMeanPlaces': WHATEVER THE INPUT: true; the input reads as it did. -/
def fnExactMeanPlacesSpec : ChangeSpec := { name := "fnExactMeanPlaces", fn := fun _ => fun
  | [d1, d2, d3] => { results := [.lit (.bool true)], args := [d1, d2, d3] }
  | _ => none }
def fnExactMeanPlacesRow : OpenClaim := { program := "ytjckmnbpfmcadaadoor", sum := "9450140c653a903093c2a92a9bd6a9e968be279cce947e1a48891ed791f1bac0", func := "loop.example/g01337/laws.FnExactMeanPlaces", spec := "fnExactMeanPlaces", inPlace := ["internal/bytealg.IndexByteString", "internal/bytealg.IndexString", "internal/bytealg.CountString"], named := ["unicode/utf8.first", "unicode/utf8.acceptRanges", "internal/bytealg.MaxLen"], apart := false, laid := [("unicode/utf8.acceptRanges", laid_unicode_utf8_acceptRanges), ("unicode/utf8.first", laid_unicode_utf8_first)] }
def FnExactMeanPlacesSaid : Prop := fnExactMeanPlacesRow.holds Tryd.pinned (OpenSpec.ofChange fnExactMeanPlacesSpec)

/-- ITS FALSE NEIGHBOUR: 'it returns false'. Refute it at one input. -/
def fnExactMeanPlacesWrong : ChangeSpec := { name := "fnExactMeanPlaces", fn := fun _ => fun
  | [d1, d2, d3] => { results := [.lit (.bool false)], args := [d1, d2, d3] }
  | _ => none }
def FnExactMeanPlacesWrongFalsely : Prop := fnExactMeanPlacesRow.holds Tryd.pinned (OpenSpec.ofChange fnExactMeanPlacesWrong)

/-- 'laws.FnExactBackPattern': WHATEVER THE INPUT: true; the input reads as it did. -/
def fnExactBackPatternSpec : ChangeSpec := { name := "fnExactBackPattern", fn := fun _ => fun
  | [d] => { results := [.lit (.bool true)], args := [d] }
  | _ => none }
def fnExactBackPatternRow : OpenClaim := { program := "ytjckmnbpfmcadaadoor", sum := "9450140c653a903093c2a92a9bd6a9e968be279cce947e1a48891ed791f1bac0", func := "loop.example/g01337/laws.FnExactBackPattern", spec := "fnExactBackPattern", inPlace := ["internal/bytealg.IndexByteString", "internal/bytealg.IndexString"], named := ["unicode/utf8.first", "unicode/utf8.acceptRanges", "internal/bytealg.MaxLen"], apart := false, laid := [("unicode/utf8.acceptRanges", laid_unicode_utf8_acceptRanges), ("unicode/utf8.first", laid_unicode_utf8_first)] }
def FnExactBackPatternSaid : Prop := fnExactBackPatternRow.holds Tryd.pinned (OpenSpec.ofChange fnExactBackPatternSpec)

/-- ITS FALSE NEIGHBOUR: 'it returns false'. Refute it at one input. -/
def fnExactBackPatternWrong : ChangeSpec := { name := "fnExactBackPattern", fn := fun _ => fun
  | [d] => { results := [.lit (.bool false)], args := [d] }
  | _ => none }
def FnExactBackPatternWrongFalsely : Prop := fnExactBackPatternRow.holds Tryd.pinned (OpenSpec.ofChange fnExactBackPatternWrong)

/- THE SECOND FORM. 'bulk': how many values and letters a reading holds, each counted each time it is reached (what is shared counts as often as it is met; a slice's spare places count too). A statement '..UptoSaid' is the law's where the arguments, and the package variables that the reading takes, are together of bulk at most 1048576: NARROWER than '..Said'. Prove '..Said' where nothing that the law and all that it calls make is longer than what came in: it says more and counts as full. Else prove '..UptoSaid'. A law counts once. -/
mutual
def uptoBulk {H : Type} : DataW H → Nat
  | .lit (.string bytes) => bytes.length + 1
  | .lit _ => 1
  | .nil => 1
  | .ptr d => uptoBulk d + 1
  | .slice elems spare => uptoBulkAll elems + uptoBulkAll spare + 1
  | .agg parts => uptoBulkAll parts + 1
  | .iface _ d => uptoBulk d + 1
  | .map entries => uptoBulkEntries entries + 1
  | .held _ => 1
def uptoBulkAll {H : Type} : List (DataW H) → Nat
  | [] => 0
  | d :: r => uptoBulk d + uptoBulkAll r
def uptoBulkEntries {H : Type} : List (Lit × DataW H) → Nat
  | [] => 0
  | x :: r => uptoBulkEntry x + uptoBulkEntries r
def uptoBulkEntry {H : Type} : Lit × DataW H → Nat
  | (.string bytes, d) => bytes.length + uptoBulk d + 1
  | (_, d) => uptoBulk d + 1
 end
def uptoSmall : (H : Type) → List (DataW H) → Bool := fun _ ds => decide (uptoBulkAll ds ≤ 1048576)
def OpenSpec.upto (s : _root_.Go.ChangeSpec) : _root_.Go.OpenSpec := { _root_.Go.OpenSpec.ofChange s with cond := some uptoSmall }

/-- 'laws.FnExactIsPattern', WHERE WHAT IT READS IS OF BULK AT MOST 1048576: true; the input reads as it did. -/
def fnExactIsPatternUptoRow : OpenClaim := { program := "ytjckmnbpfmcadaadoor", sum := "9450140c653a903093c2a92a9bd6a9e968be279cce947e1a48891ed791f1bac0", func := "loop.example/g01337/laws.FnExactIsPattern", spec := "fnExactIsPattern", inPlace := ["internal/bytealg.IndexByteString", "internal/bytealg.IndexString"], named := ["unicode/utf8.first", "unicode/utf8.acceptRanges", "internal/bytealg.MaxLen"], apart := false, laid := [("unicode/utf8.acceptRanges", laid_unicode_utf8_acceptRanges), ("unicode/utf8.first", laid_unicode_utf8_first)], narrowed := true }
def FnExactIsPatternUptoSaid : Prop := fnExactIsPatternUptoRow.holds Tryd.pinned (OpenSpec.upto fnExactIsPatternSpec)

/-- 'laws.FnExactChanceOfPattern', WHERE WHAT IT READS IS OF BULK AT MOST 1048576: true; the input reads as it did. -/
def fnExactChanceOfPatternUptoRow : OpenClaim := { program := "ytjckmnbpfmcadaadoor", sum := "9450140c653a903093c2a92a9bd6a9e968be279cce947e1a48891ed791f1bac0", func := "loop.example/g01337/laws.FnExactChanceOfPattern", spec := "fnExactChanceOfPattern", inPlace := ["internal/bytealg.IndexByteString", "internal/bytealg.IndexString", "internal/bytealg.CountString"], named := ["unicode/utf8.first", "unicode/utf8.acceptRanges", "internal/bytealg.MaxLen"], apart := false, laid := [("unicode/utf8.acceptRanges", laid_unicode_utf8_acceptRanges), ("unicode/utf8.first", laid_unicode_utf8_first)], narrowed := true }
def FnExactChanceOfPatternUptoSaid : Prop := fnExactChanceOfPatternUptoRow.holds Tryd.pinned (OpenSpec.upto fnExactChanceOfPatternSpec)

/-- 'laws.FnExactOverlapsOf', WHERE WHAT IT READS IS OF BULK AT MOST 1048576: true; the input reads as it did. -/
def fnExactOverlapsOfUptoRow : OpenClaim := { program := "ytjckmnbpfmcadaadoor", sum := "9450140c653a903093c2a92a9bd6a9e968be279cce947e1a48891ed791f1bac0", func := "loop.example/g01337/laws.FnExactOverlapsOf", spec := "fnExactOverlapsOf", inPlace := ["internal/bytealg.IndexByteString", "internal/bytealg.IndexString"], named := ["unicode/utf8.first", "unicode/utf8.acceptRanges", "internal/bytealg.MaxLen"], apart := false, laid := [("unicode/utf8.acceptRanges", laid_unicode_utf8_acceptRanges), ("unicode/utf8.first", laid_unicode_utf8_first)], narrowed := true }
def FnExactOverlapsOfUptoSaid : Prop := fnExactOverlapsOfUptoRow.holds Tryd.pinned (OpenSpec.upto fnExactOverlapsOfSpec)

/-- 'laws.FnExactMeanWait', WHERE WHAT IT READS IS OF BULK AT MOST 1048576: true; the input reads as it did. -/
def fnExactMeanWaitUptoRow : OpenClaim := { program := "ytjckmnbpfmcadaadoor", sum := "9450140c653a903093c2a92a9bd6a9e968be279cce947e1a48891ed791f1bac0", func := "loop.example/g01337/laws.FnExactMeanWait", spec := "fnExactMeanWait", inPlace := ["internal/bytealg.IndexByteString", "internal/bytealg.IndexString", "internal/bytealg.CountString"], named := ["unicode/utf8.first", "unicode/utf8.acceptRanges", "internal/bytealg.MaxLen"], apart := false, laid := [("unicode/utf8.acceptRanges", laid_unicode_utf8_acceptRanges), ("unicode/utf8.first", laid_unicode_utf8_first)], narrowed := true }
def FnExactMeanWaitUptoSaid : Prop := fnExactMeanWaitUptoRow.holds Tryd.pinned (OpenSpec.upto fnExactMeanWaitSpec)

/-- 'laws.FnExactMeanBetween', WHERE WHAT IT READS IS OF BULK AT MOST 1048576: true; the input reads as it did. -/
def fnExactMeanBetweenUptoRow : OpenClaim := { program := "ytjckmnbpfmcadaadoor", sum := "9450140c653a903093c2a92a9bd6a9e968be279cce947e1a48891ed791f1bac0", func := "loop.example/g01337/laws.FnExactMeanBetween", spec := "fnExactMeanBetween", inPlace := ["internal/bytealg.IndexByteString", "internal/bytealg.IndexString", "internal/bytealg.CountString"], named := ["unicode/utf8.first", "unicode/utf8.acceptRanges", "internal/bytealg.MaxLen"], apart := false, laid := [("unicode/utf8.acceptRanges", laid_unicode_utf8_acceptRanges), ("unicode/utf8.first", laid_unicode_utf8_first)], narrowed := true }
def FnExactMeanBetweenUptoSaid : Prop := fnExactMeanBetweenUptoRow.holds Tryd.pinned (OpenSpec.upto fnExactMeanBetweenSpec)

/-- 'laws.FnExactPlacesOf', WHERE WHAT IT READS IS OF BULK AT MOST 1048576: true; the input reads as it did. -/
def fnExactPlacesOfUptoRow : OpenClaim := { program := "ytjckmnbpfmcadaadoor", sum := "9450140c653a903093c2a92a9bd6a9e968be279cce947e1a48891ed791f1bac0", func := "loop.example/g01337/laws.FnExactPlacesOf", spec := "fnExactPlacesOf", inPlace := ["internal/bytealg.IndexByteString", "internal/bytealg.IndexString"], named := ["unicode/utf8.first", "unicode/utf8.acceptRanges", "internal/bytealg.MaxLen"], apart := false, laid := [("unicode/utf8.acceptRanges", laid_unicode_utf8_acceptRanges), ("unicode/utf8.first", laid_unicode_utf8_first)], narrowed := true }
def FnExactPlacesOfUptoSaid : Prop := fnExactPlacesOfUptoRow.holds Tryd.pinned (OpenSpec.upto fnExactPlacesOfSpec)

/-- 'laws.FnExactFirstPlace', WHERE WHAT IT READS IS OF BULK AT MOST 1048576: true; the input reads as it did. -/
def fnExactFirstPlaceUptoRow : OpenClaim := { program := "ytjckmnbpfmcadaadoor", sum := "9450140c653a903093c2a92a9bd6a9e968be279cce947e1a48891ed791f1bac0", func := "loop.example/g01337/laws.FnExactFirstPlace", spec := "fnExactFirstPlace", inPlace := ["internal/bytealg.IndexByteString", "internal/bytealg.IndexString"], named := ["unicode/utf8.first", "unicode/utf8.acceptRanges", "internal/bytealg.MaxLen"], apart := false, laid := [("unicode/utf8.acceptRanges", laid_unicode_utf8_acceptRanges), ("unicode/utf8.first", laid_unicode_utf8_first)], narrowed := true }
def FnExactFirstPlaceUptoSaid : Prop := fnExactFirstPlaceUptoRow.holds Tryd.pinned (OpenSpec.upto fnExactFirstPlaceSpec)

/-- 'laws.FnExactMeanPlaces', WHERE WHAT IT READS IS OF BULK AT MOST 1048576: true; the input reads as it did. -/
def fnExactMeanPlacesUptoRow : OpenClaim := { program := "ytjckmnbpfmcadaadoor", sum := "9450140c653a903093c2a92a9bd6a9e968be279cce947e1a48891ed791f1bac0", func := "loop.example/g01337/laws.FnExactMeanPlaces", spec := "fnExactMeanPlaces", inPlace := ["internal/bytealg.IndexByteString", "internal/bytealg.IndexString", "internal/bytealg.CountString"], named := ["unicode/utf8.first", "unicode/utf8.acceptRanges", "internal/bytealg.MaxLen"], apart := false, laid := [("unicode/utf8.acceptRanges", laid_unicode_utf8_acceptRanges), ("unicode/utf8.first", laid_unicode_utf8_first)], narrowed := true }
def FnExactMeanPlacesUptoSaid : Prop := fnExactMeanPlacesUptoRow.holds Tryd.pinned (OpenSpec.upto fnExactMeanPlacesSpec)

/-- 'laws.FnExactBackPattern', WHERE WHAT IT READS IS OF BULK AT MOST 1048576: true; the input reads as it did. -/
def fnExactBackPatternUptoRow : OpenClaim := { program := "ytjckmnbpfmcadaadoor", sum := "9450140c653a903093c2a92a9bd6a9e968be279cce947e1a48891ed791f1bac0", func := "loop.example/g01337/laws.FnExactBackPattern", spec := "fnExactBackPattern", inPlace := ["internal/bytealg.IndexByteString", "internal/bytealg.IndexString"], named := ["unicode/utf8.first", "unicode/utf8.acceptRanges", "internal/bytealg.MaxLen"], apart := false, laid := [("unicode/utf8.acceptRanges", laid_unicode_utf8_acceptRanges), ("unicode/utf8.first", laid_unicode_utf8_first)], narrowed := true }
def FnExactBackPatternUptoSaid : Prop := fnExactBackPatternUptoRow.holds Tryd.pinned (OpenSpec.upto fnExactBackPatternSpec)

end Rows
end Go.Proofs.YtjckmnbpfmcadaaDoor
