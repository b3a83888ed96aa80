/-
  NARROWER THAN 'FOR EVERY INPUT', by the rows' own cells (each row's printed sentence says how): FnExactAreRacers: laid · FnExactLeadingNumber: laid · FnExactChanceFirst: laid · FnExactMeanRace: laid · FnExactWinnerOfRace: laid · FnExactDoesBeat: laid · FnExactBestAnswer: laid · FnExactBeatenBy: laid · FnExactEvenRaces: laid.
  DERIVED. THE GIVEN ROWS OF THIS SEAT. 9 by the template 'for every input the law returns true; each argument reads behind the call as it read before'; 0 by the template 'total and deterministic' (their statements: YtjckmnbpfmcadabDoorTotals.lean).
  GIVEN WITH THE SEED: the statements are not yours to turn. If you find one false, say at which input.
  Laid BY PROGRAM, IN A SANDBOX (cutbox-rows.mjs): the forced cells as the released guide's own fill.sh prints them over the translation 079a01f5d7595398… (all of the seat's roots in one cut). By AI agents, Wed Nov 11 2026. No macro, syntax, notation, axiom, sorry.
-/
import Derived.Test.YtjckmnbpfmcadabDoorChecked
import GoSem.PinnedTables
import GoSem.Claim
import GoSem.ClaimJoined
import GoSem.ClaimMapViews
import Derived.JoinedTies
import Derived.KernelRfl
namespace Go.Proofs.YtjckmnbpfmcadabDoor
/- THE CELL 'sum', in the pinned program and in every row, IS THE sha256 OF THE DUMP (.gsa) THAT YtjckmnbpfmcadabDoorProg.lean LOADS. Nothing in Lean hashes anything: it is a label: what it is worth is what the hold of that sum in a sandbox is worth. -/
noncomputable def Tryd.pinned : Pinned := { name := "ytjckmnbpfmcadabdoor", sum := "079a01f5d75953986673bb6252433d8db4841ad81ec663dac06bf6a7dcc13eb8", checked := Tryd.checked }
namespace Rows
def none {H : Type} : Left H := { results := [], args := [] }

/- WHAT THE LISTED PACKAGE-LEVEL VARIABLES READ AS WHEN THE CALL BEGINS. Each datum BY PROGRAM (the guide's laid-datum.mjs) off the statement by which the dump's own 'gosem.cut.vars' lays the variable. In a bare row this is a premise. The card (YtjckmnbpfmcadabDoorCards.lean) ties it to the program's text. -/
def laid_unicode_utf8_acceptRanges {H : Type} : DataW H := .agg [.agg [.lit (.int .u8 128), .lit (.int .u8 191)], .agg [.lit (.int .u8 160), .lit (.int .u8 191)], .agg [.lit (.int .u8 128), .lit (.int .u8 159)], .agg [.lit (.int .u8 144), .lit (.int .u8 191)], .agg [.lit (.int .u8 128), .lit (.int .u8 143)], .agg [.lit (.int .u8 0), .lit (.int .u8 0)], .agg [.lit (.int .u8 0), .lit (.int .u8 0)], .agg [.lit (.int .u8 0), .lit (.int .u8 0)], .agg [.lit (.int .u8 0), .lit (.int .u8 0)], .agg [.lit (.int .u8 0), .lit (.int .u8 0)], .agg [.lit (.int .u8 0), .lit (.int .u8 0)], .agg [.lit (.int .u8 0), .lit (.int .u8 0)], .agg [.lit (.int .u8 0), .lit (.int .u8 0)], .agg [.lit (.int .u8 0), .lit (.int .u8 0)], .agg [.lit (.int .u8 0), .lit (.int .u8 0)], .agg [.lit (.int .u8 0), .lit (.int .u8 0)]]
/-- One of Go's own tables, pinned by name: the form's constant. -/
def laid_unicode_utf8_first : DataW Unit := Go.Pinned.utf8First

/-- 'laws.FnExactAreRacers': WHATEVER THE INPUT: true; the input reads as it did. -/
def fnExactAreRacersSpec : ChangeSpec := { name := "fnExactAreRacers", fn := fun _ => fun
  | [d1, d2] => { results := [.lit (.bool true)], args := [d1, d2] }
  | _ => none }
def fnExactAreRacersRow : OpenClaim := { program := "ytjckmnbpfmcadabdoor", sum := "079a01f5d75953986673bb6252433d8db4841ad81ec663dac06bf6a7dcc13eb8", func := "loop.example/g01337/laws.FnExactAreRacers", spec := "fnExactAreRacers", inPlace := ["internal/bytealg.IndexByteString", "internal/bytealg.IndexString"], named := ["unicode/utf8.first", "unicode/utf8.acceptRanges", "internal/bytealg.MaxLen"], apart := false, laid := [("unicode/utf8.acceptRanges", laid_unicode_utf8_acceptRanges), ("unicode/utf8.first", laid_unicode_utf8_first)] }
def FnExactAreRacersSaid : Prop := fnExactAreRacersRow.holds Tryd.pinned (OpenSpec.ofChange fnExactAreRacersSpec)

/-- ITS FALSE NEIGHBOUR: 'it returns false'. Refute it at one input. -/
def fnExactAreRacersWrong : ChangeSpec := { name := "fnExactAreRacers", fn := fun _ => fun
  | [d1, d2] => { results := [.lit (.bool false)], args := [d1, d2] }
  | _ => none }
def FnExactAreRacersWrongFalsely : Prop := fnExactAreRacersRow.holds Tryd.pinned (OpenSpec.ofChange fnExactAreRacersWrong)

/-- 'laws.FnExactLeadingNumber': WHATEVER THE INPUT: true; the input reads as it did. -/
def fnExactLeadingNumberSpec : ChangeSpec := { name := "fnExactLeadingNumber", fn := fun _ => fun
  | [d1, d2, d3] => { results := [.lit (.bool true)], args := [d1, d2, d3] }
  | _ => none }
def fnExactLeadingNumberRow : OpenClaim := { program := "ytjckmnbpfmcadabdoor", sum := "079a01f5d75953986673bb6252433d8db4841ad81ec663dac06bf6a7dcc13eb8", func := "loop.example/g01337/laws.FnExactLeadingNumber", spec := "fnExactLeadingNumber", inPlace := ["internal/bytealg.IndexByteString", "internal/bytealg.IndexString", "internal/bytealg.CountString"], named := ["unicode/utf8.first", "unicode/utf8.acceptRanges", "internal/bytealg.MaxLen"], apart := false, laid := [("unicode/utf8.acceptRanges", laid_unicode_utf8_acceptRanges), ("unicode/utf8.first", laid_unicode_utf8_first)] }
def FnExactLeadingNumberSaid : Prop := fnExactLeadingNumberRow.holds Tryd.pinned (OpenSpec.ofChange fnExactLeadingNumberSpec)

/-- ITS FALSE NEIGHBOUR: 'it returns false'. Refute it at one input. -/
def fnExactLeadingNumberWrong : ChangeSpec := { name := "fnExactLeadingNumber", fn := fun _ => fun
  | [d1, d2, d3] => { results := [.lit (.bool false)], args := [d1, d2, d3] }
  | _ => none }
def FnExactLeadingNumberWrongFalsely : Prop := fnExactLeadingNumberRow.holds Tryd.pinned (OpenSpec.ofChange fnExactLeadingNumberWrong)

/-- 'laws.FnExactChanceFirst': WHATEVER THE INPUT: true; the input reads as it did. -/
def fnExactChanceFirstSpec : ChangeSpec := { name := "fnExactChanceFirst", fn := fun _ => fun
  | [d1, d2, d3] => { results := [.lit (.bool true)], args := [d1, d2, d3] }
  | _ => none }
def fnExactChanceFirstRow : OpenClaim := { program := "ytjckmnbpfmcadabdoor", sum := "079a01f5d75953986673bb6252433d8db4841ad81ec663dac06bf6a7dcc13eb8", func := "loop.example/g01337/laws.FnExactChanceFirst", spec := "fnExactChanceFirst", inPlace := ["internal/bytealg.IndexByteString", "internal/bytealg.IndexString", "internal/bytealg.CountString"], named := ["unicode/utf8.first", "unicode/utf8.acceptRanges", "internal/bytealg.MaxLen"], apart := false, laid := [("unicode/utf8.acceptRanges", laid_unicode_utf8_acceptRanges), ("unicode/utf8.first", laid_unicode_utf8_first)] }
def FnExactChanceFirstSaid : Prop := fnExactChanceFirstRow.holds Tryd.pinned (OpenSpec.ofChange fnExactChanceFirstSpec)

/-- ITS FALSE NEIGHBOUR: 'it returns false'. Refute it at one input. -/
def fnExactChanceFirstWrong : ChangeSpec := { name := "fnExactChanceFirst", fn := fun _ => fun
  | [d1, d2, d3] => { results := [.lit (.bool false)], args := [d1, d2, d3] }
  | _ => none }
def FnExactChanceFirstWrongFalsely : Prop := fnExactChanceFirstRow.holds Tryd.pinned (OpenSpec.ofChange fnExactChanceFirstWrong)

/-- 'laws.FnExactMeanRace': WHATEVER THE INPUT: true; the input reads as it did. -/
def fnExactMeanRaceSpec : ChangeSpec := { name := "fnExactMeanRace", fn := fun _ => fun
  | [d1, d2, d3] => { results := [.lit (.bool true)], args := [d1, d2, d3] }
  | _ => none }
def fnExactMeanRaceRow : OpenClaim := { program := "ytjckmnbpfmcadabdoor", sum := "079a01f5d75953986673bb6252433d8db4841ad81ec663dac06bf6a7dcc13eb8", func := "loop.example/g01337/laws.FnExactMeanRace", spec := "fnExactMeanRace", inPlace := ["internal/bytealg.IndexByteString", "internal/bytealg.IndexString", "internal/bytealg.CountString"], named := ["unicode/utf8.first", "unicode/utf8.acceptRanges", "internal/bytealg.MaxLen"], apart := false, laid := [("unicode/utf8.acceptRanges", laid_unicode_utf8_acceptRanges), ("unicode/utf8.first", laid_unicode_utf8_first)] }
def FnExactMeanRaceSaid : Prop := fnExactMeanRaceRow.holds Tryd.pinned (OpenSpec.ofChange fnExactMeanRaceSpec)

/-- ITS FALSE NEIGHBOUR: 'it returns false'. Refute it at one input. -/
def fnExactMeanRaceWrong : ChangeSpec := { name := "fnExactMeanRace", fn := fun _ => fun
  | [d1, d2, d3] => { results := [.lit (.bool false)], args := [d1, d2, d3] }
  | _ => none }
def FnExactMeanRaceWrongFalsely : Prop := fnExactMeanRaceRow.holds Tryd.pinned (OpenSpec.ofChange fnExactMeanRaceWrong)

/-- 'laws.FnExactWinnerOfRace': WHATEVER THE INPUT: true; the input reads as it did. -/
def fnExactWinnerOfRaceSpec : ChangeSpec := { name := "fnExactWinnerOfRace", fn := fun _ => fun
  | [d1, d2, d3] => { results := [.lit (.bool true)], args := [d1, d2, d3] }
  | _ => none }
def fnExactWinnerOfRaceRow : OpenClaim := { program := "ytjckmnbpfmcadabdoor", sum := "079a01f5d75953986673bb6252433d8db4841ad81ec663dac06bf6a7dcc13eb8", func := "loop.example/g01337/laws.FnExactWinnerOfRace", spec := "fnExactWinnerOfRace", inPlace := ["internal/bytealg.IndexByteString", "internal/bytealg.IndexString"], named := ["unicode/utf8.first", "unicode/utf8.acceptRanges", "internal/bytealg.MaxLen"], apart := false, laid := [("unicode/utf8.acceptRanges", laid_unicode_utf8_acceptRanges), ("unicode/utf8.first", laid_unicode_utf8_first)] }
def FnExactWinnerOfRaceSaid : Prop := fnExactWinnerOfRaceRow.holds Tryd.pinned (OpenSpec.ofChange fnExactWinnerOfRaceSpec)

/-- ITS FALSE NEIGHBOUR: 'it returns false'. Refute it at one input. -/
def fnExactWinnerOfRaceWrong : ChangeSpec := { name := "fnExactWinnerOfRace", fn := fun _ => fun
  | [d1, d2, d3] => { results := [.lit (.bool false)], args := [d1, d2, d3] }
  | _ => none }
def FnExactWinnerOfRaceWrongFalsely : Prop := fnExactWinnerOfRaceRow.holds Tryd.pinned (OpenSpec.ofChange fnExactWinnerOfRaceWrong)

/-- 'laws.FnExactDoesBeat': WHATEVER THE INPUT: true; the input reads as it did. -/
def fnExactDoesBeatSpec : ChangeSpec := { name := "fnExactDoesBeat", fn := fun _ => fun
  | [d1, d2, d3] => { results := [.lit (.bool true)], args := [d1, d2, d3] }
  | _ => none }
def fnExactDoesBeatRow : OpenClaim := { program := "ytjckmnbpfmcadabdoor", sum := "079a01f5d75953986673bb6252433d8db4841ad81ec663dac06bf6a7dcc13eb8", func := "loop.example/g01337/laws.FnExactDoesBeat", spec := "fnExactDoesBeat", inPlace := ["internal/bytealg.IndexByteString", "internal/bytealg.IndexString", "internal/bytealg.CountString"], named := ["unicode/utf8.first", "unicode/utf8.acceptRanges", "internal/bytealg.MaxLen"], apart := false, laid := [("unicode/utf8.acceptRanges", laid_unicode_utf8_acceptRanges), ("unicode/utf8.first", laid_unicode_utf8_first)] }
def FnExactDoesBeatSaid : Prop := fnExactDoesBeatRow.holds Tryd.pinned (OpenSpec.ofChange fnExactDoesBeatSpec)

/-- ITS FALSE NEIGHBOUR: 'it returns false'. Refute it at one input. -/
def fnExactDoesBeatWrong : ChangeSpec := { name := "fnExactDoesBeat", fn := fun _ => fun
  | [d1, d2, d3] => { results := [.lit (.bool false)], args := [d1, d2, d3] }
  | _ => none }
def FnExactDoesBeatWrongFalsely : Prop := fnExactDoesBeatRow.holds Tryd.pinned (OpenSpec.ofChange fnExactDoesBeatWrong)

/-- 'laws.FnExactBestAnswer': WHATEVER THE INPUT: true; the input reads as it did. -/
def fnExactBestAnswerSpec : ChangeSpec := { name := "fnExactBestAnswer", fn := fun _ => fun
  | [d1, d2] => { results := [.lit (.bool true)], args := [d1, d2] }
  | _ => none }
def fnExactBestAnswerRow : OpenClaim := { program := "ytjckmnbpfmcadabdoor", sum := "079a01f5d75953986673bb6252433d8db4841ad81ec663dac06bf6a7dcc13eb8", func := "loop.example/g01337/laws.FnExactBestAnswer", spec := "fnExactBestAnswer", inPlace := ["internal/bytealg.IndexByteString", "internal/bytealg.IndexString", "internal/bytealg.CountString"], unfollowed := true, recurses := true, named := ["unicode/utf8.first", "unicode/utf8.acceptRanges", "internal/bytealg.MaxLen"], apart := false, laid := [("unicode/utf8.acceptRanges", laid_unicode_utf8_acceptRanges), ("unicode/utf8.first", laid_unicode_utf8_first)] }
def FnExactBestAnswerSaid : Prop := fnExactBestAnswerRow.holds Tryd.pinned (OpenSpec.ofChange fnExactBestAnswerSpec)

/-- ITS FALSE NEIGHBOUR: 'it returns false'. Refute it at one input. -/
def fnExactBestAnswerWrong : ChangeSpec := { name := "fnExactBestAnswer", fn := fun _ => fun
  | [d1, d2] => { results := [.lit (.bool false)], args := [d1, d2] }
  | _ => none }
def FnExactBestAnswerWrongFalsely : Prop := fnExactBestAnswerRow.holds Tryd.pinned (OpenSpec.ofChange fnExactBestAnswerWrong)

/-- 'laws.FnExactBeatenBy': WHATEVER THE INPUT: true; the input reads as it did. -/
def fnExactBeatenBySpec : ChangeSpec := { name := "fnExactBeatenBy", fn := fun _ => fun
  | [d1, d2] => { results := [.lit (.bool true)], args := [d1, d2] }
  | _ => none }
def fnExactBeatenByRow : OpenClaim := { program := "ytjckmnbpfmcadabdoor", sum := "079a01f5d75953986673bb6252433d8db4841ad81ec663dac06bf6a7dcc13eb8", func := "loop.example/g01337/laws.FnExactBeatenBy", spec := "fnExactBeatenBy", inPlace := ["internal/bytealg.IndexByteString", "internal/bytealg.IndexString", "internal/bytealg.CountString"], unfollowed := true, recurses := true, named := ["unicode/utf8.first", "unicode/utf8.acceptRanges", "internal/bytealg.MaxLen"], apart := false, laid := [("unicode/utf8.acceptRanges", laid_unicode_utf8_acceptRanges), ("unicode/utf8.first", laid_unicode_utf8_first)] }
def FnExactBeatenBySaid : Prop := fnExactBeatenByRow.holds Tryd.pinned (OpenSpec.ofChange fnExactBeatenBySpec)

/-- ITS FALSE NEIGHBOUR: 'it returns false'. Refute it at one input. -/
def fnExactBeatenByWrong : ChangeSpec := { name := "fnExactBeatenBy", fn := fun _ => fun
  | [d1, d2] => { results := [.lit (.bool false)], args := [d1, d2] }
  | _ => none }
def FnExactBeatenByWrongFalsely : Prop := fnExactBeatenByRow.holds Tryd.pinned (OpenSpec.ofChange fnExactBeatenByWrong)

/-- 'laws.FnExactEvenRaces': WHATEVER THE INPUT: true; the input reads as it did. -/
def fnExactEvenRacesSpec : ChangeSpec := { name := "fnExactEvenRaces", fn := fun _ => fun
  | [d1, d2] => { results := [.lit (.bool true)], args := [d1, d2] }
  | _ => none }
def fnExactEvenRacesRow : OpenClaim := { program := "ytjckmnbpfmcadabdoor", sum := "079a01f5d75953986673bb6252433d8db4841ad81ec663dac06bf6a7dcc13eb8", func := "loop.example/g01337/laws.FnExactEvenRaces", spec := "fnExactEvenRaces", inPlace := ["internal/bytealg.IndexByteString", "internal/bytealg.IndexString", "internal/bytealg.CountString"], unfollowed := true, recurses := true, named := ["unicode/utf8.first", "unicode/utf8.acceptRanges", "internal/bytealg.MaxLen"], apart := false, laid := [("unicode/utf8.acceptRanges", laid_unicode_utf8_acceptRanges), ("unicode/utf8.first", laid_unicode_utf8_first)] }
def FnExactEvenRacesSaid : Prop := fnExactEvenRacesRow.holds Tryd.pinned (OpenSpec.ofChange fnExactEvenRacesSpec)

/-- ITS FALSE NEIGHBOUR: 'it returns false'. Refute it at one input. -/
def fnExactEvenRacesWrong : ChangeSpec := { name := "fnExactEvenRaces", fn := fun _ => fun
  | [d1, d2] => { results := [.lit (.bool false)], args := [d1, d2] }
  | _ => none }
def FnExactEvenRacesWrongFalsely : Prop := fnExactEvenRacesRow.holds Tryd.pinned (OpenSpec.ofChange fnExactEvenRacesWrong)

/- THE SECOND FORM. 'bulk': how many values and letters a reading holds, each counted each time it is reached (what is shared counts as often as it is met; a slice's spare places count too). A statement '..UptoSaid' is the law's where the arguments, and the package variables that the reading takes, are together of bulk at most 1048576: NARROWER than '..Said'. Prove '..Said' where nothing that the law and all that it calls make is longer than what came in: it says more and counts as full. Else prove '..UptoSaid'. A law counts once. -/
mutual
def uptoBulk {H : Type} : DataW H → Nat
  | .lit (.string bytes) => bytes.length + 1
  | .lit _ => 1
  | .nil => 1
  | .ptr d => uptoBulk d + 1
  | .slice elems spare => uptoBulkAll elems + uptoBulkAll spare + 1
  | .agg parts => uptoBulkAll parts + 1
  | .iface _ d => uptoBulk d + 1
  | .map entries => uptoBulkEntries entries + 1
  | .held _ => 1
def uptoBulkAll {H : Type} : List (DataW H) → Nat
  | [] => 0
  | d :: r => uptoBulk d + uptoBulkAll r
def uptoBulkEntries {H : Type} : List (Lit × DataW H) → Nat
  | [] => 0
  | x :: r => uptoBulkEntry x + uptoBulkEntries r
def uptoBulkEntry {H : Type} : Lit × DataW H → Nat
  | (.string bytes, d) => bytes.length + uptoBulk d + 1
  | (_, d) => uptoBulk d + 1
 end
def uptoSmall : (H : Type) → List (DataW H) → Bool := fun _ ds => decide (uptoBulkAll ds ≤ 1048576)
def OpenSpec.upto (s : _root_.Go.ChangeSpec) : _root_.Go.OpenSpec := { _root_.Go.OpenSpec.ofChange s with cond := some uptoSmall }

/-- 'laws.FnExactAreRacers', WHERE WHAT IT READS IS OF BULK AT MOST 1048576: true; the input reads as it did. -/
def fnExactAreRacersUptoRow : OpenClaim := { program := "ytjckmnbpfmcadabdoor", sum := "079a01f5d75953986673bb6252433d8db4841ad81ec663dac06bf6a7dcc13eb8", func := "loop.example/g01337/laws.FnExactAreRacers", spec := "fnExactAreRacers", inPlace := ["internal/bytealg.IndexByteString", "internal/bytealg.IndexString"], named := ["unicode/utf8.first", "unicode/utf8.acceptRanges", "internal/bytealg.MaxLen"], apart := false, laid := [("unicode/utf8.acceptRanges", laid_unicode_utf8_acceptRanges), ("unicode/utf8.first", laid_unicode_utf8_first)], narrowed := true }
def FnExactAreRacersUptoSaid : Prop := fnExactAreRacersUptoRow.holds Tryd.pinned (OpenSpec.upto fnExactAreRacersSpec)

/-- 'laws.FnExactLeadingNumber', WHERE WHAT IT READS IS OF BULK AT MOST 1048576: true; the input reads as it did. -/
def fnExactLeadingNumberUptoRow : OpenClaim := { program := "ytjckmnbpfmcadabdoor", sum := "079a01f5d75953986673bb6252433d8db4841ad81ec663dac06bf6a7dcc13eb8", func := "loop.example/g01337/laws.FnExactLeadingNumber", spec := "fnExactLeadingNumber", inPlace := ["internal/bytealg.IndexByteString", "internal/bytealg.IndexString", "internal/bytealg.CountString"], named := ["unicode/utf8.first", "unicode/utf8.acceptRanges", "internal/bytealg.MaxLen"], apart := false, laid := [("unicode/utf8.acceptRanges", laid_unicode_utf8_acceptRanges), ("unicode/utf8.first", laid_unicode_utf8_first)], narrowed := true }
def FnExactLeadingNumberUptoSaid : Prop := fnExactLeadingNumberUptoRow.holds Tryd.pinned (OpenSpec.upto fnExactLeadingNumberSpec)

/-- 'laws.FnExactChanceFirst', WHERE WHAT IT READS IS OF BULK AT MOST 1048576: true; the input reads as it did. -/
def fnExactChanceFirstUptoRow : OpenClaim := { program := "ytjckmnbpfmcadabdoor", sum := "079a01f5d75953986673bb6252433d8db4841ad81ec663dac06bf6a7dcc13eb8", func := "loop.example/g01337/laws.FnExactChanceFirst", spec := "fnExactChanceFirst", inPlace := ["internal/bytealg.IndexByteString", "internal/bytealg.IndexString", "internal/bytealg.CountString"], named := ["unicode/utf8.first", "unicode/utf8.acceptRanges", "internal/bytealg.MaxLen"], apart := false, laid := [("unicode/utf8.acceptRanges", laid_unicode_utf8_acceptRanges), ("unicode/utf8.first", laid_unicode_utf8_first)], narrowed := true }
def FnExactChanceFirstUptoSaid : Prop := fnExactChanceFirstUptoRow.holds Tryd.pinned (OpenSpec.upto fnExactChanceFirstSpec)

/-- 'laws.FnExactMeanRace', WHERE WHAT IT READS IS OF BULK AT MOST 1048576: true; the input reads as it did. -/
def fnExactMeanRaceUptoRow : OpenClaim := { program := "ytjckmnbpfmcadabdoor", sum := "079a01f5d75953986673bb6252433d8db4841ad81ec663dac06bf6a7dcc13eb8", func := "loop.example/g01337/laws.FnExactMeanRace", spec := "fnExactMeanRace", inPlace := ["internal/bytealg.IndexByteString", "internal/bytealg.IndexString", "internal/bytealg.CountString"], named := ["unicode/utf8.first", "unicode/utf8.acceptRanges", "internal/bytealg.MaxLen"], apart := false, laid := [("unicode/utf8.acceptRanges", laid_unicode_utf8_acceptRanges), ("unicode/utf8.first", laid_unicode_utf8_first)], narrowed := true }
def FnExactMeanRaceUptoSaid : Prop := fnExactMeanRaceUptoRow.holds Tryd.pinned (OpenSpec.upto fnExactMeanRaceSpec)

/-- 'laws.FnExactWinnerOfRace', WHERE WHAT IT READS IS OF BULK AT MOST 1048576: true; the input reads as it did. -/
def fnExactWinnerOfRaceUptoRow : OpenClaim := { program := "ytjckmnbpfmcadabdoor", sum := "079a01f5d75953986673bb6252433d8db4841ad81ec663dac06bf6a7dcc13eb8", func := "loop.example/g01337/laws.FnExactWinnerOfRace", spec := "fnExactWinnerOfRace", inPlace := ["internal/bytealg.IndexByteString", "internal/bytealg.IndexString"], named := ["unicode/utf8.first", "unicode/utf8.acceptRanges", "internal/bytealg.MaxLen"], apart := false, laid := [("unicode/utf8.acceptRanges", laid_unicode_utf8_acceptRanges), ("unicode/utf8.first", laid_unicode_utf8_first)], narrowed := true }
def FnExactWinnerOfRaceUptoSaid : Prop := fnExactWinnerOfRaceUptoRow.holds Tryd.pinned (OpenSpec.upto fnExactWinnerOfRaceSpec)

/-- 'laws.FnExactDoesBeat', WHERE WHAT IT READS IS OF BULK AT MOST 1048576: true; the input reads as it did. -/
def fnExactDoesBeatUptoRow : OpenClaim := { program := "ytjckmnbpfmcadabdoor", sum := "079a01f5d75953986673bb6252433d8db4841ad81ec663dac06bf6a7dcc13eb8", func := "loop.example/g01337/laws.FnExactDoesBeat", spec := "fnExactDoesBeat", inPlace := ["internal/bytealg.IndexByteString", "internal/bytealg.IndexString", "internal/bytealg.CountString"], named := ["unicode/utf8.first", "unicode/utf8.acceptRanges", "internal/bytealg.MaxLen"], apart := false, laid := [("unicode/utf8.acceptRanges", laid_unicode_utf8_acceptRanges), ("unicode/utf8.first", laid_unicode_utf8_first)], narrowed := true }
def FnExactDoesBeatUptoSaid : Prop := fnExactDoesBeatUptoRow.holds Tryd.pinned (OpenSpec.upto fnExactDoesBeatSpec)

/-- 'laws.FnExactBestAnswer', WHERE WHAT IT READS IS OF BULK AT MOST 1048576: true; the input reads as it did. -/
def fnExactBestAnswerUptoRow : OpenClaim := { program := "ytjckmnbpfmcadabdoor", sum := "079a01f5d75953986673bb6252433d8db4841ad81ec663dac06bf6a7dcc13eb8", func := "loop.example/g01337/laws.FnExactBestAnswer", spec := "fnExactBestAnswer", inPlace := ["internal/bytealg.IndexByteString", "internal/bytealg.IndexString", "internal/bytealg.CountString"], unfollowed := true, recurses := true, named := ["unicode/utf8.first", "unicode/utf8.acceptRanges", "internal/bytealg.MaxLen"], apart := false, laid := [("unicode/utf8.acceptRanges", laid_unicode_utf8_acceptRanges), ("unicode/utf8.first", laid_unicode_utf8_first)], narrowed := true }
def FnExactBestAnswerUptoSaid : Prop := fnExactBestAnswerUptoRow.holds Tryd.pinned (OpenSpec.upto fnExactBestAnswerSpec)

/-- 'laws.FnExactBeatenBy', WHERE WHAT IT READS IS OF BULK AT MOST 1048576: true; the input reads as it did. -/
def fnExactBeatenByUptoRow : OpenClaim := { program := "ytjckmnbpfmcadabdoor", sum := "079a01f5d75953986673bb6252433d8db4841ad81ec663dac06bf6a7dcc13eb8", func := "loop.example/g01337/laws.FnExactBeatenBy", spec := "fnExactBeatenBy", inPlace := ["internal/bytealg.IndexByteString", "internal/bytealg.IndexString", "internal/bytealg.CountString"], unfollowed := true, recurses := true, named := ["unicode/utf8.first", "unicode/utf8.acceptRanges", "internal/bytealg.MaxLen"], apart := false, laid := [("unicode/utf8.acceptRanges", laid_unicode_utf8_acceptRanges), ("unicode/utf8.first", laid_unicode_utf8_first)], narrowed := true }
def FnExactBeatenByUptoSaid : Prop := fnExactBeatenByUptoRow.holds Tryd.pinned (OpenSpec.upto fnExactBeatenBySpec)

/-- 'laws.FnExactEvenRaces', WHERE WHAT IT READS IS OF BULK AT MOST 1048576: true; the input reads as it did. -/
def fnExactEvenRacesUptoRow : OpenClaim := { program := "ytjckmnbpfmcadabdoor", sum := "079a01f5d75953986673bb6252433d8db4841ad81ec663dac06bf6a7dcc13eb8", func := "loop.example/g01337/laws.FnExactEvenRaces", spec := "fnExactEvenRaces", inPlace := ["internal/bytealg.IndexByteString", "internal/bytealg.IndexString", "internal/bytealg.CountString"], unfollowed := true, recurses := true, named := ["unicode/utf8.first", "unicode/utf8.acceptRanges", "internal/bytealg.MaxLen"], apart := false, laid := [("unicode/utf8.acceptRanges", laid_unicode_utf8_acceptRanges), ("unicode/utf8.first", laid_unicode_utf8_first)], narrowed := true }
def FnExactEvenRacesUptoSaid : Prop := fnExactEvenRacesUptoRow.holds Tryd.pinned (OpenSpec.upto fnExactEvenRacesSpec)

end Rows
end Go.Proofs.YtjckmnbpfmcadabDoor
