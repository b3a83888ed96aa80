/-
  DERIVED. GIVEN WITH THE SEED: THE CARDS: each row of YtcfafgdgmkiibaaDoorRows.lean that lists a variable, with what it lists TIED to the program's text (the seventh form; the later family's looks); each row that meets fmt, with fmt's text TOLD by the authors' own Lean function (tested against real Go, not proved from fmt's source: count such statements apart). THE CARD IS WHAT COUNTS. Prove the row's statement (the work); the ties are given (YtcfafgdgmkiibaaDoorTie.lean); close each card by the builder's one call (the guide's Derived/Test/ToyasCard.lean, 'card_holds'). Laid BY PROGRAM, IN A SANDBOX (cutbox-door.mjs). By AI agents, Wed Nov 11 2026. No macro, syntax, notation, axiom, sorry.
-/
import Derived.Test.YtcfafgdgmkiibaaDoorRows
import GoSem.ClaimSeven
namespace Go.Proofs.YtcfafgdgmkiibaaDoor
namespace Rows

/-- THE TIED CARD OF 'laws.FnFairTossed'. -/
def fnFairTossedCard : Claim7 := { stood := { row := fnFairTossedRow, standIns := [], harness := (true, "17e6787e09493a9a1fd169e28e4d6d54c4d40c3a326a936d6ad9177b12e9fc2a"), looks := true }, kinds := [], alts := [], laidByText := true, laidKinds := [.data, .pinned], laidTests := true, laidLooks := .later }
def FnFairTossedCardSaid : Prop := Claim7.holds Tryd.pinned (.plain (OpenSpec.ofChange fnFairTossedSpec)) fnFairTossedCard

/-- THE TIED CARD OF 'laws.FnExactPuzzleText'. -/
def fnExactPuzzleTextCard : Claim7 := { stood := { row := fnExactPuzzleTextRow, standIns := [], harness := (true, "17e6787e09493a9a1fd169e28e4d6d54c4d40c3a326a936d6ad9177b12e9fc2a"), looks := true }, kinds := [], alts := [], laidByText := true, laidKinds := [.data, .data, .data], laidTests := true, laidLooks := .later }
def FnExactPuzzleTextCardSaid : Prop := Claim7.holds Tryd.pinned (.plain (OpenSpec.ofChange fnExactPuzzleTextSpec)) fnExactPuzzleTextCard

/-- THE SECOND FORM's CARD OF 'laws.FnFairTossed'. -/
def fnFairTossedUptoCard : Claim7 := { stood := { row := fnFairTossedUptoRow, standIns := [], harness := (true, "17e6787e09493a9a1fd169e28e4d6d54c4d40c3a326a936d6ad9177b12e9fc2a"), looks := true }, kinds := [], alts := [], laidByText := true, laidKinds := [.data, .pinned], laidTests := true, laidLooks := .later }
def FnFairTossedUptoCardSaid : Prop := Claim7.holds Tryd.pinned (.plain (OpenSpec.upto fnFairTossedSpec)) fnFairTossedUptoCard

/-- THE SECOND FORM's CARD OF 'laws.FnExactPuzzleText'. -/
def fnExactPuzzleTextUptoCard : Claim7 := { stood := { row := fnExactPuzzleTextUptoRow, standIns := [], harness := (true, "17e6787e09493a9a1fd169e28e4d6d54c4d40c3a326a936d6ad9177b12e9fc2a"), looks := true }, kinds := [], alts := [], laidByText := true, laidKinds := [.data, .data, .data], laidTests := true, laidLooks := .later }
def FnExactPuzzleTextUptoCardSaid : Prop := Claim7.holds Tryd.pinned (.plain (OpenSpec.upto fnExactPuzzleTextSpec)) fnExactPuzzleTextUptoCard
end Rows
end Go.Proofs.YtcfafgdgmkiibaaDoor
