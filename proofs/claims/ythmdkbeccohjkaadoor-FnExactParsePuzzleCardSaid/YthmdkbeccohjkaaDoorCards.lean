/-
  DERIVED. GIVEN WITH THE SEED: THE CARDS: each row of YthmdkbeccohjkaaDoorRows.lean that lists a variable, with what it lists TIED to the program's text (the seventh form; the later family's looks); each row that meets fmt, with fmt's text TOLD by the authors' own Lean function (tested against real Go, not proved from fmt's source: count such statements apart). THE CARD IS WHAT COUNTS. Prove the row's statement (the work); the ties are given (YthmdkbeccohjkaaDoorTie.lean); close each card by the builder's one call (the guide's Derived/Test/ToyasCard.lean, 'card_holds'). Laid BY PROGRAM, IN A SANDBOX (cutbox-door.mjs). By AI agents, Wed Nov 11 2026. No macro, syntax, notation, axiom, sorry.
-/
import Derived.Test.YthmdkbeccohjkaaDoorRows
import GoSem.ClaimSeven
namespace Go.Proofs.YthmdkbeccohjkaaDoor
namespace Rows

/-- THE TIED CARD OF 'laws.FnFairTossed'. -/
def fnFairTossedCard : Claim7 := { stood := { row := fnFairTossedRow, standIns := [], harness := (true, "bbf874217f75f7137d0a91861c92ad211b469ba1780e4c8dfdda26ec117742be"), looks := true }, kinds := [], alts := [], laidByText := true, laidKinds := [.data, .pinned], laidTests := true, laidLooks := .later }
def FnFairTossedCardSaid : Prop := Claim7.holds Tryd.pinned (.plain (OpenSpec.ofChange fnFairTossedSpec)) fnFairTossedCard

/-- THE TIED CARD OF 'laws.FnExactParsePuzzle'. -/
def fnExactParsePuzzleCard : Claim7 := { stood := { row := fnExactParsePuzzleRow, standIns := [], harness := (true, "bbf874217f75f7137d0a91861c92ad211b469ba1780e4c8dfdda26ec117742be"), looks := true }, kinds := [], alts := [], laidByText := true, laidKinds := [.data, .data, .data, .data, .sentinel, .sentinel, .pinned], laidTests := true, laidLooks := .later }
def FnExactParsePuzzleCardSaid : Prop := Claim7.holds Tryd.pinned (.plain (OpenSpec.ofChange fnExactParsePuzzleSpec)) fnExactParsePuzzleCard

/-- THE SECOND FORM's CARD OF 'laws.FnFairTossed'. -/
def fnFairTossedUptoCard : Claim7 := { stood := { row := fnFairTossedUptoRow, standIns := [], harness := (true, "bbf874217f75f7137d0a91861c92ad211b469ba1780e4c8dfdda26ec117742be"), looks := true }, kinds := [], alts := [], laidByText := true, laidKinds := [.data, .pinned], laidTests := true, laidLooks := .later }
def FnFairTossedUptoCardSaid : Prop := Claim7.holds Tryd.pinned (.plain (OpenSpec.upto fnFairTossedSpec)) fnFairTossedUptoCard

/-- THE SECOND FORM's CARD OF 'laws.FnExactParsePuzzle'. -/
def fnExactParsePuzzleUptoCard : Claim7 := { stood := { row := fnExactParsePuzzleUptoRow, standIns := [], harness := (true, "bbf874217f75f7137d0a91861c92ad211b469ba1780e4c8dfdda26ec117742be"), looks := true }, kinds := [], alts := [], laidByText := true, laidKinds := [.data, .data, .data, .data, .sentinel, .sentinel, .pinned], laidTests := true, laidLooks := .later }
def FnExactParsePuzzleUptoCardSaid : Prop := Claim7.holds Tryd.pinned (.plain (OpenSpec.upto fnExactParsePuzzleSpec)) fnExactParsePuzzleUptoCard
end Rows
end Go.Proofs.YthmdkbeccohjkaaDoor
