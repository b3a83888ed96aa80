/-
  DERIVED. GIVEN WITH THE SEED: THE CARDS: each row of YtdfjfojkheikiaaGreatDoorRows.lean that lists a variable, with what it lists TIED to the program's text (the seventh form; the later family's looks); each row that meets fmt, with fmt's text TOLD by the authors' own Lean function (tested against real Go, not proved from fmt's source: count such statements apart). THE CARD IS WHAT COUNTS. Prove the row's statement (the work); the ties are given (YtdfjfojkheikiaaGreatDoorTie.lean); close each card by the builder's one call (the guide's Derived/Test/ToyasCard.lean, 'card_holds'). Laid BY PROGRAM, IN A SANDBOX (cutbox-door.mjs). By AI agents, Wed Nov 11 2026. No macro, syntax, notation, axiom, sorry.
-/
import Derived.Test.YtdfjfojkheikiaaGreatDoorRows
import GoSem.ClaimSeven
namespace Go.Proofs.YtdfjfojkheikiaaGreatDoor
namespace Rows

/-- THE TIED CARD OF 'laws.FnExactTurnRace'. -/
def fnExactTurnRaceCard : Claim7 := { stood := { row := fnExactTurnRaceRow, standIns := [], harness := (true, "e7c7f77997dc3e6393b5aeb3cde3e873f9ceae610d42a7b36450e07400a55867"), looks := true }, kinds := [], alts := [], laidByText := true, laidKinds := [.data, .pinned], laidTests := true, laidLooks := .later }
def FnExactTurnRaceCardSaid : Prop := Claim7.holds Tryz.pinned (.plain (OpenSpec.ofChange fnExactTurnRaceSpec)) fnExactTurnRaceCard

/-- THE SECOND FORM's CARD OF 'laws.FnExactTurnRace'. -/
def fnExactTurnRaceUptoCard : Claim7 := { stood := { row := fnExactTurnRaceUptoRow, standIns := [], harness := (true, "e7c7f77997dc3e6393b5aeb3cde3e873f9ceae610d42a7b36450e07400a55867"), looks := true }, kinds := [], alts := [], laidByText := true, laidKinds := [.data, .pinned], laidTests := true, laidLooks := .later }
def FnExactTurnRaceUptoCardSaid : Prop := Claim7.holds Tryz.pinned (.plain (OpenSpec.upto fnExactTurnRaceSpec)) fnExactTurnRaceUptoCard
end Rows
end Go.Proofs.YtdfjfojkheikiaaGreatDoor
