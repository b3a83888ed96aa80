/-
  DERIVED. GIVEN WITH THE SEED: THE CARDS: each row of YtiblggfihpobkaaDoorRows.lean that lists a variable, with what it lists TIED to the program's text (the seventh form; the later family's looks); each row that meets fmt, with fmt's text TOLD by the authors' own Lean function (tested against real Go, not proved from fmt's source: count such statements apart). THE CARD IS WHAT COUNTS. Prove the row's statement (the work); the ties are given (YtiblggfihpobkaaDoorTie.lean); close each card by the builder's one call (the guide's Derived/Test/ToyasCard.lean, 'card_holds'). Laid BY PROGRAM, IN A SANDBOX (cutbox-door.mjs). By AI agents, Wed Nov 11 2026. No macro, syntax, notation, axiom, sorry.
-/
import Derived.Test.YtiblggfihpobkaaDoorRows
import GoSem.ClaimSeven
namespace Go.Proofs.YtiblggfihpobkaaDoor
namespace Rows

/-- THE TIED CARD OF 'laws.FnExactIsWord'. -/
def fnExactIsWordCard : Claim7 := { stood := { row := fnExactIsWordRow, standIns := [], harness := (true, "948bc366aeadc9631d0ca1b16042b54d116075c94501ace617405d4496f9aeb4"), looks := false }, kinds := [], alts := [], laidByText := true, laidKinds := [.data, .pinned], laidTests := true, laidLooks := .later }
def FnExactIsWordCardSaid : Prop := Claim7.holds Tryd.pinned (.plain (OpenSpec.ofChange fnExactIsWordSpec)) fnExactIsWordCard

/-- THE TIED CARD OF 'laws.FnExactWordOverlaps'. -/
def fnExactWordOverlapsCard : Claim7 := { stood := { row := fnExactWordOverlapsRow, standIns := [], harness := (true, "948bc366aeadc9631d0ca1b16042b54d116075c94501ace617405d4496f9aeb4"), looks := false }, kinds := [], alts := [], laidByText := true, laidKinds := [.data, .pinned], laidTests := true, laidLooks := .later }
def FnExactWordOverlapsCardSaid : Prop := Claim7.holds Tryd.pinned (.plain (OpenSpec.ofChange fnExactWordOverlapsSpec)) fnExactWordOverlapsCard

/-- THE TIED CARD OF 'laws.FnExactMeanTyped'. -/
def fnExactMeanTypedCard : Claim7 := { stood := { row := fnExactMeanTypedRow, standIns := [], harness := (true, "948bc366aeadc9631d0ca1b16042b54d116075c94501ace617405d4496f9aeb4"), looks := false }, kinds := [], alts := [], laidByText := true, laidKinds := [.data, .pinned], laidTests := true, laidLooks := .later }
def FnExactMeanTypedCardSaid : Prop := Claim7.holds Tryd.pinned (.plain (OpenSpec.ofChange fnExactMeanTypedSpec)) fnExactMeanTypedCard

/-- THE TIED CARD OF 'laws.FnExactPlacesOfWord'. -/
def fnExactPlacesOfWordCard : Claim7 := { stood := { row := fnExactPlacesOfWordRow, standIns := [], harness := (true, "948bc366aeadc9631d0ca1b16042b54d116075c94501ace617405d4496f9aeb4"), looks := false }, kinds := [], alts := [], laidByText := true, laidKinds := [.data, .pinned], laidTests := true, laidLooks := .later }
def FnExactPlacesOfWordCardSaid : Prop := Claim7.holds Tryd.pinned (.plain (OpenSpec.ofChange fnExactPlacesOfWordSpec)) fnExactPlacesOfWordCard

/-- THE TIED CARD OF 'laws.FnExactRankOfWord'. -/
def fnExactRankOfWordCard : Claim7 := { stood := { row := fnExactRankOfWordRow, standIns := [], harness := (true, "948bc366aeadc9631d0ca1b16042b54d116075c94501ace617405d4496f9aeb4"), looks := false }, kinds := [], alts := [], laidByText := true, laidKinds := [.data, .pinned], laidTests := true, laidLooks := .later }
def FnExactRankOfWordCardSaid : Prop := Claim7.holds Tryd.pinned (.plain (OpenSpec.ofChange fnExactRankOfWordSpec)) fnExactRankOfWordCard

/-- THE TIED CARD OF 'laws.FnExactTurnWord'. -/
def fnExactTurnWordCard : Claim7 := { stood := { row := fnExactTurnWordRow, standIns := [], harness := (true, "948bc366aeadc9631d0ca1b16042b54d116075c94501ace617405d4496f9aeb4"), looks := false }, kinds := [], alts := [], laidByText := true, laidKinds := [.data, .pinned], laidTests := true, laidLooks := .later }
def FnExactTurnWordCardSaid : Prop := Claim7.holds Tryd.pinned (.plain (OpenSpec.ofChange fnExactTurnWordSpec)) fnExactTurnWordCard

/-- THE TIED CARD OF 'laws.FnExactFirstTurn'. -/
def fnExactFirstTurnCard : Claim7 := { stood := { row := fnExactFirstTurnRow, standIns := [], harness := (true, "948bc366aeadc9631d0ca1b16042b54d116075c94501ace617405d4496f9aeb4"), looks := false }, kinds := [], alts := [], laidByText := true, laidKinds := [.data, .pinned], laidTests := true, laidLooks := .later }
def FnExactFirstTurnCardSaid : Prop := Claim7.holds Tryd.pinned (.plain (OpenSpec.ofChange fnExactFirstTurnSpec)) fnExactFirstTurnCard

/-- THE TIED CARD OF 'laws.FnExactSameNecklace'. -/
def fnExactSameNecklaceCard : Claim7 := { stood := { row := fnExactSameNecklaceRow, standIns := [], harness := (true, "948bc366aeadc9631d0ca1b16042b54d116075c94501ace617405d4496f9aeb4"), looks := false }, kinds := [], alts := [], laidByText := true, laidKinds := [.data, .pinned], laidTests := true, laidLooks := .later }
def FnExactSameNecklaceCardSaid : Prop := Claim7.holds Tryd.pinned (.plain (OpenSpec.ofChange fnExactSameNecklaceSpec)) fnExactSameNecklaceCard

/-- THE TIED CARD OF 'laws.FnExactIsPrimeWord'. -/
def fnExactIsPrimeWordCard : Claim7 := { stood := { row := fnExactIsPrimeWordRow, standIns := [], harness := (true, "948bc366aeadc9631d0ca1b16042b54d116075c94501ace617405d4496f9aeb4"), looks := false }, kinds := [], alts := [], laidByText := true, laidKinds := [.data, .pinned], laidTests := true, laidLooks := .later }
def FnExactIsPrimeWordCardSaid : Prop := Claim7.holds Tryd.pinned (.plain (OpenSpec.ofChange fnExactIsPrimeWordSpec)) fnExactIsPrimeWordCard

/-- THE TIED CARD OF 'laws.FnExactRootOfWord'. -/
def fnExactRootOfWordCard : Claim7 := { stood := { row := fnExactRootOfWordRow, standIns := [], harness := (true, "948bc366aeadc9631d0ca1b16042b54d116075c94501ace617405d4496f9aeb4"), looks := false }, kinds := [], alts := [], laidByText := true, laidKinds := [.data, .pinned], laidTests := true, laidLooks := .later }
def FnExactRootOfWordCardSaid : Prop := Claim7.holds Tryd.pinned (.plain (OpenSpec.ofChange fnExactRootOfWordSpec)) fnExactRootOfWordCard

/-- THE SECOND FORM's CARD OF 'laws.FnExactIsWord'. -/
def fnExactIsWordUptoCard : Claim7 := { stood := { row := fnExactIsWordUptoRow, standIns := [], harness := (true, "948bc366aeadc9631d0ca1b16042b54d116075c94501ace617405d4496f9aeb4"), looks := false }, kinds := [], alts := [], laidByText := true, laidKinds := [.data, .pinned], laidTests := true, laidLooks := .later }
def FnExactIsWordUptoCardSaid : Prop := Claim7.holds Tryd.pinned (.plain (OpenSpec.upto fnExactIsWordSpec)) fnExactIsWordUptoCard

/-- THE SECOND FORM's CARD OF 'laws.FnExactWordOverlaps'. -/
def fnExactWordOverlapsUptoCard : Claim7 := { stood := { row := fnExactWordOverlapsUptoRow, standIns := [], harness := (true, "948bc366aeadc9631d0ca1b16042b54d116075c94501ace617405d4496f9aeb4"), looks := false }, kinds := [], alts := [], laidByText := true, laidKinds := [.data, .pinned], laidTests := true, laidLooks := .later }
def FnExactWordOverlapsUptoCardSaid : Prop := Claim7.holds Tryd.pinned (.plain (OpenSpec.upto fnExactWordOverlapsSpec)) fnExactWordOverlapsUptoCard

/-- THE SECOND FORM's CARD OF 'laws.FnExactMeanTyped'. -/
def fnExactMeanTypedUptoCard : Claim7 := { stood := { row := fnExactMeanTypedUptoRow, standIns := [], harness := (true, "948bc366aeadc9631d0ca1b16042b54d116075c94501ace617405d4496f9aeb4"), looks := false }, kinds := [], alts := [], laidByText := true, laidKinds := [.data, .pinned], laidTests := true, laidLooks := .later }
def FnExactMeanTypedUptoCardSaid : Prop := Claim7.holds Tryd.pinned (.plain (OpenSpec.upto fnExactMeanTypedSpec)) fnExactMeanTypedUptoCard

/-- THE SECOND FORM's CARD OF 'laws.FnExactPlacesOfWord'. -/
def fnExactPlacesOfWordUptoCard : Claim7 := { stood := { row := fnExactPlacesOfWordUptoRow, standIns := [], harness := (true, "948bc366aeadc9631d0ca1b16042b54d116075c94501ace617405d4496f9aeb4"), looks := false }, kinds := [], alts := [], laidByText := true, laidKinds := [.data, .pinned], laidTests := true, laidLooks := .later }
def FnExactPlacesOfWordUptoCardSaid : Prop := Claim7.holds Tryd.pinned (.plain (OpenSpec.upto fnExactPlacesOfWordSpec)) fnExactPlacesOfWordUptoCard

/-- THE SECOND FORM's CARD OF 'laws.FnExactRankOfWord'. -/
def fnExactRankOfWordUptoCard : Claim7 := { stood := { row := fnExactRankOfWordUptoRow, standIns := [], harness := (true, "948bc366aeadc9631d0ca1b16042b54d116075c94501ace617405d4496f9aeb4"), looks := false }, kinds := [], alts := [], laidByText := true, laidKinds := [.data, .pinned], laidTests := true, laidLooks := .later }
def FnExactRankOfWordUptoCardSaid : Prop := Claim7.holds Tryd.pinned (.plain (OpenSpec.upto fnExactRankOfWordSpec)) fnExactRankOfWordUptoCard

/-- THE SECOND FORM's CARD OF 'laws.FnExactTurnWord'. -/
def fnExactTurnWordUptoCard : Claim7 := { stood := { row := fnExactTurnWordUptoRow, standIns := [], harness := (true, "948bc366aeadc9631d0ca1b16042b54d116075c94501ace617405d4496f9aeb4"), looks := false }, kinds := [], alts := [], laidByText := true, laidKinds := [.data, .pinned], laidTests := true, laidLooks := .later }
def FnExactTurnWordUptoCardSaid : Prop := Claim7.holds Tryd.pinned (.plain (OpenSpec.upto fnExactTurnWordSpec)) fnExactTurnWordUptoCard

/-- THE SECOND FORM's CARD OF 'laws.FnExactFirstTurn'. -/
def fnExactFirstTurnUptoCard : Claim7 := { stood := { row := fnExactFirstTurnUptoRow, standIns := [], harness := (true, "948bc366aeadc9631d0ca1b16042b54d116075c94501ace617405d4496f9aeb4"), looks := false }, kinds := [], alts := [], laidByText := true, laidKinds := [.data, .pinned], laidTests := true, laidLooks := .later }
def FnExactFirstTurnUptoCardSaid : Prop := Claim7.holds Tryd.pinned (.plain (OpenSpec.upto fnExactFirstTurnSpec)) fnExactFirstTurnUptoCard

/-- THE SECOND FORM's CARD OF 'laws.FnExactSameNecklace'. -/
def fnExactSameNecklaceUptoCard : Claim7 := { stood := { row := fnExactSameNecklaceUptoRow, standIns := [], harness := (true, "948bc366aeadc9631d0ca1b16042b54d116075c94501ace617405d4496f9aeb4"), looks := false }, kinds := [], alts := [], laidByText := true, laidKinds := [.data, .pinned], laidTests := true, laidLooks := .later }
def FnExactSameNecklaceUptoCardSaid : Prop := Claim7.holds Tryd.pinned (.plain (OpenSpec.upto fnExactSameNecklaceSpec)) fnExactSameNecklaceUptoCard

/-- THE SECOND FORM's CARD OF 'laws.FnExactIsPrimeWord'. -/
def fnExactIsPrimeWordUptoCard : Claim7 := { stood := { row := fnExactIsPrimeWordUptoRow, standIns := [], harness := (true, "948bc366aeadc9631d0ca1b16042b54d116075c94501ace617405d4496f9aeb4"), looks := false }, kinds := [], alts := [], laidByText := true, laidKinds := [.data, .pinned], laidTests := true, laidLooks := .later }
def FnExactIsPrimeWordUptoCardSaid : Prop := Claim7.holds Tryd.pinned (.plain (OpenSpec.upto fnExactIsPrimeWordSpec)) fnExactIsPrimeWordUptoCard

/-- THE SECOND FORM's CARD OF 'laws.FnExactRootOfWord'. -/
def fnExactRootOfWordUptoCard : Claim7 := { stood := { row := fnExactRootOfWordUptoRow, standIns := [], harness := (true, "948bc366aeadc9631d0ca1b16042b54d116075c94501ace617405d4496f9aeb4"), looks := false }, kinds := [], alts := [], laidByText := true, laidKinds := [.data, .pinned], laidTests := true, laidLooks := .later }
def FnExactRootOfWordUptoCardSaid : Prop := Claim7.holds Tryd.pinned (.plain (OpenSpec.upto fnExactRootOfWordSpec)) fnExactRootOfWordUptoCard
end Rows
end Go.Proofs.YtiblggfihpobkaaDoor
