/-
  DERIVED. GIVEN WITH THE SEED: THE CARDS: each row of YtjckmnbpfmcadabDoorRows.lean that lists a variable, with what it lists TIED to the program's text (the seventh form; the later family's looks); each row that meets fmt, with fmt's text TOLD by the authors' own Lean function (tested against real Go, not proved from fmt's source: count such statements apart). THE CARD IS WHAT COUNTS. Prove the row's statement (the work); the ties are given (YtjckmnbpfmcadabDoorTie.lean); close each card by the builder's one call (the guide's Derived/Test/ToyasCard.lean, 'card_holds'). Laid BY PROGRAM, IN A SANDBOX (cutbox-door.mjs). By AI agents, Wed Nov 11 2026. No macro, syntax, notation, axiom, sorry.
-/
import Derived.Test.YtjckmnbpfmcadabDoorRows
import GoSem.ClaimSeven
namespace Go.Proofs.YtjckmnbpfmcadabDoor
namespace Rows

/-- THE TIED CARD OF 'laws.FnExactAreRacers'. -/
def fnExactAreRacersCard : Claim7 := { stood := { row := fnExactAreRacersRow, standIns := [], harness := (true, "f783b6b71bcca3be3eb308955f0b1e8cbc28abb0f2ea1a4dc5ec6a5a6dd16739"), looks := false }, kinds := [], alts := [], laidByText := true, laidKinds := [.data, .pinned], laidTests := true, laidLooks := .later }
def FnExactAreRacersCardSaid : Prop := Claim7.holds Tryd.pinned (.plain (OpenSpec.ofChange fnExactAreRacersSpec)) fnExactAreRacersCard

/-- THE TIED CARD OF 'laws.FnExactLeadingNumber'. -/
def fnExactLeadingNumberCard : Claim7 := { stood := { row := fnExactLeadingNumberRow, standIns := [], harness := (true, "f783b6b71bcca3be3eb308955f0b1e8cbc28abb0f2ea1a4dc5ec6a5a6dd16739"), looks := false }, kinds := [], alts := [], laidByText := true, laidKinds := [.data, .pinned], laidTests := true, laidLooks := .later }
def FnExactLeadingNumberCardSaid : Prop := Claim7.holds Tryd.pinned (.plain (OpenSpec.ofChange fnExactLeadingNumberSpec)) fnExactLeadingNumberCard

/-- THE TIED CARD OF 'laws.FnExactChanceFirst'. -/
def fnExactChanceFirstCard : Claim7 := { stood := { row := fnExactChanceFirstRow, standIns := [], harness := (true, "f783b6b71bcca3be3eb308955f0b1e8cbc28abb0f2ea1a4dc5ec6a5a6dd16739"), looks := false }, kinds := [], alts := [], laidByText := true, laidKinds := [.data, .pinned], laidTests := true, laidLooks := .later }
def FnExactChanceFirstCardSaid : Prop := Claim7.holds Tryd.pinned (.plain (OpenSpec.ofChange fnExactChanceFirstSpec)) fnExactChanceFirstCard

/-- THE TIED CARD OF 'laws.FnExactMeanRace'. -/
def fnExactMeanRaceCard : Claim7 := { stood := { row := fnExactMeanRaceRow, standIns := [], harness := (true, "f783b6b71bcca3be3eb308955f0b1e8cbc28abb0f2ea1a4dc5ec6a5a6dd16739"), looks := false }, kinds := [], alts := [], laidByText := true, laidKinds := [.data, .pinned], laidTests := true, laidLooks := .later }
def FnExactMeanRaceCardSaid : Prop := Claim7.holds Tryd.pinned (.plain (OpenSpec.ofChange fnExactMeanRaceSpec)) fnExactMeanRaceCard

/-- THE TIED CARD OF 'laws.FnExactWinnerOfRace'. -/
def fnExactWinnerOfRaceCard : Claim7 := { stood := { row := fnExactWinnerOfRaceRow, standIns := [], harness := (true, "f783b6b71bcca3be3eb308955f0b1e8cbc28abb0f2ea1a4dc5ec6a5a6dd16739"), looks := false }, kinds := [], alts := [], laidByText := true, laidKinds := [.data, .pinned], laidTests := true, laidLooks := .later }
def FnExactWinnerOfRaceCardSaid : Prop := Claim7.holds Tryd.pinned (.plain (OpenSpec.ofChange fnExactWinnerOfRaceSpec)) fnExactWinnerOfRaceCard

/-- THE TIED CARD OF 'laws.FnExactDoesBeat'. -/
def fnExactDoesBeatCard : Claim7 := { stood := { row := fnExactDoesBeatRow, standIns := [], harness := (true, "f783b6b71bcca3be3eb308955f0b1e8cbc28abb0f2ea1a4dc5ec6a5a6dd16739"), looks := false }, kinds := [], alts := [], laidByText := true, laidKinds := [.data, .pinned], laidTests := true, laidLooks := .later }
def FnExactDoesBeatCardSaid : Prop := Claim7.holds Tryd.pinned (.plain (OpenSpec.ofChange fnExactDoesBeatSpec)) fnExactDoesBeatCard

/-- THE TIED CARD OF 'laws.FnExactBestAnswer'. -/
def fnExactBestAnswerCard : Claim7 := { stood := { row := fnExactBestAnswerRow, standIns := [], harness := (true, "f783b6b71bcca3be3eb308955f0b1e8cbc28abb0f2ea1a4dc5ec6a5a6dd16739"), looks := false }, kinds := [], alts := [], laidByText := true, laidKinds := [.data, .pinned], laidTests := true, laidLooks := .later }
def FnExactBestAnswerCardSaid : Prop := Claim7.holds Tryd.pinned (.plain (OpenSpec.ofChange fnExactBestAnswerSpec)) fnExactBestAnswerCard

/-- THE TIED CARD OF 'laws.FnExactBeatenBy'. -/
def fnExactBeatenByCard : Claim7 := { stood := { row := fnExactBeatenByRow, standIns := [], harness := (true, "f783b6b71bcca3be3eb308955f0b1e8cbc28abb0f2ea1a4dc5ec6a5a6dd16739"), looks := false }, kinds := [], alts := [], laidByText := true, laidKinds := [.data, .pinned], laidTests := true, laidLooks := .later }
def FnExactBeatenByCardSaid : Prop := Claim7.holds Tryd.pinned (.plain (OpenSpec.ofChange fnExactBeatenBySpec)) fnExactBeatenByCard

/-- THE TIED CARD OF 'laws.FnExactEvenRaces'. -/
def fnExactEvenRacesCard : Claim7 := { stood := { row := fnExactEvenRacesRow, standIns := [], harness := (true, "f783b6b71bcca3be3eb308955f0b1e8cbc28abb0f2ea1a4dc5ec6a5a6dd16739"), looks := false }, kinds := [], alts := [], laidByText := true, laidKinds := [.data, .pinned], laidTests := true, laidLooks := .later }
def FnExactEvenRacesCardSaid : Prop := Claim7.holds Tryd.pinned (.plain (OpenSpec.ofChange fnExactEvenRacesSpec)) fnExactEvenRacesCard

/-- THE SECOND FORM's CARD OF 'laws.FnExactAreRacers'. -/
def fnExactAreRacersUptoCard : Claim7 := { stood := { row := fnExactAreRacersUptoRow, standIns := [], harness := (true, "f783b6b71bcca3be3eb308955f0b1e8cbc28abb0f2ea1a4dc5ec6a5a6dd16739"), looks := false }, kinds := [], alts := [], laidByText := true, laidKinds := [.data, .pinned], laidTests := true, laidLooks := .later }
def FnExactAreRacersUptoCardSaid : Prop := Claim7.holds Tryd.pinned (.plain (OpenSpec.upto fnExactAreRacersSpec)) fnExactAreRacersUptoCard

/-- THE SECOND FORM's CARD OF 'laws.FnExactLeadingNumber'. -/
def fnExactLeadingNumberUptoCard : Claim7 := { stood := { row := fnExactLeadingNumberUptoRow, standIns := [], harness := (true, "f783b6b71bcca3be3eb308955f0b1e8cbc28abb0f2ea1a4dc5ec6a5a6dd16739"), looks := false }, kinds := [], alts := [], laidByText := true, laidKinds := [.data, .pinned], laidTests := true, laidLooks := .later }
def FnExactLeadingNumberUptoCardSaid : Prop := Claim7.holds Tryd.pinned (.plain (OpenSpec.upto fnExactLeadingNumberSpec)) fnExactLeadingNumberUptoCard

/-- THE SECOND FORM's CARD OF 'laws.FnExactChanceFirst'. -/
def fnExactChanceFirstUptoCard : Claim7 := { stood := { row := fnExactChanceFirstUptoRow, standIns := [], harness := (true, "f783b6b71bcca3be3eb308955f0b1e8cbc28abb0f2ea1a4dc5ec6a5a6dd16739"), looks := false }, kinds := [], alts := [], laidByText := true, laidKinds := [.data, .pinned], laidTests := true, laidLooks := .later }
def FnExactChanceFirstUptoCardSaid : Prop := Claim7.holds Tryd.pinned (.plain (OpenSpec.upto fnExactChanceFirstSpec)) fnExactChanceFirstUptoCard

/-- THE SECOND FORM's CARD OF 'laws.FnExactMeanRace'. -/
def fnExactMeanRaceUptoCard : Claim7 := { stood := { row := fnExactMeanRaceUptoRow, standIns := [], harness := (true, "f783b6b71bcca3be3eb308955f0b1e8cbc28abb0f2ea1a4dc5ec6a5a6dd16739"), looks := false }, kinds := [], alts := [], laidByText := true, laidKinds := [.data, .pinned], laidTests := true, laidLooks := .later }
def FnExactMeanRaceUptoCardSaid : Prop := Claim7.holds Tryd.pinned (.plain (OpenSpec.upto fnExactMeanRaceSpec)) fnExactMeanRaceUptoCard

/-- THE SECOND FORM's CARD OF 'laws.FnExactWinnerOfRace'. -/
def fnExactWinnerOfRaceUptoCard : Claim7 := { stood := { row := fnExactWinnerOfRaceUptoRow, standIns := [], harness := (true, "f783b6b71bcca3be3eb308955f0b1e8cbc28abb0f2ea1a4dc5ec6a5a6dd16739"), looks := false }, kinds := [], alts := [], laidByText := true, laidKinds := [.data, .pinned], laidTests := true, laidLooks := .later }
def FnExactWinnerOfRaceUptoCardSaid : Prop := Claim7.holds Tryd.pinned (.plain (OpenSpec.upto fnExactWinnerOfRaceSpec)) fnExactWinnerOfRaceUptoCard

/-- THE SECOND FORM's CARD OF 'laws.FnExactDoesBeat'. -/
def fnExactDoesBeatUptoCard : Claim7 := { stood := { row := fnExactDoesBeatUptoRow, standIns := [], harness := (true, "f783b6b71bcca3be3eb308955f0b1e8cbc28abb0f2ea1a4dc5ec6a5a6dd16739"), looks := false }, kinds := [], alts := [], laidByText := true, laidKinds := [.data, .pinned], laidTests := true, laidLooks := .later }
def FnExactDoesBeatUptoCardSaid : Prop := Claim7.holds Tryd.pinned (.plain (OpenSpec.upto fnExactDoesBeatSpec)) fnExactDoesBeatUptoCard

/-- THE SECOND FORM's CARD OF 'laws.FnExactBestAnswer'. -/
def fnExactBestAnswerUptoCard : Claim7 := { stood := { row := fnExactBestAnswerUptoRow, standIns := [], harness := (true, "f783b6b71bcca3be3eb308955f0b1e8cbc28abb0f2ea1a4dc5ec6a5a6dd16739"), looks := false }, kinds := [], alts := [], laidByText := true, laidKinds := [.data, .pinned], laidTests := true, laidLooks := .later }
def FnExactBestAnswerUptoCardSaid : Prop := Claim7.holds Tryd.pinned (.plain (OpenSpec.upto fnExactBestAnswerSpec)) fnExactBestAnswerUptoCard

/-- THE SECOND FORM's CARD OF 'laws.FnExactBeatenBy'. -/
def fnExactBeatenByUptoCard : Claim7 := { stood := { row := fnExactBeatenByUptoRow, standIns := [], harness := (true, "f783b6b71bcca3be3eb308955f0b1e8cbc28abb0f2ea1a4dc5ec6a5a6dd16739"), looks := false }, kinds := [], alts := [], laidByText := true, laidKinds := [.data, .pinned], laidTests := true, laidLooks := .later }
def FnExactBeatenByUptoCardSaid : Prop := Claim7.holds Tryd.pinned (.plain (OpenSpec.upto fnExactBeatenBySpec)) fnExactBeatenByUptoCard

/-- THE SECOND FORM's CARD OF 'laws.FnExactEvenRaces'. -/
def fnExactEvenRacesUptoCard : Claim7 := { stood := { row := fnExactEvenRacesUptoRow, standIns := [], harness := (true, "f783b6b71bcca3be3eb308955f0b1e8cbc28abb0f2ea1a4dc5ec6a5a6dd16739"), looks := false }, kinds := [], alts := [], laidByText := true, laidKinds := [.data, .pinned], laidTests := true, laidLooks := .later }
def FnExactEvenRacesUptoCardSaid : Prop := Claim7.holds Tryd.pinned (.plain (OpenSpec.upto fnExactEvenRacesSpec)) fnExactEvenRacesUptoCard
end Rows
end Go.Proofs.YtjckmnbpfmcadabDoor
