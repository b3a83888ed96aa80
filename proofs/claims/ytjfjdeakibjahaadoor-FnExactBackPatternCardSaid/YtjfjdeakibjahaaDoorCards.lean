/-
  DERIVED. GIVEN WITH THE SEED: THE CARDS: each row of YtjfjdeakibjahaaDoorRows.lean that lists a variable, with what it lists TIED to the program's text (the seventh form; the later family's looks); each row that meets fmt, with fmt's text TOLD by the authors' own Lean function (tested against real Go, not proved from fmt's source: count such statements apart). THE CARD IS WHAT COUNTS. Prove the row's statement (the work); the ties are given (YtjfjdeakibjahaaDoorTie.lean); close each card by the builder's one call (the guide's Derived/Test/ToyasCard.lean, 'card_holds'). Laid BY PROGRAM, IN A SANDBOX (cutbox-door.mjs). By AI agents, Wed Nov 11 2026. No macro, syntax, notation, axiom, sorry.
-/
import Derived.Test.YtjfjdeakibjahaaDoorRows
import GoSem.ClaimSeven
namespace Go.Proofs.YtjfjdeakibjahaaDoor
namespace Rows

/-- THE TIED CARD OF 'laws.FnExactChainText'. -/
def fnExactChainTextCard : Claim7 := { stood := { row := fnExactChainTextRow, standIns := [], harness := (true, "668e7abb3d50d54ccb3adaa96f2c0c119665b4fdbd0c18df6d436732e8a59ec5"), looks := false }, kinds := [], alts := [], laidByText := true, laidKinds := [.data, .data, .data], laidTests := true, laidLooks := .later }
def FnExactChainTextCardSaid : Prop := Claim7.holds Tryd.pinned (.plain (OpenSpec.ofChange fnExactChainTextSpec)) fnExactChainTextCard

/-- THE TIED CARD OF 'laws.FnExactIsPattern'. -/
def fnExactIsPatternCard : Claim7 := { stood := { row := fnExactIsPatternRow, standIns := [], harness := (true, "668e7abb3d50d54ccb3adaa96f2c0c119665b4fdbd0c18df6d436732e8a59ec5"), looks := false }, kinds := [], alts := [], laidByText := true, laidKinds := [.data, .pinned], laidTests := true, laidLooks := .later }
def FnExactIsPatternCardSaid : Prop := Claim7.holds Tryd.pinned (.plain (OpenSpec.ofChange fnExactIsPatternSpec)) fnExactIsPatternCard

/-- THE TIED CARD OF 'laws.FnExactChanceOfPattern'. -/
def fnExactChanceOfPatternCard : Claim7 := { stood := { row := fnExactChanceOfPatternRow, standIns := [], harness := (true, "668e7abb3d50d54ccb3adaa96f2c0c119665b4fdbd0c18df6d436732e8a59ec5"), looks := false }, kinds := [], alts := [], laidByText := true, laidKinds := [.data, .pinned], laidTests := true, laidLooks := .later }
def FnExactChanceOfPatternCardSaid : Prop := Claim7.holds Tryd.pinned (.plain (OpenSpec.ofChange fnExactChanceOfPatternSpec)) fnExactChanceOfPatternCard

/-- THE TIED CARD OF 'laws.FnExactOverlapsOf'. -/
def fnExactOverlapsOfCard : Claim7 := { stood := { row := fnExactOverlapsOfRow, standIns := [], harness := (true, "668e7abb3d50d54ccb3adaa96f2c0c119665b4fdbd0c18df6d436732e8a59ec5"), looks := false }, kinds := [], alts := [], laidByText := true, laidKinds := [.data, .pinned], laidTests := true, laidLooks := .later }
def FnExactOverlapsOfCardSaid : Prop := Claim7.holds Tryd.pinned (.plain (OpenSpec.ofChange fnExactOverlapsOfSpec)) fnExactOverlapsOfCard

/-- THE TIED CARD OF 'laws.FnExactMeanWait'. -/
def fnExactMeanWaitCard : Claim7 := { stood := { row := fnExactMeanWaitRow, standIns := [], harness := (true, "668e7abb3d50d54ccb3adaa96f2c0c119665b4fdbd0c18df6d436732e8a59ec5"), looks := false }, kinds := [], alts := [], laidByText := true, laidKinds := [.data, .pinned], laidTests := true, laidLooks := .later }
def FnExactMeanWaitCardSaid : Prop := Claim7.holds Tryd.pinned (.plain (OpenSpec.ofChange fnExactMeanWaitSpec)) fnExactMeanWaitCard

/-- THE TIED CARD OF 'laws.FnExactMeanBetween'. -/
def fnExactMeanBetweenCard : Claim7 := { stood := { row := fnExactMeanBetweenRow, standIns := [], harness := (true, "668e7abb3d50d54ccb3adaa96f2c0c119665b4fdbd0c18df6d436732e8a59ec5"), looks := false }, kinds := [], alts := [], laidByText := true, laidKinds := [.data, .pinned], laidTests := true, laidLooks := .later }
def FnExactMeanBetweenCardSaid : Prop := Claim7.holds Tryd.pinned (.plain (OpenSpec.ofChange fnExactMeanBetweenSpec)) fnExactMeanBetweenCard

/-- THE TIED CARD OF 'laws.FnExactPlacesOf'. -/
def fnExactPlacesOfCard : Claim7 := { stood := { row := fnExactPlacesOfRow, standIns := [], harness := (true, "668e7abb3d50d54ccb3adaa96f2c0c119665b4fdbd0c18df6d436732e8a59ec5"), looks := false }, kinds := [], alts := [], laidByText := true, laidKinds := [.data, .pinned], laidTests := true, laidLooks := .later }
def FnExactPlacesOfCardSaid : Prop := Claim7.holds Tryd.pinned (.plain (OpenSpec.ofChange fnExactPlacesOfSpec)) fnExactPlacesOfCard

/-- THE TIED CARD OF 'laws.FnExactFirstPlace'. -/
def fnExactFirstPlaceCard : Claim7 := { stood := { row := fnExactFirstPlaceRow, standIns := [], harness := (true, "668e7abb3d50d54ccb3adaa96f2c0c119665b4fdbd0c18df6d436732e8a59ec5"), looks := false }, kinds := [], alts := [], laidByText := true, laidKinds := [.data, .pinned], laidTests := true, laidLooks := .later }
def FnExactFirstPlaceCardSaid : Prop := Claim7.holds Tryd.pinned (.plain (OpenSpec.ofChange fnExactFirstPlaceSpec)) fnExactFirstPlaceCard

/-- THE TIED CARD OF 'laws.FnExactMeanPlaces'. -/
def fnExactMeanPlacesCard : Claim7 := { stood := { row := fnExactMeanPlacesRow, standIns := [], harness := (true, "668e7abb3d50d54ccb3adaa96f2c0c119665b4fdbd0c18df6d436732e8a59ec5"), looks := false }, kinds := [], alts := [], laidByText := true, laidKinds := [.data, .pinned], laidTests := true, laidLooks := .later }
def FnExactMeanPlacesCardSaid : Prop := Claim7.holds Tryd.pinned (.plain (OpenSpec.ofChange fnExactMeanPlacesSpec)) fnExactMeanPlacesCard

/-- THE TIED CARD OF 'laws.FnExactBackPattern'. -/
def fnExactBackPatternCard : Claim7 := { stood := { row := fnExactBackPatternRow, standIns := [], harness := (true, "668e7abb3d50d54ccb3adaa96f2c0c119665b4fdbd0c18df6d436732e8a59ec5"), looks := false }, kinds := [], alts := [], laidByText := true, laidKinds := [.data, .pinned], laidTests := true, laidLooks := .later }
def FnExactBackPatternCardSaid : Prop := Claim7.holds Tryd.pinned (.plain (OpenSpec.ofChange fnExactBackPatternSpec)) fnExactBackPatternCard

/-- THE TIED CARD OF 'laws.FnExactCoinText'. -/
def fnExactCoinTextCard : Claim7 := { stood := { row := fnExactCoinTextRow, standIns := [], harness := (true, "668e7abb3d50d54ccb3adaa96f2c0c119665b4fdbd0c18df6d436732e8a59ec5"), looks := false }, kinds := [], alts := [], laidByText := true, laidKinds := [.data, .data, .data], laidTests := true, laidLooks := .later }
def FnExactCoinTextCardSaid : Prop := Claim7.holds Tryd.pinned (.plain (OpenSpec.ofChange fnExactCoinTextSpec)) fnExactCoinTextCard

/-- THE SECOND FORM's CARD OF 'laws.FnExactChainText'. -/
def fnExactChainTextUptoCard : Claim7 := { stood := { row := fnExactChainTextUptoRow, standIns := [], harness := (true, "668e7abb3d50d54ccb3adaa96f2c0c119665b4fdbd0c18df6d436732e8a59ec5"), looks := false }, kinds := [], alts := [], laidByText := true, laidKinds := [.data, .data, .data], laidTests := true, laidLooks := .later }
def FnExactChainTextUptoCardSaid : Prop := Claim7.holds Tryd.pinned (.plain (OpenSpec.upto fnExactChainTextSpec)) fnExactChainTextUptoCard

/-- THE SECOND FORM's CARD OF 'laws.FnExactIsPattern'. -/
def fnExactIsPatternUptoCard : Claim7 := { stood := { row := fnExactIsPatternUptoRow, standIns := [], harness := (true, "668e7abb3d50d54ccb3adaa96f2c0c119665b4fdbd0c18df6d436732e8a59ec5"), looks := false }, kinds := [], alts := [], laidByText := true, laidKinds := [.data, .pinned], laidTests := true, laidLooks := .later }
def FnExactIsPatternUptoCardSaid : Prop := Claim7.holds Tryd.pinned (.plain (OpenSpec.upto fnExactIsPatternSpec)) fnExactIsPatternUptoCard

/-- THE SECOND FORM's CARD OF 'laws.FnExactChanceOfPattern'. -/
def fnExactChanceOfPatternUptoCard : Claim7 := { stood := { row := fnExactChanceOfPatternUptoRow, standIns := [], harness := (true, "668e7abb3d50d54ccb3adaa96f2c0c119665b4fdbd0c18df6d436732e8a59ec5"), looks := false }, kinds := [], alts := [], laidByText := true, laidKinds := [.data, .pinned], laidTests := true, laidLooks := .later }
def FnExactChanceOfPatternUptoCardSaid : Prop := Claim7.holds Tryd.pinned (.plain (OpenSpec.upto fnExactChanceOfPatternSpec)) fnExactChanceOfPatternUptoCard

/-- THE SECOND FORM's CARD OF 'laws.FnExactOverlapsOf'. -/
def fnExactOverlapsOfUptoCard : Claim7 := { stood := { row := fnExactOverlapsOfUptoRow, standIns := [], harness := (true, "668e7abb3d50d54ccb3adaa96f2c0c119665b4fdbd0c18df6d436732e8a59ec5"), looks := false }, kinds := [], alts := [], laidByText := true, laidKinds := [.data, .pinned], laidTests := true, laidLooks := .later }
def FnExactOverlapsOfUptoCardSaid : Prop := Claim7.holds Tryd.pinned (.plain (OpenSpec.upto fnExactOverlapsOfSpec)) fnExactOverlapsOfUptoCard

/-- THE SECOND FORM's CARD OF 'laws.FnExactMeanWait'. -/
def fnExactMeanWaitUptoCard : Claim7 := { stood := { row := fnExactMeanWaitUptoRow, standIns := [], harness := (true, "668e7abb3d50d54ccb3adaa96f2c0c119665b4fdbd0c18df6d436732e8a59ec5"), looks := false }, kinds := [], alts := [], laidByText := true, laidKinds := [.data, .pinned], laidTests := true, laidLooks := .later }
def FnExactMeanWaitUptoCardSaid : Prop := Claim7.holds Tryd.pinned (.plain (OpenSpec.upto fnExactMeanWaitSpec)) fnExactMeanWaitUptoCard

/-- THE SECOND FORM's CARD OF 'laws.FnExactMeanBetween'. -/
def fnExactMeanBetweenUptoCard : Claim7 := { stood := { row := fnExactMeanBetweenUptoRow, standIns := [], harness := (true, "668e7abb3d50d54ccb3adaa96f2c0c119665b4fdbd0c18df6d436732e8a59ec5"), looks := false }, kinds := [], alts := [], laidByText := true, laidKinds := [.data, .pinned], laidTests := true, laidLooks := .later }
def FnExactMeanBetweenUptoCardSaid : Prop := Claim7.holds Tryd.pinned (.plain (OpenSpec.upto fnExactMeanBetweenSpec)) fnExactMeanBetweenUptoCard

/-- THE SECOND FORM's CARD OF 'laws.FnExactPlacesOf'. -/
def fnExactPlacesOfUptoCard : Claim7 := { stood := { row := fnExactPlacesOfUptoRow, standIns := [], harness := (true, "668e7abb3d50d54ccb3adaa96f2c0c119665b4fdbd0c18df6d436732e8a59ec5"), looks := false }, kinds := [], alts := [], laidByText := true, laidKinds := [.data, .pinned], laidTests := true, laidLooks := .later }
def FnExactPlacesOfUptoCardSaid : Prop := Claim7.holds Tryd.pinned (.plain (OpenSpec.upto fnExactPlacesOfSpec)) fnExactPlacesOfUptoCard

/-- THE SECOND FORM's CARD OF 'laws.FnExactFirstPlace'. -/
def fnExactFirstPlaceUptoCard : Claim7 := { stood := { row := fnExactFirstPlaceUptoRow, standIns := [], harness := (true, "668e7abb3d50d54ccb3adaa96f2c0c119665b4fdbd0c18df6d436732e8a59ec5"), looks := false }, kinds := [], alts := [], laidByText := true, laidKinds := [.data, .pinned], laidTests := true, laidLooks := .later }
def FnExactFirstPlaceUptoCardSaid : Prop := Claim7.holds Tryd.pinned (.plain (OpenSpec.upto fnExactFirstPlaceSpec)) fnExactFirstPlaceUptoCard

/-- THE SECOND FORM's CARD OF 'laws.FnExactMeanPlaces'. -/
def fnExactMeanPlacesUptoCard : Claim7 := { stood := { row := fnExactMeanPlacesUptoRow, standIns := [], harness := (true, "668e7abb3d50d54ccb3adaa96f2c0c119665b4fdbd0c18df6d436732e8a59ec5"), looks := false }, kinds := [], alts := [], laidByText := true, laidKinds := [.data, .pinned], laidTests := true, laidLooks := .later }
def FnExactMeanPlacesUptoCardSaid : Prop := Claim7.holds Tryd.pinned (.plain (OpenSpec.upto fnExactMeanPlacesSpec)) fnExactMeanPlacesUptoCard

/-- THE SECOND FORM's CARD OF 'laws.FnExactBackPattern'. -/
def fnExactBackPatternUptoCard : Claim7 := { stood := { row := fnExactBackPatternUptoRow, standIns := [], harness := (true, "668e7abb3d50d54ccb3adaa96f2c0c119665b4fdbd0c18df6d436732e8a59ec5"), looks := false }, kinds := [], alts := [], laidByText := true, laidKinds := [.data, .pinned], laidTests := true, laidLooks := .later }
def FnExactBackPatternUptoCardSaid : Prop := Claim7.holds Tryd.pinned (.plain (OpenSpec.upto fnExactBackPatternSpec)) fnExactBackPatternUptoCard

/-- THE SECOND FORM's CARD OF 'laws.FnExactCoinText'. -/
def fnExactCoinTextUptoCard : Claim7 := { stood := { row := fnExactCoinTextUptoRow, standIns := [], harness := (true, "668e7abb3d50d54ccb3adaa96f2c0c119665b4fdbd0c18df6d436732e8a59ec5"), looks := false }, kinds := [], alts := [], laidByText := true, laidKinds := [.data, .data, .data], laidTests := true, laidLooks := .later }
def FnExactCoinTextUptoCardSaid : Prop := Claim7.holds Tryd.pinned (.plain (OpenSpec.upto fnExactCoinTextSpec)) fnExactCoinTextUptoCard
end Rows
end Go.Proofs.YtjfjdeakibjahaaDoor
