/-
  DERIVED. GIVEN WITH THE SEED: THE CARDS: each row of YtjckmnbpfmcadaaDoorRows.lean that lists a variable, with what it lists TIED to the program's text (the seventh form; the later family's looks); each row that meets fmt, with fmt's text TOLD by the authors' own Lean function (tested against real Go, not proved from fmt's source: count such statements apart). THE CARD IS WHAT COUNTS. Prove the row's statement (the work); the ties are given (YtjckmnbpfmcadaaDoorTie.lean); close each card by the builder's one call (the guide's Derived/Test/ToyasCard.lean, 'card_holds'). Laid BY PROGRAM, IN A SANDBOX (cutbox-door.mjs). By AI agents, Wed Nov 11 2026. No macro, syntax, notation, axiom, sorry.
-/
import Derived.Test.YtjckmnbpfmcadaaDoorRows
import GoSem.ClaimSeven
namespace Go.Proofs.YtjckmnbpfmcadaaDoor
namespace Rows

/-- THE TIED CARD OF 'laws.FnExactIsPattern'. -/
def fnExactIsPatternCard : Claim7 := { stood := { row := fnExactIsPatternRow, standIns := [], harness := (true, "b0881455b26ea01b694c50ee6d081b297d2e24a22aa8a04866d4da87c75a8677"), looks := false }, kinds := [], alts := [], laidByText := true, laidKinds := [.data, .pinned], laidTests := true, laidLooks := .later }
def FnExactIsPatternCardSaid : Prop := Claim7.holds Tryd.pinned (.plain (OpenSpec.ofChange fnExactIsPatternSpec)) fnExactIsPatternCard

/-- THE TIED CARD OF 'laws.FnExactChanceOfPattern'. -/
def fnExactChanceOfPatternCard : Claim7 := { stood := { row := fnExactChanceOfPatternRow, standIns := [], harness := (true, "b0881455b26ea01b694c50ee6d081b297d2e24a22aa8a04866d4da87c75a8677"), looks := false }, kinds := [], alts := [], laidByText := true, laidKinds := [.data, .pinned], laidTests := true, laidLooks := .later }
def FnExactChanceOfPatternCardSaid : Prop := Claim7.holds Tryd.pinned (.plain (OpenSpec.ofChange fnExactChanceOfPatternSpec)) fnExactChanceOfPatternCard

/-- THE TIED CARD OF 'laws.FnExactOverlapsOf'. -/
def fnExactOverlapsOfCard : Claim7 := { stood := { row := fnExactOverlapsOfRow, standIns := [], harness := (true, "b0881455b26ea01b694c50ee6d081b297d2e24a22aa8a04866d4da87c75a8677"), looks := false }, kinds := [], alts := [], laidByText := true, laidKinds := [.data, .pinned], laidTests := true, laidLooks := .later }
def FnExactOverlapsOfCardSaid : Prop := Claim7.holds Tryd.pinned (.plain (OpenSpec.ofChange fnExactOverlapsOfSpec)) fnExactOverlapsOfCard

/-- THE TIED CARD OF 'laws.FnExactMeanWait'. -/
def fnExactMeanWaitCard : Claim7 := { stood := { row := fnExactMeanWaitRow, standIns := [], harness := (true, "b0881455b26ea01b694c50ee6d081b297d2e24a22aa8a04866d4da87c75a8677"), looks := false }, kinds := [], alts := [], laidByText := true, laidKinds := [.data, .pinned], laidTests := true, laidLooks := .later }
def FnExactMeanWaitCardSaid : Prop := Claim7.holds Tryd.pinned (.plain (OpenSpec.ofChange fnExactMeanWaitSpec)) fnExactMeanWaitCard

/-- THE TIED CARD OF 'laws.FnExactMeanBetween'. -/
def fnExactMeanBetweenCard : Claim7 := { stood := { row := fnExactMeanBetweenRow, standIns := [], harness := (true, "b0881455b26ea01b694c50ee6d081b297d2e24a22aa8a04866d4da87c75a8677"), looks := false }, kinds := [], alts := [], laidByText := true, laidKinds := [.data, .pinned], laidTests := true, laidLooks := .later }
def FnExactMeanBetweenCardSaid : Prop := Claim7.holds Tryd.pinned (.plain (OpenSpec.ofChange fnExactMeanBetweenSpec)) fnExactMeanBetweenCard

/-- THE TIED CARD OF 'laws.FnExactPlacesOf'. -/
def fnExactPlacesOfCard : Claim7 := { stood := { row := fnExactPlacesOfRow, standIns := [], harness := (true, "b0881455b26ea01b694c50ee6d081b297d2e24a22aa8a04866d4da87c75a8677"), looks := false }, kinds := [], alts := [], laidByText := true, laidKinds := [.data, .pinned], laidTests := true, laidLooks := .later }
def FnExactPlacesOfCardSaid : Prop := Claim7.holds Tryd.pinned (.plain (OpenSpec.ofChange fnExactPlacesOfSpec)) fnExactPlacesOfCard

/-- THE TIED CARD OF 'laws.FnExactFirstPlace'. -/
def fnExactFirstPlaceCard : Claim7 := { stood := { row := fnExactFirstPlaceRow, standIns := [], harness := (true, "b0881455b26ea01b694c50ee6d081b297d2e24a22aa8a04866d4da87c75a8677"), looks := false }, kinds := [], alts := [], laidByText := true, laidKinds := [.data, .pinned], laidTests := true, laidLooks := .later }
def FnExactFirstPlaceCardSaid : Prop := Claim7.holds Tryd.pinned (.plain (OpenSpec.ofChange fnExactFirstPlaceSpec)) fnExactFirstPlaceCard

/-- THE TIED CARD OF 'laws.FnExactMeanPlaces'. -/
def fnExactMeanPlacesCard : Claim7 := { stood := { row := fnExactMeanPlacesRow, standIns := [], harness := (true, "b0881455b26ea01b694c50ee6d081b297d2e24a22aa8a04866d4da87c75a8677"), looks := false }, kinds := [], alts := [], laidByText := true, laidKinds := [.data, .pinned], laidTests := true, laidLooks := .later }
def FnExactMeanPlacesCardSaid : Prop := Claim7.holds Tryd.pinned (.plain (OpenSpec.ofChange fnExactMeanPlacesSpec)) fnExactMeanPlacesCard

/-- THE TIED CARD OF 'laws.FnExactBackPattern'. -/
def fnExactBackPatternCard : Claim7 := { stood := { row := fnExactBackPatternRow, standIns := [], harness := (true, "b0881455b26ea01b694c50ee6d081b297d2e24a22aa8a04866d4da87c75a8677"), looks := false }, kinds := [], alts := [], laidByText := true, laidKinds := [.data, .pinned], laidTests := true, laidLooks := .later }
def FnExactBackPatternCardSaid : Prop := Claim7.holds Tryd.pinned (.plain (OpenSpec.ofChange fnExactBackPatternSpec)) fnExactBackPatternCard

/-- THE SECOND FORM's CARD OF 'laws.FnExactIsPattern'. -/
def fnExactIsPatternUptoCard : Claim7 := { stood := { row := fnExactIsPatternUptoRow, standIns := [], harness := (true, "b0881455b26ea01b694c50ee6d081b297d2e24a22aa8a04866d4da87c75a8677"), looks := false }, kinds := [], alts := [], laidByText := true, laidKinds := [.data, .pinned], laidTests := true, laidLooks := .later }
def FnExactIsPatternUptoCardSaid : Prop := Claim7.holds Tryd.pinned (.plain (OpenSpec.upto fnExactIsPatternSpec)) fnExactIsPatternUptoCard

/-- THE SECOND FORM's CARD OF 'laws.FnExactChanceOfPattern'. -/
def fnExactChanceOfPatternUptoCard : Claim7 := { stood := { row := fnExactChanceOfPatternUptoRow, standIns := [], harness := (true, "b0881455b26ea01b694c50ee6d081b297d2e24a22aa8a04866d4da87c75a8677"), looks := false }, kinds := [], alts := [], laidByText := true, laidKinds := [.data, .pinned], laidTests := true, laidLooks := .later }
def FnExactChanceOfPatternUptoCardSaid : Prop := Claim7.holds Tryd.pinned (.plain (OpenSpec.upto fnExactChanceOfPatternSpec)) fnExactChanceOfPatternUptoCard

/-- THE SECOND FORM's CARD OF 'laws.FnExactOverlapsOf'. -/
def fnExactOverlapsOfUptoCard : Claim7 := { stood := { row := fnExactOverlapsOfUptoRow, standIns := [], harness := (true, "b0881455b26ea01b694c50ee6d081b297d2e24a22aa8a04866d4da87c75a8677"), looks := false }, kinds := [], alts := [], laidByText := true, laidKinds := [.data, .pinned], laidTests := true, laidLooks := .later }
def FnExactOverlapsOfUptoCardSaid : Prop := Claim7.holds Tryd.pinned (.plain (OpenSpec.upto fnExactOverlapsOfSpec)) fnExactOverlapsOfUptoCard

/-- THE SECOND FORM's CARD OF 'laws.FnExactMeanWait'. -/
def fnExactMeanWaitUptoCard : Claim7 := { stood := { row := fnExactMeanWaitUptoRow, standIns := [], harness := (true, "b0881455b26ea01b694c50ee6d081b297d2e24a22aa8a04866d4da87c75a8677"), looks := false }, kinds := [], alts := [], laidByText := true, laidKinds := [.data, .pinned], laidTests := true, laidLooks := .later }
def FnExactMeanWaitUptoCardSaid : Prop := Claim7.holds Tryd.pinned (.plain (OpenSpec.upto fnExactMeanWaitSpec)) fnExactMeanWaitUptoCard

/-- THE SECOND FORM's CARD OF 'laws.FnExactMeanBetween'. -/
def fnExactMeanBetweenUptoCard : Claim7 := { stood := { row := fnExactMeanBetweenUptoRow, standIns := [], harness := (true, "b0881455b26ea01b694c50ee6d081b297d2e24a22aa8a04866d4da87c75a8677"), looks := false }, kinds := [], alts := [], laidByText := true, laidKinds := [.data, .pinned], laidTests := true, laidLooks := .later }
def FnExactMeanBetweenUptoCardSaid : Prop := Claim7.holds Tryd.pinned (.plain (OpenSpec.upto fnExactMeanBetweenSpec)) fnExactMeanBetweenUptoCard

/-- THE SECOND FORM's CARD OF 'laws.FnExactPlacesOf'. -/
def fnExactPlacesOfUptoCard : Claim7 := { stood := { row := fnExactPlacesOfUptoRow, standIns := [], harness := (true, "b0881455b26ea01b694c50ee6d081b297d2e24a22aa8a04866d4da87c75a8677"), looks := false }, kinds := [], alts := [], laidByText := true, laidKinds := [.data, .pinned], laidTests := true, laidLooks := .later }
def FnExactPlacesOfUptoCardSaid : Prop := Claim7.holds Tryd.pinned (.plain (OpenSpec.upto fnExactPlacesOfSpec)) fnExactPlacesOfUptoCard

/-- THE SECOND FORM's CARD OF 'laws.FnExactFirstPlace'. -/
def fnExactFirstPlaceUptoCard : Claim7 := { stood := { row := fnExactFirstPlaceUptoRow, standIns := [], harness := (true, "b0881455b26ea01b694c50ee6d081b297d2e24a22aa8a04866d4da87c75a8677"), looks := false }, kinds := [], alts := [], laidByText := true, laidKinds := [.data, .pinned], laidTests := true, laidLooks := .later }
def FnExactFirstPlaceUptoCardSaid : Prop := Claim7.holds Tryd.pinned (.plain (OpenSpec.upto fnExactFirstPlaceSpec)) fnExactFirstPlaceUptoCard

/-- THE SECOND FORM's CARD OF 'laws.FnExactMeanPlaces'. -/
def fnExactMeanPlacesUptoCard : Claim7 := { stood := { row := fnExactMeanPlacesUptoRow, standIns := [], harness := (true, "b0881455b26ea01b694c50ee6d081b297d2e24a22aa8a04866d4da87c75a8677"), looks := false }, kinds := [], alts := [], laidByText := true, laidKinds := [.data, .pinned], laidTests := true, laidLooks := .later }
def FnExactMeanPlacesUptoCardSaid : Prop := Claim7.holds Tryd.pinned (.plain (OpenSpec.upto fnExactMeanPlacesSpec)) fnExactMeanPlacesUptoCard

/-- THE SECOND FORM's CARD OF 'laws.FnExactBackPattern'. -/
def fnExactBackPatternUptoCard : Claim7 := { stood := { row := fnExactBackPatternUptoRow, standIns := [], harness := (true, "b0881455b26ea01b694c50ee6d081b297d2e24a22aa8a04866d4da87c75a8677"), looks := false }, kinds := [], alts := [], laidByText := true, laidKinds := [.data, .pinned], laidTests := true, laidLooks := .later }
def FnExactBackPatternUptoCardSaid : Prop := Claim7.holds Tryd.pinned (.plain (OpenSpec.upto fnExactBackPatternSpec)) fnExactBackPatternUptoCard
end Rows
end Go.Proofs.YtjckmnbpfmcadaaDoor
