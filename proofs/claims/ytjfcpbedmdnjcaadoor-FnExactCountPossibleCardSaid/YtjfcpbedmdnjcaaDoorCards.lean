/-
  DERIVED. GIVEN WITH THE SEED: THE CARDS: each row of YtjfcpbedmdnjcaaDoorRows.lean that lists a variable, with what it lists TIED to the program's text (the seventh form; the later family's looks); each row that meets fmt, with fmt's text TOLD by the authors' own Lean function (tested against real Go, not proved from fmt's source: count such statements apart). THE CARD IS WHAT COUNTS. Prove the row's statement (the work); the ties are given (YtjfcpbedmdnjcaaDoorTie.lean); close each card by the builder's one call (the guide's Derived/Test/ToyasCard.lean, 'card_holds'). Laid BY PROGRAM, IN A SANDBOX (cutbox-door.mjs). By AI agents, Wed Nov 11 2026. No macro, syntax, notation, axiom, sorry.
-/
import Derived.Test.YtjfcpbedmdnjcaaDoorRows
import GoSem.ClaimSeven
namespace Go.Proofs.YtjfcpbedmdnjcaaDoor
namespace Rows

/-- THE TIED CARD OF 'laws.FnExactAreSigns'. -/
def fnExactAreSignsCard : Claim7 := { stood := { row := fnExactAreSignsRow, standIns := [], harness := (true, "ace4b551035cbab1ba9ddf712ed870d979b6ccf134a83f77dbeb5561e73d0f81"), looks := false }, kinds := [], alts := [], laidByText := true, laidKinds := [.data, .pinned], laidTests := true, laidLooks := .later }
def FnExactAreSignsCardSaid : Prop := Claim7.holds Tryd.pinned (.plain (OpenSpec.ofChange fnExactAreSignsSpec)) fnExactAreSignsCard

/-- THE TIED CARD OF 'laws.FnExactChanceBoth'. -/
def fnExactChanceBothCard : Claim7 := { stood := { row := fnExactChanceBothRow, standIns := [], harness := (true, "ace4b551035cbab1ba9ddf712ed870d979b6ccf134a83f77dbeb5561e73d0f81"), looks := false }, kinds := [], alts := [], laidByText := true, laidKinds := [.data, .pinned], laidTests := true, laidLooks := .later }
def FnExactChanceBothCardSaid : Prop := Claim7.holds Tryd.pinned (.plain (OpenSpec.ofChange fnExactChanceBothSpec)) fnExactChanceBothCard

/-- THE TIED CARD OF 'laws.FnExactChanceOfSigns'. -/
def fnExactChanceOfSignsCard : Claim7 := { stood := { row := fnExactChanceOfSignsRow, standIns := [], harness := (true, "ace4b551035cbab1ba9ddf712ed870d979b6ccf134a83f77dbeb5561e73d0f81"), looks := false }, kinds := [], alts := [], laidByText := true, laidKinds := [.data, .pinned], laidTests := true, laidLooks := .later }
def FnExactChanceOfSignsCardSaid : Prop := Claim7.holds Tryd.pinned (.plain (OpenSpec.ofChange fnExactChanceOfSignsSpec)) fnExactChanceOfSignsCard

/-- THE TIED CARD OF 'laws.FnExactChanceOfDay'. -/
def fnExactChanceOfDayCard : Claim7 := { stood := { row := fnExactChanceOfDayRow, standIns := [], harness := (true, "ace4b551035cbab1ba9ddf712ed870d979b6ccf134a83f77dbeb5561e73d0f81"), looks := false }, kinds := [], alts := [], laidByText := true, laidKinds := [.data, .pinned], laidTests := true, laidLooks := .later }
def FnExactChanceOfDayCardSaid : Prop := Claim7.holds Tryd.pinned (.plain (OpenSpec.ofChange fnExactChanceOfDaySpec)) fnExactChanceOfDayCard

/-- THE TIED CARD OF 'laws.FnExactChanceOfHidden'. -/
def fnExactChanceOfHiddenCard : Claim7 := { stood := { row := fnExactChanceOfHiddenRow, standIns := [], harness := (true, "ace4b551035cbab1ba9ddf712ed870d979b6ccf134a83f77dbeb5561e73d0f81"), looks := false }, kinds := [], alts := [], laidByText := true, laidKinds := [.data, .pinned], laidTests := true, laidLooks := .later }
def FnExactChanceOfHiddenCardSaid : Prop := Claim7.holds Tryd.pinned (.plain (OpenSpec.ofChange fnExactChanceOfHiddenSpec)) fnExactChanceOfHiddenCard

/-- THE TIED CARD OF 'laws.FnExactLikeliestHidden'. -/
def fnExactLikeliestHiddenCard : Claim7 := { stood := { row := fnExactLikeliestHiddenRow, standIns := [], harness := (true, "ace4b551035cbab1ba9ddf712ed870d979b6ccf134a83f77dbeb5561e73d0f81"), looks := false }, kinds := [], alts := [], laidByText := true, laidKinds := [.data, .pinned], laidTests := true, laidLooks := .later }
def FnExactLikeliestHiddenCardSaid : Prop := Claim7.holds Tryd.pinned (.plain (OpenSpec.ofChange fnExactLikeliestHiddenSpec)) fnExactLikeliestHiddenCard

/-- THE TIED CARD OF 'laws.FnExactCountPossible'. -/
def fnExactCountPossibleCard : Claim7 := { stood := { row := fnExactCountPossibleRow, standIns := [], harness := (true, "ace4b551035cbab1ba9ddf712ed870d979b6ccf134a83f77dbeb5561e73d0f81"), looks := false }, kinds := [], alts := [], laidByText := true, laidKinds := [.data, .pinned], laidTests := true, laidLooks := .later }
def FnExactCountPossibleCardSaid : Prop := Claim7.holds Tryd.pinned (.plain (OpenSpec.ofChange fnExactCountPossibleSpec)) fnExactCountPossibleCard

/-- THE TIED CARD OF 'laws.FnExactFirstPossible'. -/
def fnExactFirstPossibleCard : Claim7 := { stood := { row := fnExactFirstPossibleRow, standIns := [], harness := (true, "ace4b551035cbab1ba9ddf712ed870d979b6ccf134a83f77dbeb5561e73d0f81"), looks := false }, kinds := [], alts := [], laidByText := true, laidKinds := [.data, .pinned], laidTests := true, laidLooks := .later }
def FnExactFirstPossibleCardSaid : Prop := Claim7.holds Tryd.pinned (.plain (OpenSpec.ofChange fnExactFirstPossibleSpec)) fnExactFirstPossibleCard

/-- THE TIED CARD OF 'laws.FnExactChanceOfNextSign'. -/
def fnExactChanceOfNextSignCard : Claim7 := { stood := { row := fnExactChanceOfNextSignRow, standIns := [], harness := (true, "ace4b551035cbab1ba9ddf712ed870d979b6ccf134a83f77dbeb5561e73d0f81"), looks := false }, kinds := [], alts := [], laidByText := true, laidKinds := [.data, .pinned], laidTests := true, laidLooks := .later }
def FnExactChanceOfNextSignCardSaid : Prop := Claim7.holds Tryd.pinned (.plain (OpenSpec.ofChange fnExactChanceOfNextSignSpec)) fnExactChanceOfNextSignCard

/-- THE SECOND FORM's CARD OF 'laws.FnExactAreSigns'. -/
def fnExactAreSignsUptoCard : Claim7 := { stood := { row := fnExactAreSignsUptoRow, standIns := [], harness := (true, "ace4b551035cbab1ba9ddf712ed870d979b6ccf134a83f77dbeb5561e73d0f81"), looks := false }, kinds := [], alts := [], laidByText := true, laidKinds := [.data, .pinned], laidTests := true, laidLooks := .later }
def FnExactAreSignsUptoCardSaid : Prop := Claim7.holds Tryd.pinned (.plain (OpenSpec.upto fnExactAreSignsSpec)) fnExactAreSignsUptoCard

/-- THE SECOND FORM's CARD OF 'laws.FnExactChanceBoth'. -/
def fnExactChanceBothUptoCard : Claim7 := { stood := { row := fnExactChanceBothUptoRow, standIns := [], harness := (true, "ace4b551035cbab1ba9ddf712ed870d979b6ccf134a83f77dbeb5561e73d0f81"), looks := false }, kinds := [], alts := [], laidByText := true, laidKinds := [.data, .pinned], laidTests := true, laidLooks := .later }
def FnExactChanceBothUptoCardSaid : Prop := Claim7.holds Tryd.pinned (.plain (OpenSpec.upto fnExactChanceBothSpec)) fnExactChanceBothUptoCard

/-- THE SECOND FORM's CARD OF 'laws.FnExactChanceOfSigns'. -/
def fnExactChanceOfSignsUptoCard : Claim7 := { stood := { row := fnExactChanceOfSignsUptoRow, standIns := [], harness := (true, "ace4b551035cbab1ba9ddf712ed870d979b6ccf134a83f77dbeb5561e73d0f81"), looks := false }, kinds := [], alts := [], laidByText := true, laidKinds := [.data, .pinned], laidTests := true, laidLooks := .later }
def FnExactChanceOfSignsUptoCardSaid : Prop := Claim7.holds Tryd.pinned (.plain (OpenSpec.upto fnExactChanceOfSignsSpec)) fnExactChanceOfSignsUptoCard

/-- THE SECOND FORM's CARD OF 'laws.FnExactChanceOfDay'. -/
def fnExactChanceOfDayUptoCard : Claim7 := { stood := { row := fnExactChanceOfDayUptoRow, standIns := [], harness := (true, "ace4b551035cbab1ba9ddf712ed870d979b6ccf134a83f77dbeb5561e73d0f81"), looks := false }, kinds := [], alts := [], laidByText := true, laidKinds := [.data, .pinned], laidTests := true, laidLooks := .later }
def FnExactChanceOfDayUptoCardSaid : Prop := Claim7.holds Tryd.pinned (.plain (OpenSpec.upto fnExactChanceOfDaySpec)) fnExactChanceOfDayUptoCard

/-- THE SECOND FORM's CARD OF 'laws.FnExactChanceOfHidden'. -/
def fnExactChanceOfHiddenUptoCard : Claim7 := { stood := { row := fnExactChanceOfHiddenUptoRow, standIns := [], harness := (true, "ace4b551035cbab1ba9ddf712ed870d979b6ccf134a83f77dbeb5561e73d0f81"), looks := false }, kinds := [], alts := [], laidByText := true, laidKinds := [.data, .pinned], laidTests := true, laidLooks := .later }
def FnExactChanceOfHiddenUptoCardSaid : Prop := Claim7.holds Tryd.pinned (.plain (OpenSpec.upto fnExactChanceOfHiddenSpec)) fnExactChanceOfHiddenUptoCard

/-- THE SECOND FORM's CARD OF 'laws.FnExactLikeliestHidden'. -/
def fnExactLikeliestHiddenUptoCard : Claim7 := { stood := { row := fnExactLikeliestHiddenUptoRow, standIns := [], harness := (true, "ace4b551035cbab1ba9ddf712ed870d979b6ccf134a83f77dbeb5561e73d0f81"), looks := false }, kinds := [], alts := [], laidByText := true, laidKinds := [.data, .pinned], laidTests := true, laidLooks := .later }
def FnExactLikeliestHiddenUptoCardSaid : Prop := Claim7.holds Tryd.pinned (.plain (OpenSpec.upto fnExactLikeliestHiddenSpec)) fnExactLikeliestHiddenUptoCard

/-- THE SECOND FORM's CARD OF 'laws.FnExactCountPossible'. -/
def fnExactCountPossibleUptoCard : Claim7 := { stood := { row := fnExactCountPossibleUptoRow, standIns := [], harness := (true, "ace4b551035cbab1ba9ddf712ed870d979b6ccf134a83f77dbeb5561e73d0f81"), looks := false }, kinds := [], alts := [], laidByText := true, laidKinds := [.data, .pinned], laidTests := true, laidLooks := .later }
def FnExactCountPossibleUptoCardSaid : Prop := Claim7.holds Tryd.pinned (.plain (OpenSpec.upto fnExactCountPossibleSpec)) fnExactCountPossibleUptoCard

/-- THE SECOND FORM's CARD OF 'laws.FnExactFirstPossible'. -/
def fnExactFirstPossibleUptoCard : Claim7 := { stood := { row := fnExactFirstPossibleUptoRow, standIns := [], harness := (true, "ace4b551035cbab1ba9ddf712ed870d979b6ccf134a83f77dbeb5561e73d0f81"), looks := false }, kinds := [], alts := [], laidByText := true, laidKinds := [.data, .pinned], laidTests := true, laidLooks := .later }
def FnExactFirstPossibleUptoCardSaid : Prop := Claim7.holds Tryd.pinned (.plain (OpenSpec.upto fnExactFirstPossibleSpec)) fnExactFirstPossibleUptoCard

/-- THE SECOND FORM's CARD OF 'laws.FnExactChanceOfNextSign'. -/
def fnExactChanceOfNextSignUptoCard : Claim7 := { stood := { row := fnExactChanceOfNextSignUptoRow, standIns := [], harness := (true, "ace4b551035cbab1ba9ddf712ed870d979b6ccf134a83f77dbeb5561e73d0f81"), looks := false }, kinds := [], alts := [], laidByText := true, laidKinds := [.data, .pinned], laidTests := true, laidLooks := .later }
def FnExactChanceOfNextSignUptoCardSaid : Prop := Claim7.holds Tryd.pinned (.plain (OpenSpec.upto fnExactChanceOfNextSignSpec)) fnExactChanceOfNextSignUptoCard
end Rows
end Go.Proofs.YtjfcpbedmdnjcaaDoor
