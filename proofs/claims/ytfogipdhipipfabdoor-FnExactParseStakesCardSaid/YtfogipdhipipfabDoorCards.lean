/-
  DERIVED. GIVEN WITH THE SEED: THE CARDS: each row of YtfogipdhipipfabDoorRows.lean that lists a variable, with what it lists TIED to the program's text (the seventh form; the later family's looks); each row that meets fmt, with fmt's text TOLD by the authors' own Lean function (tested against real Go, not proved from fmt's source: count such statements apart). THE CARD IS WHAT COUNTS. Prove the row's statement (the work); the ties are given (YtfogipdhipipfabDoorTie.lean); close each card by the builder's one call (the guide's Derived/Test/ToyasCard.lean, 'card_holds'). Laid BY PROGRAM, IN A SANDBOX (cutbox-door.mjs). By AI agents, Wed Nov 11 2026. No macro, syntax, notation, axiom, sorry.
-/
import Derived.Test.YtfogipdhipipfabDoorRows
import GoSem.ClaimSeven
namespace Go.Proofs.YtfogipdhipipfabDoor
namespace Rows

/-- THE TIED CARD OF 'laws.FnExactBoldPath'. -/
def fnExactBoldPathCard : Claim7 := { stood := { row := fnExactBoldPathRow, standIns := [], harness := (true, "3b035a71b26433e9c914dc86c7209f90c4f1b52a8717f0c0dfad87513c539e49"), looks := true }, kinds := [], alts := [], laidByText := true, laidKinds := [.data, .pinned], laidTests := true, laidLooks := .later }
def FnExactBoldPathCardSaid : Prop := Claim7.holds Tryd.pinned (.plain (OpenSpec.ofChange fnExactBoldPathSpec)) fnExactBoldPathCard

/-- THE TIED CARD OF 'laws.FnExactPlayStakes'. -/
def fnExactPlayStakesCard : Claim7 := { stood := { row := fnExactPlayStakesRow, standIns := [], harness := (true, "3b035a71b26433e9c914dc86c7209f90c4f1b52a8717f0c0dfad87513c539e49"), looks := true }, kinds := [], alts := [], laidByText := true, laidKinds := [.data, .pinned], laidTests := true, laidLooks := .later }
def FnExactPlayStakesCardSaid : Prop := Claim7.holds Tryd.pinned (.plain (OpenSpec.ofChange fnExactPlayStakesSpec)) fnExactPlayStakesCard

/-- THE TIED CARD OF 'laws.FnExactStakesText'. -/
def fnExactStakesTextCard : Claim7 := { stood := { row := fnExactStakesTextRow, standIns := [], harness := (true, "3b035a71b26433e9c914dc86c7209f90c4f1b52a8717f0c0dfad87513c539e49"), looks := true }, kinds := [], alts := [], laidByText := true, laidKinds := [.data, .data, .data], laidTests := true, laidLooks := .later }
def FnExactStakesTextCardSaid : Prop := Claim7.holds Tryd.pinned (.plain (OpenSpec.ofChange fnExactStakesTextSpec)) fnExactStakesTextCard

/-- THE TIED CARD OF 'laws.FnExactParseStakes'. -/
def fnExactParseStakesCard : Claim7 := { stood := { row := fnExactParseStakesRow, standIns := [], harness := (true, "3b035a71b26433e9c914dc86c7209f90c4f1b52a8717f0c0dfad87513c539e49"), looks := true }, kinds := [], alts := [], laidByText := true, laidKinds := [.data, .data, .data, .sentinel, .sentinel], laidTests := true, laidLooks := .later }
def FnExactParseStakesCardSaid : Prop := Claim7.holds Tryd.pinned (.plain (OpenSpec.ofChange fnExactParseStakesSpec)) fnExactParseStakesCard

/-- THE TIED CARD OF 'laws.FnExactParseStates'. -/
def fnExactParseStatesCard : Claim7 := { stood := { row := fnExactParseStatesRow, standIns := [], harness := (true, "3b035a71b26433e9c914dc86c7209f90c4f1b52a8717f0c0dfad87513c539e49"), looks := true }, kinds := [], alts := [], laidByText := true, laidKinds := [.data, .data, .data, .data, .sentinel, .sentinel, .pinned], laidTests := true, laidLooks := .later }
def FnExactParseStatesCardSaid : Prop := Claim7.holds Tryd.pinned (.plain (OpenSpec.ofChange fnExactParseStatesSpec)) fnExactParseStatesCard

/-- THE TIED CARD OF 'laws.FnExactAllWithout'. -/
def fnExactAllWithoutCard : Claim7 := { stood := { row := fnExactAllWithoutRow, standIns := [], harness := (true, "3b035a71b26433e9c914dc86c7209f90c4f1b52a8717f0c0dfad87513c539e49"), looks := true }, kinds := [], alts := [], laidByText := true, laidKinds := [.data, .pinned], laidTests := true, laidLooks := .later }
def FnExactAllWithoutCardSaid : Prop := Claim7.holds Tryd.pinned (.plain (OpenSpec.ofChange fnExactAllWithoutSpec)) fnExactAllWithoutCard

/-- THE SECOND FORM's CARD OF 'laws.FnExactBoldPath'. -/
def fnExactBoldPathUptoCard : Claim7 := { stood := { row := fnExactBoldPathUptoRow, standIns := [], harness := (true, "3b035a71b26433e9c914dc86c7209f90c4f1b52a8717f0c0dfad87513c539e49"), looks := true }, kinds := [], alts := [], laidByText := true, laidKinds := [.data, .pinned], laidTests := true, laidLooks := .later }
def FnExactBoldPathUptoCardSaid : Prop := Claim7.holds Tryd.pinned (.plain (OpenSpec.upto fnExactBoldPathSpec)) fnExactBoldPathUptoCard

/-- THE SECOND FORM's CARD OF 'laws.FnExactPlayStakes'. -/
def fnExactPlayStakesUptoCard : Claim7 := { stood := { row := fnExactPlayStakesUptoRow, standIns := [], harness := (true, "3b035a71b26433e9c914dc86c7209f90c4f1b52a8717f0c0dfad87513c539e49"), looks := true }, kinds := [], alts := [], laidByText := true, laidKinds := [.data, .pinned], laidTests := true, laidLooks := .later }
def FnExactPlayStakesUptoCardSaid : Prop := Claim7.holds Tryd.pinned (.plain (OpenSpec.upto fnExactPlayStakesSpec)) fnExactPlayStakesUptoCard

/-- THE SECOND FORM's CARD OF 'laws.FnExactStakesText'. -/
def fnExactStakesTextUptoCard : Claim7 := { stood := { row := fnExactStakesTextUptoRow, standIns := [], harness := (true, "3b035a71b26433e9c914dc86c7209f90c4f1b52a8717f0c0dfad87513c539e49"), looks := true }, kinds := [], alts := [], laidByText := true, laidKinds := [.data, .data, .data], laidTests := true, laidLooks := .later }
def FnExactStakesTextUptoCardSaid : Prop := Claim7.holds Tryd.pinned (.plain (OpenSpec.upto fnExactStakesTextSpec)) fnExactStakesTextUptoCard

/-- THE SECOND FORM's CARD OF 'laws.FnExactParseStakes'. -/
def fnExactParseStakesUptoCard : Claim7 := { stood := { row := fnExactParseStakesUptoRow, standIns := [], harness := (true, "3b035a71b26433e9c914dc86c7209f90c4f1b52a8717f0c0dfad87513c539e49"), looks := true }, kinds := [], alts := [], laidByText := true, laidKinds := [.data, .data, .data, .sentinel, .sentinel], laidTests := true, laidLooks := .later }
def FnExactParseStakesUptoCardSaid : Prop := Claim7.holds Tryd.pinned (.plain (OpenSpec.upto fnExactParseStakesSpec)) fnExactParseStakesUptoCard

/-- THE SECOND FORM's CARD OF 'laws.FnExactParseStates'. -/
def fnExactParseStatesUptoCard : Claim7 := { stood := { row := fnExactParseStatesUptoRow, standIns := [], harness := (true, "3b035a71b26433e9c914dc86c7209f90c4f1b52a8717f0c0dfad87513c539e49"), looks := true }, kinds := [], alts := [], laidByText := true, laidKinds := [.data, .data, .data, .data, .sentinel, .sentinel, .pinned], laidTests := true, laidLooks := .later }
def FnExactParseStatesUptoCardSaid : Prop := Claim7.holds Tryd.pinned (.plain (OpenSpec.upto fnExactParseStatesSpec)) fnExactParseStatesUptoCard

/-- THE SECOND FORM's CARD OF 'laws.FnExactAllWithout'. -/
def fnExactAllWithoutUptoCard : Claim7 := { stood := { row := fnExactAllWithoutUptoRow, standIns := [], harness := (true, "3b035a71b26433e9c914dc86c7209f90c4f1b52a8717f0c0dfad87513c539e49"), looks := true }, kinds := [], alts := [], laidByText := true, laidKinds := [.data, .pinned], laidTests := true, laidLooks := .later }
def FnExactAllWithoutUptoCardSaid : Prop := Claim7.holds Tryd.pinned (.plain (OpenSpec.upto fnExactAllWithoutSpec)) fnExactAllWithoutUptoCard
end Rows
end Go.Proofs.YtfogipdhipipfabDoor
