/-
  DERIVED. GIVEN WITH THE SEED: THE CARDS: each row of YtiblggfihpobkabDoorRows.lean that lists a variable, with what it lists TIED to the program's text (the seventh form; the later family's looks); each row that meets fmt, with fmt's text TOLD by the authors' own Lean function (tested against real Go, not proved from fmt's source: count such statements apart). THE CARD IS WHAT COUNTS. Prove the row's statement (the work); the ties are given (YtiblggfihpobkabDoorTie.lean); close each card by the builder's one call (the guide's Derived/Test/ToyasCard.lean, 'card_holds'). Laid BY PROGRAM, IN A SANDBOX (cutbox-door.mjs). By AI agents, Wed Nov 11 2026. No macro, syntax, notation, axiom, sorry.
-/
import Derived.Test.YtiblggfihpobkabDoorRows
import GoSem.ClaimSeven
namespace Go.Proofs.YtiblggfihpobkabDoor
namespace Rows

/-- THE TIED CARD OF 'laws.FnExactCountTextsWithout'. -/
def fnExactCountTextsWithoutCard : Claim7 := { stood := { row := fnExactCountTextsWithoutRow, standIns := [], harness := (true, "f981f67a0f69f670741b669e77f36725f6d981617798fe6a55e4b6b9054b2afe"), looks := false }, kinds := [], alts := [], laidByText := true, laidKinds := [.data, .pinned], laidTests := true, laidLooks := .later }
def FnExactCountTextsWithoutCardSaid : Prop := Claim7.holds Tryd.pinned (.plain (OpenSpec.ofChange fnExactCountTextsWithoutSpec)) fnExactCountTextsWithoutCard

/-- THE TIED CARD OF 'laws.FnExactCountFirstTyped'. -/
def fnExactCountFirstTypedCard : Claim7 := { stood := { row := fnExactCountFirstTypedRow, standIns := [], harness := (true, "f981f67a0f69f670741b669e77f36725f6d981617798fe6a55e4b6b9054b2afe"), looks := false }, kinds := [], alts := [], laidByText := true, laidKinds := [.data, .pinned], laidTests := true, laidLooks := .later }
def FnExactCountFirstTypedCardSaid : Prop := Claim7.holds Tryd.pinned (.plain (OpenSpec.ofChange fnExactCountFirstTypedSpec)) fnExactCountFirstTypedCard

/-- THE TIED CARD OF 'laws.FnExactShortestWithBoth'. -/
def fnExactShortestWithBothCard : Claim7 := { stood := { row := fnExactShortestWithBothRow, standIns := [], harness := (true, "f981f67a0f69f670741b669e77f36725f6d981617798fe6a55e4b6b9054b2afe"), looks := false }, kinds := [], alts := [], laidByText := true, laidKinds := [.data, .pinned], laidTests := true, laidLooks := .later }
def FnExactShortestWithBothCardSaid : Prop := Claim7.holds Tryd.pinned (.plain (OpenSpec.ofChange fnExactShortestWithBothSpec)) fnExactShortestWithBothCard

/-- THE TIED CARD OF 'laws.FnExactHasAllWords'. -/
def fnExactHasAllWordsCard : Claim7 := { stood := { row := fnExactHasAllWordsRow, standIns := [], harness := (true, "f981f67a0f69f670741b669e77f36725f6d981617798fe6a55e4b6b9054b2afe"), looks := false }, kinds := [], alts := [], laidByText := true, laidKinds := [.data, .pinned], laidTests := true, laidLooks := .later }
def FnExactHasAllWordsCardSaid : Prop := Claim7.holds Tryd.pinned (.plain (OpenSpec.ofChange fnExactHasAllWordsSpec)) fnExactHasAllWordsCard

/-- THE SECOND FORM's CARD OF 'laws.FnExactCountTextsWithout'. -/
def fnExactCountTextsWithoutUptoCard : Claim7 := { stood := { row := fnExactCountTextsWithoutUptoRow, standIns := [], harness := (true, "f981f67a0f69f670741b669e77f36725f6d981617798fe6a55e4b6b9054b2afe"), looks := false }, kinds := [], alts := [], laidByText := true, laidKinds := [.data, .pinned], laidTests := true, laidLooks := .later }
def FnExactCountTextsWithoutUptoCardSaid : Prop := Claim7.holds Tryd.pinned (.plain (OpenSpec.upto fnExactCountTextsWithoutSpec)) fnExactCountTextsWithoutUptoCard

/-- THE SECOND FORM's CARD OF 'laws.FnExactCountFirstTyped'. -/
def fnExactCountFirstTypedUptoCard : Claim7 := { stood := { row := fnExactCountFirstTypedUptoRow, standIns := [], harness := (true, "f981f67a0f69f670741b669e77f36725f6d981617798fe6a55e4b6b9054b2afe"), looks := false }, kinds := [], alts := [], laidByText := true, laidKinds := [.data, .pinned], laidTests := true, laidLooks := .later }
def FnExactCountFirstTypedUptoCardSaid : Prop := Claim7.holds Tryd.pinned (.plain (OpenSpec.upto fnExactCountFirstTypedSpec)) fnExactCountFirstTypedUptoCard

/-- THE SECOND FORM's CARD OF 'laws.FnExactShortestWithBoth'. -/
def fnExactShortestWithBothUptoCard : Claim7 := { stood := { row := fnExactShortestWithBothUptoRow, standIns := [], harness := (true, "f981f67a0f69f670741b669e77f36725f6d981617798fe6a55e4b6b9054b2afe"), looks := false }, kinds := [], alts := [], laidByText := true, laidKinds := [.data, .pinned], laidTests := true, laidLooks := .later }
def FnExactShortestWithBothUptoCardSaid : Prop := Claim7.holds Tryd.pinned (.plain (OpenSpec.upto fnExactShortestWithBothSpec)) fnExactShortestWithBothUptoCard

/-- THE SECOND FORM's CARD OF 'laws.FnExactHasAllWords'. -/
def fnExactHasAllWordsUptoCard : Claim7 := { stood := { row := fnExactHasAllWordsUptoRow, standIns := [], harness := (true, "f981f67a0f69f670741b669e77f36725f6d981617798fe6a55e4b6b9054b2afe"), looks := false }, kinds := [], alts := [], laidByText := true, laidKinds := [.data, .pinned], laidTests := true, laidLooks := .later }
def FnExactHasAllWordsUptoCardSaid : Prop := Claim7.holds Tryd.pinned (.plain (OpenSpec.upto fnExactHasAllWordsSpec)) fnExactHasAllWordsUptoCard
end Rows
end Go.Proofs.YtiblggfihpobkabDoor
