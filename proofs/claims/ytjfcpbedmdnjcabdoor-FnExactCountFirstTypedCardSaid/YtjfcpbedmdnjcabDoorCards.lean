/-
  DERIVED. GIVEN WITH THE SEED: THE CARDS: each row of YtjfcpbedmdnjcabDoorRows.lean that lists a variable, with what it lists TIED to the program's text (the seventh form; the later family's looks); each row that meets fmt, with fmt's text TOLD by the authors' own Lean function (tested against real Go, not proved from fmt's source: count such statements apart). THE CARD IS WHAT COUNTS. Prove the row's statement (the work); the ties are given (YtjfcpbedmdnjcabDoorTie.lean); close each card by the builder's one call (the guide's Derived/Test/ToyasCard.lean, 'card_holds'). Laid BY PROGRAM, IN A SANDBOX (cutbox-door.mjs). By AI agents, Wed Nov 11 2026. No macro, syntax, notation, axiom, sorry.
-/
import Derived.Test.YtjfcpbedmdnjcabDoorRows
import GoSem.ClaimSeven
namespace Go.Proofs.YtjfcpbedmdnjcabDoor
namespace Rows

/-- THE TIED CARD OF 'laws.FnExactDayByDay'. -/
def fnExactDayByDayCard : Claim7 := { stood := { row := fnExactDayByDayRow, standIns := [], harness := (true, "bb227497df83dc3980bd3b9cc797e078c95497e259d7c40449e7c4dc90ff4ac4"), looks := true }, kinds := [], alts := [], laidByText := true, laidKinds := [.data, .pinned], laidTests := true, laidLooks := .later }
def FnExactDayByDayCardSaid : Prop := Claim7.holds Tryd.pinned (.plain (OpenSpec.ofChange fnExactDayByDaySpec)) fnExactDayByDayCard

/-- THE TIED CARD OF 'laws.FnExactHiddenText'. -/
def fnExactHiddenTextCard : Claim7 := { stood := { row := fnExactHiddenTextRow, standIns := [], harness := (true, "bb227497df83dc3980bd3b9cc797e078c95497e259d7c40449e7c4dc90ff4ac4"), looks := true }, kinds := [], alts := [], laidByText := true, laidKinds := [.data, .data, .data], laidTests := true, laidLooks := .later }
def FnExactHiddenTextCardSaid : Prop := Claim7.holds Tryd.pinned (.plain (OpenSpec.ofChange fnExactHiddenTextSpec)) fnExactHiddenTextCard

/-- THE TIED CARD OF 'laws.FnExactParseHidden'. -/
def fnExactParseHiddenCard : Claim7 := { stood := { row := fnExactParseHiddenRow, standIns := [], harness := (true, "bb227497df83dc3980bd3b9cc797e078c95497e259d7c40449e7c4dc90ff4ac4"), looks := true }, kinds := [], alts := [], laidByText := true, laidKinds := [.data, .data, .data, .sentinel, .sentinel], laidTests := true, laidLooks := .later }
def FnExactParseHiddenCardSaid : Prop := Claim7.holds Tryd.pinned (.plain (OpenSpec.ofChange fnExactParseHiddenSpec)) fnExactParseHiddenCard

/-- THE TIED CARD OF 'laws.FnExactCountTextsWithout'. -/
def fnExactCountTextsWithoutCard : Claim7 := { stood := { row := fnExactCountTextsWithoutRow, standIns := [], harness := (true, "bb227497df83dc3980bd3b9cc797e078c95497e259d7c40449e7c4dc90ff4ac4"), looks := true }, kinds := [], alts := [], laidByText := true, laidKinds := [.data, .pinned], laidTests := true, laidLooks := .later }
def FnExactCountTextsWithoutCardSaid : Prop := Claim7.holds Tryd.pinned (.plain (OpenSpec.ofChange fnExactCountTextsWithoutSpec)) fnExactCountTextsWithoutCard

/-- THE TIED CARD OF 'laws.FnExactCountFirstTyped'. -/
def fnExactCountFirstTypedCard : Claim7 := { stood := { row := fnExactCountFirstTypedRow, standIns := [], harness := (true, "bb227497df83dc3980bd3b9cc797e078c95497e259d7c40449e7c4dc90ff4ac4"), looks := true }, kinds := [], alts := [], laidByText := true, laidKinds := [.data, .pinned], laidTests := true, laidLooks := .later }
def FnExactCountFirstTypedCardSaid : Prop := Claim7.holds Tryd.pinned (.plain (OpenSpec.ofChange fnExactCountFirstTypedSpec)) fnExactCountFirstTypedCard

/-- THE SECOND FORM's CARD OF 'laws.FnExactDayByDay'. -/
def fnExactDayByDayUptoCard : Claim7 := { stood := { row := fnExactDayByDayUptoRow, standIns := [], harness := (true, "bb227497df83dc3980bd3b9cc797e078c95497e259d7c40449e7c4dc90ff4ac4"), looks := true }, kinds := [], alts := [], laidByText := true, laidKinds := [.data, .pinned], laidTests := true, laidLooks := .later }
def FnExactDayByDayUptoCardSaid : Prop := Claim7.holds Tryd.pinned (.plain (OpenSpec.upto fnExactDayByDaySpec)) fnExactDayByDayUptoCard

/-- THE SECOND FORM's CARD OF 'laws.FnExactHiddenText'. -/
def fnExactHiddenTextUptoCard : Claim7 := { stood := { row := fnExactHiddenTextUptoRow, standIns := [], harness := (true, "bb227497df83dc3980bd3b9cc797e078c95497e259d7c40449e7c4dc90ff4ac4"), looks := true }, kinds := [], alts := [], laidByText := true, laidKinds := [.data, .data, .data], laidTests := true, laidLooks := .later }
def FnExactHiddenTextUptoCardSaid : Prop := Claim7.holds Tryd.pinned (.plain (OpenSpec.upto fnExactHiddenTextSpec)) fnExactHiddenTextUptoCard

/-- THE SECOND FORM's CARD OF 'laws.FnExactParseHidden'. -/
def fnExactParseHiddenUptoCard : Claim7 := { stood := { row := fnExactParseHiddenUptoRow, standIns := [], harness := (true, "bb227497df83dc3980bd3b9cc797e078c95497e259d7c40449e7c4dc90ff4ac4"), looks := true }, kinds := [], alts := [], laidByText := true, laidKinds := [.data, .data, .data, .sentinel, .sentinel], laidTests := true, laidLooks := .later }
def FnExactParseHiddenUptoCardSaid : Prop := Claim7.holds Tryd.pinned (.plain (OpenSpec.upto fnExactParseHiddenSpec)) fnExactParseHiddenUptoCard

/-- THE SECOND FORM's CARD OF 'laws.FnExactCountTextsWithout'. -/
def fnExactCountTextsWithoutUptoCard : Claim7 := { stood := { row := fnExactCountTextsWithoutUptoRow, standIns := [], harness := (true, "bb227497df83dc3980bd3b9cc797e078c95497e259d7c40449e7c4dc90ff4ac4"), looks := true }, kinds := [], alts := [], laidByText := true, laidKinds := [.data, .pinned], laidTests := true, laidLooks := .later }
def FnExactCountTextsWithoutUptoCardSaid : Prop := Claim7.holds Tryd.pinned (.plain (OpenSpec.upto fnExactCountTextsWithoutSpec)) fnExactCountTextsWithoutUptoCard

/-- THE SECOND FORM's CARD OF 'laws.FnExactCountFirstTyped'. -/
def fnExactCountFirstTypedUptoCard : Claim7 := { stood := { row := fnExactCountFirstTypedUptoRow, standIns := [], harness := (true, "bb227497df83dc3980bd3b9cc797e078c95497e259d7c40449e7c4dc90ff4ac4"), looks := true }, kinds := [], alts := [], laidByText := true, laidKinds := [.data, .pinned], laidTests := true, laidLooks := .later }
def FnExactCountFirstTypedUptoCardSaid : Prop := Claim7.holds Tryd.pinned (.plain (OpenSpec.upto fnExactCountFirstTypedSpec)) fnExactCountFirstTypedUptoCard
end Rows
end Go.Proofs.YtjfcpbedmdnjcabDoor
