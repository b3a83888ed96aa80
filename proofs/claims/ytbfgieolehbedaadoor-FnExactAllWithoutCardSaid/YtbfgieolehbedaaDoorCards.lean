/-
  DERIVED. GIVEN WITH THE SEED: THE CARDS: each row of YtbfgieolehbedaaDoorRows.lean that lists a variable, with what it lists TIED to the program's text (the seventh form; the later family's looks); each row that meets fmt, with fmt's text TOLD by the authors' own Lean function (tested against real Go, not proved from fmt's source: count such statements apart). THE CARD IS WHAT COUNTS. Prove the row's statement (the work); the ties are given (YtbfgieolehbedaaDoorTie.lean); close each card by the builder's one call (the guide's Derived/Test/ToyasCard.lean, 'card_holds'). Laid BY PROGRAM, IN A SANDBOX (cutbox-door.mjs). By AI agents, Wed Nov 11 2026. No macro, syntax, notation, axiom, sorry.
-/
import Derived.Test.YtbfgieolehbedaaDoorRows
import GoSem.ClaimSeven
namespace Go.Proofs.YtbfgieolehbedaaDoor
namespace Rows

/-- THE TIED CARD OF 'laws.FnExactParseStates'. -/
def fnExactParseStatesCard : Claim7 := { stood := { row := fnExactParseStatesRow, standIns := [], harness := (true, "c8c0f97fd397b2881c3b6ca6e07f2fc75b818270aaa5c9467e9c8dbb9715393c"), looks := true }, kinds := [], alts := [], laidByText := true, laidKinds := [.data, .data, .data, .data, .sentinel, .sentinel, .pinned], laidTests := true, laidLooks := .later }
def FnExactParseStatesCardSaid : Prop := Claim7.holds Tryd.pinned (.plain (OpenSpec.ofChange fnExactParseStatesSpec)) fnExactParseStatesCard

/-- THE TIED CARD OF 'laws.FnExactAllWithout'. -/
def fnExactAllWithoutCard : Claim7 := { stood := { row := fnExactAllWithoutRow, standIns := [], harness := (true, "c8c0f97fd397b2881c3b6ca6e07f2fc75b818270aaa5c9467e9c8dbb9715393c"), looks := true }, kinds := [], alts := [], laidByText := true, laidKinds := [.data, .pinned], laidTests := true, laidLooks := .later }
def FnExactAllWithoutCardSaid : Prop := Claim7.holds Tryd.pinned (.plain (OpenSpec.ofChange fnExactAllWithoutSpec)) fnExactAllWithoutCard

/-- THE SECOND FORM's CARD OF 'laws.FnExactParseStates'. -/
def fnExactParseStatesUptoCard : Claim7 := { stood := { row := fnExactParseStatesUptoRow, standIns := [], harness := (true, "c8c0f97fd397b2881c3b6ca6e07f2fc75b818270aaa5c9467e9c8dbb9715393c"), looks := true }, kinds := [], alts := [], laidByText := true, laidKinds := [.data, .data, .data, .data, .sentinel, .sentinel, .pinned], laidTests := true, laidLooks := .later }
def FnExactParseStatesUptoCardSaid : Prop := Claim7.holds Tryd.pinned (.plain (OpenSpec.upto fnExactParseStatesSpec)) fnExactParseStatesUptoCard

/-- THE SECOND FORM's CARD OF 'laws.FnExactAllWithout'. -/
def fnExactAllWithoutUptoCard : Claim7 := { stood := { row := fnExactAllWithoutUptoRow, standIns := [], harness := (true, "c8c0f97fd397b2881c3b6ca6e07f2fc75b818270aaa5c9467e9c8dbb9715393c"), looks := true }, kinds := [], alts := [], laidByText := true, laidKinds := [.data, .pinned], laidTests := true, laidLooks := .later }
def FnExactAllWithoutUptoCardSaid : Prop := Claim7.holds Tryd.pinned (.plain (OpenSpec.upto fnExactAllWithoutSpec)) fnExactAllWithoutUptoCard
end Rows
end Go.Proofs.YtbfgieolehbedaaDoor
