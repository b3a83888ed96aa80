/-
  DERIVED. GIVEN WITH THE SEED: THE CARDS: each row of YthnjkjdfdhdcfaaDoorRows.lean that lists a variable, with what it lists TIED to the program's text (the seventh form; the later family's looks); each row that meets fmt, with fmt's text TOLD by the authors' own Lean function (tested against real Go, not proved from fmt's source: count such statements apart). THE CARD IS WHAT COUNTS. Prove the row's statement (the work); the ties are given (YthnjkjdfdhdcfaaDoorTie.lean); close each card by the builder's one call (the guide's Derived/Test/ToyasCard.lean, 'card_holds'). Laid BY PROGRAM, IN A SANDBOX (cutbox-door.mjs). By AI agents, Wed Nov 11 2026. No macro, syntax, notation, axiom, sorry.
-/
import Derived.Test.YthnjkjdfdhdcfaaDoorRows
import GoSem.ClaimSeven
namespace Go.Proofs.YthnjkjdfdhdcfaaDoor
namespace Rows

/-- THE TIED CARD OF 'laws.FnExactStatesText'. -/
def fnExactStatesTextCard : Claim7 := { stood := { row := fnExactStatesTextRow, standIns := [], harness := (true, "72aef2f5d605b3393b2a9b1f6dee6164d9944457e688e43e834bdb501a6bf6c7"), looks := true }, kinds := [], alts := [], laidByText := true, laidKinds := [.data, .data, .data], laidTests := true, laidLooks := .later }
def FnExactStatesTextCardSaid : Prop := Claim7.holds Tryd.pinned (.plain (OpenSpec.ofChange fnExactStatesTextSpec)) fnExactStatesTextCard

/-- THE TIED CARD OF 'laws.FnExactParseStates'. -/
def fnExactParseStatesCard : Claim7 := { stood := { row := fnExactParseStatesRow, standIns := [], harness := (true, "72aef2f5d605b3393b2a9b1f6dee6164d9944457e688e43e834bdb501a6bf6c7"), looks := true }, kinds := [], alts := [], laidByText := true, laidKinds := [.data, .data, .data, .data, .sentinel, .sentinel, .pinned], laidTests := true, laidLooks := .later }
def FnExactParseStatesCardSaid : Prop := Claim7.holds Tryd.pinned (.plain (OpenSpec.ofChange fnExactParseStatesSpec)) fnExactParseStatesCard

/-- THE SECOND FORM's CARD OF 'laws.FnExactStatesText'. -/
def fnExactStatesTextUptoCard : Claim7 := { stood := { row := fnExactStatesTextUptoRow, standIns := [], harness := (true, "72aef2f5d605b3393b2a9b1f6dee6164d9944457e688e43e834bdb501a6bf6c7"), looks := true }, kinds := [], alts := [], laidByText := true, laidKinds := [.data, .data, .data], laidTests := true, laidLooks := .later }
def FnExactStatesTextUptoCardSaid : Prop := Claim7.holds Tryd.pinned (.plain (OpenSpec.upto fnExactStatesTextSpec)) fnExactStatesTextUptoCard

/-- THE SECOND FORM's CARD OF 'laws.FnExactParseStates'. -/
def fnExactParseStatesUptoCard : Claim7 := { stood := { row := fnExactParseStatesUptoRow, standIns := [], harness := (true, "72aef2f5d605b3393b2a9b1f6dee6164d9944457e688e43e834bdb501a6bf6c7"), looks := true }, kinds := [], alts := [], laidByText := true, laidKinds := [.data, .data, .data, .data, .sentinel, .sentinel, .pinned], laidTests := true, laidLooks := .later }
def FnExactParseStatesUptoCardSaid : Prop := Claim7.holds Tryd.pinned (.plain (OpenSpec.upto fnExactParseStatesSpec)) fnExactParseStatesUptoCard
end Rows
end Go.Proofs.YthnjkjdfdhdcfaaDoor
