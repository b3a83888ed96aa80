/-
  DERIVED. GIVEN WITH THE SEED: THE CARDS: each row of YtdfjfojkheikiaaDoorRows.lean that lists a variable, with what it lists TIED to the program's text (the seventh form; the later family's looks); each row that meets fmt, with fmt's text TOLD by the authors' own Lean function (tested against real Go, not proved from fmt's source: count such statements apart). THE CARD IS WHAT COUNTS. Prove the row's statement (the work); the ties are given (YtdfjfojkheikiaaDoorTie.lean); close each card by the builder's one call (the guide's Derived/Test/ToyasCard.lean, 'card_holds'). Laid BY PROGRAM, IN A SANDBOX (cutbox-door.mjs). By AI agents, Wed Nov 11 2026. No macro, syntax, notation, axiom, sorry.
-/
import Derived.Test.YtdfjfojkheikiaaDoorRows
import GoSem.ClaimSeven
namespace Go.Proofs.YtdfjfojkheikiaaDoor
namespace Rows

/-- THE TIED CARD OF 'laws.FnExactLongestWait'. -/
def fnExactLongestWaitCard : Claim7 := { stood := { row := fnExactLongestWaitRow, standIns := [], harness := (true, "42878f3b89b0e6ee12eab3ada8abd64c98b54e43f22e3dbf7cb8f926c2878721"), looks := true }, kinds := [], alts := [], laidByText := true, laidKinds := [.data, .pinned], laidTests := true, laidLooks := .later }
def FnExactLongestWaitCardSaid : Prop := Claim7.holds Tryd.pinned (.plain (OpenSpec.ofChange fnExactLongestWaitSpec)) fnExactLongestWaitCard

/-- THE TIED CARD OF 'laws.FnExactShortestWait'. -/
def fnExactShortestWaitCard : Claim7 := { stood := { row := fnExactShortestWaitRow, standIns := [], harness := (true, "42878f3b89b0e6ee12eab3ada8abd64c98b54e43f22e3dbf7cb8f926c2878721"), looks := true }, kinds := [], alts := [], laidByText := true, laidKinds := [.data, .pinned], laidTests := true, laidLooks := .later }
def FnExactShortestWaitCardSaid : Prop := Claim7.holds Tryd.pinned (.plain (OpenSpec.ofChange fnExactShortestWaitSpec)) fnExactShortestWaitCard

/-- THE TIED CARD OF 'laws.FnExactTurnPattern'. -/
def fnExactTurnPatternCard : Claim7 := { stood := { row := fnExactTurnPatternRow, standIns := [], harness := (true, "42878f3b89b0e6ee12eab3ada8abd64c98b54e43f22e3dbf7cb8f926c2878721"), looks := true }, kinds := [], alts := [], laidByText := true, laidKinds := [.data, .pinned], laidTests := true, laidLooks := .later }
def FnExactTurnPatternCardSaid : Prop := Claim7.holds Tryd.pinned (.plain (OpenSpec.ofChange fnExactTurnPatternSpec)) fnExactTurnPatternCard

/-- THE SECOND FORM's CARD OF 'laws.FnExactLongestWait'. -/
def fnExactLongestWaitUptoCard : Claim7 := { stood := { row := fnExactLongestWaitUptoRow, standIns := [], harness := (true, "42878f3b89b0e6ee12eab3ada8abd64c98b54e43f22e3dbf7cb8f926c2878721"), looks := true }, kinds := [], alts := [], laidByText := true, laidKinds := [.data, .pinned], laidTests := true, laidLooks := .later }
def FnExactLongestWaitUptoCardSaid : Prop := Claim7.holds Tryd.pinned (.plain (OpenSpec.upto fnExactLongestWaitSpec)) fnExactLongestWaitUptoCard

/-- THE SECOND FORM's CARD OF 'laws.FnExactShortestWait'. -/
def fnExactShortestWaitUptoCard : Claim7 := { stood := { row := fnExactShortestWaitUptoRow, standIns := [], harness := (true, "42878f3b89b0e6ee12eab3ada8abd64c98b54e43f22e3dbf7cb8f926c2878721"), looks := true }, kinds := [], alts := [], laidByText := true, laidKinds := [.data, .pinned], laidTests := true, laidLooks := .later }
def FnExactShortestWaitUptoCardSaid : Prop := Claim7.holds Tryd.pinned (.plain (OpenSpec.upto fnExactShortestWaitSpec)) fnExactShortestWaitUptoCard

/-- THE SECOND FORM's CARD OF 'laws.FnExactTurnPattern'. -/
def fnExactTurnPatternUptoCard : Claim7 := { stood := { row := fnExactTurnPatternUptoRow, standIns := [], harness := (true, "42878f3b89b0e6ee12eab3ada8abd64c98b54e43f22e3dbf7cb8f926c2878721"), looks := true }, kinds := [], alts := [], laidByText := true, laidKinds := [.data, .pinned], laidTests := true, laidLooks := .later }
def FnExactTurnPatternUptoCardSaid : Prop := Claim7.holds Tryd.pinned (.plain (OpenSpec.upto fnExactTurnPatternSpec)) fnExactTurnPatternUptoCard
end Rows
end Go.Proofs.YtdfjfojkheikiaaDoor
