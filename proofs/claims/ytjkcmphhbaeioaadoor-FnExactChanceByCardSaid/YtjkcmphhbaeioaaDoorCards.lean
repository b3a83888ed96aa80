/-
  DERIVED. GIVEN WITH THE SEED: THE CARDS: each row of YtjkcmphhbaeioaaDoorRows.lean that lists a variable, with what it lists TIED to the program's text (the seventh form; the later family's looks); each row that meets fmt, with fmt's text TOLD by the authors' own Lean function (tested against real Go, not proved from fmt's source: count such statements apart). THE CARD IS WHAT COUNTS. Prove the row's statement (the work); the ties are given (YtjkcmphhbaeioaaDoorTie.lean); close each card by the builder's one call (the guide's Derived/Test/ToyasCard.lean, 'card_holds'). Laid BY PROGRAM, IN A SANDBOX (cutbox-door.mjs). By AI agents, Wed Nov 11 2026. No macro, syntax, notation, axiom, sorry.
-/
import Derived.Test.YtjkcmphhbaeioaaDoorRows
import GoSem.ClaimSeven
namespace Go.Proofs.YtjkcmphhbaeioaaDoor
namespace Rows

/-- THE TIED CARD OF 'laws.FnExactParseChain'. -/
def fnExactParseChainCard : Claim7 := { stood := { row := fnExactParseChainRow, standIns := [], harness := (true, "6cba2195cc243b189bab7d645173b3acb2f322e2ac3b7d91fecb8f7bf46140b7"), looks := true }, kinds := [], alts := [], laidByText := true, laidKinds := [.data, .data, .data, .sentinel, .sentinel], laidTests := true, laidLooks := .later }
def FnExactParseChainCardSaid : Prop := Claim7.holds Tryd.pinned (.plain (OpenSpec.ofChange fnExactParseChainSpec)) fnExactParseChainCard

/-- THE TIED CARD OF 'laws.FnExactCountWithout'. -/
def fnExactCountWithoutCard : Claim7 := { stood := { row := fnExactCountWithoutRow, standIns := [], harness := (true, "6cba2195cc243b189bab7d645173b3acb2f322e2ac3b7d91fecb8f7bf46140b7"), looks := true }, kinds := [], alts := [], laidByText := true, laidKinds := [.data, .pinned], laidTests := true, laidLooks := .later }
def FnExactCountWithoutCardSaid : Prop := Claim7.holds Tryd.pinned (.plain (OpenSpec.ofChange fnExactCountWithoutSpec)) fnExactCountWithoutCard

/-- THE TIED CARD OF 'laws.FnExactCountFirstAt'. -/
def fnExactCountFirstAtCard : Claim7 := { stood := { row := fnExactCountFirstAtRow, standIns := [], harness := (true, "6cba2195cc243b189bab7d645173b3acb2f322e2ac3b7d91fecb8f7bf46140b7"), looks := true }, kinds := [], alts := [], laidByText := true, laidKinds := [.data, .pinned], laidTests := true, laidLooks := .later }
def FnExactCountFirstAtCardSaid : Prop := Claim7.holds Tryd.pinned (.plain (OpenSpec.ofChange fnExactCountFirstAtSpec)) fnExactCountFirstAtCard

/-- THE TIED CARD OF 'laws.FnExactChanceBy'. -/
def fnExactChanceByCard : Claim7 := { stood := { row := fnExactChanceByRow, standIns := [], harness := (true, "6cba2195cc243b189bab7d645173b3acb2f322e2ac3b7d91fecb8f7bf46140b7"), looks := true }, kinds := [], alts := [], laidByText := true, laidKinds := [.data, .pinned], laidTests := true, laidLooks := .later }
def FnExactChanceByCardSaid : Prop := Claim7.holds Tryd.pinned (.plain (OpenSpec.ofChange fnExactChanceBySpec)) fnExactChanceByCard

/-- THE TIED CARD OF 'laws.FnExactAllWithout'. -/
def fnExactAllWithoutCard : Claim7 := { stood := { row := fnExactAllWithoutRow, standIns := [], harness := (true, "6cba2195cc243b189bab7d645173b3acb2f322e2ac3b7d91fecb8f7bf46140b7"), looks := true }, kinds := [], alts := [], laidByText := true, laidKinds := [.data, .pinned], laidTests := true, laidLooks := .later }
def FnExactAllWithoutCardSaid : Prop := Claim7.holds Tryd.pinned (.plain (OpenSpec.ofChange fnExactAllWithoutSpec)) fnExactAllWithoutCard

/-- THE TIED CARD OF 'laws.FnExactParseCoin'. -/
def fnExactParseCoinCard : Claim7 := { stood := { row := fnExactParseCoinRow, standIns := [], harness := (true, "6cba2195cc243b189bab7d645173b3acb2f322e2ac3b7d91fecb8f7bf46140b7"), looks := true }, kinds := [], alts := [], laidByText := true, laidKinds := [.data, .data, .data, .sentinel, .sentinel], laidTests := true, laidLooks := .later }
def FnExactParseCoinCardSaid : Prop := Claim7.holds Tryd.pinned (.plain (OpenSpec.ofChange fnExactParseCoinSpec)) fnExactParseCoinCard

/-- THE SECOND FORM's CARD OF 'laws.FnExactParseChain'. -/
def fnExactParseChainUptoCard : Claim7 := { stood := { row := fnExactParseChainUptoRow, standIns := [], harness := (true, "6cba2195cc243b189bab7d645173b3acb2f322e2ac3b7d91fecb8f7bf46140b7"), looks := true }, kinds := [], alts := [], laidByText := true, laidKinds := [.data, .data, .data, .sentinel, .sentinel], laidTests := true, laidLooks := .later }
def FnExactParseChainUptoCardSaid : Prop := Claim7.holds Tryd.pinned (.plain (OpenSpec.upto fnExactParseChainSpec)) fnExactParseChainUptoCard

/-- THE SECOND FORM's CARD OF 'laws.FnExactCountWithout'. -/
def fnExactCountWithoutUptoCard : Claim7 := { stood := { row := fnExactCountWithoutUptoRow, standIns := [], harness := (true, "6cba2195cc243b189bab7d645173b3acb2f322e2ac3b7d91fecb8f7bf46140b7"), looks := true }, kinds := [], alts := [], laidByText := true, laidKinds := [.data, .pinned], laidTests := true, laidLooks := .later }
def FnExactCountWithoutUptoCardSaid : Prop := Claim7.holds Tryd.pinned (.plain (OpenSpec.upto fnExactCountWithoutSpec)) fnExactCountWithoutUptoCard

/-- THE SECOND FORM's CARD OF 'laws.FnExactCountFirstAt'. -/
def fnExactCountFirstAtUptoCard : Claim7 := { stood := { row := fnExactCountFirstAtUptoRow, standIns := [], harness := (true, "6cba2195cc243b189bab7d645173b3acb2f322e2ac3b7d91fecb8f7bf46140b7"), looks := true }, kinds := [], alts := [], laidByText := true, laidKinds := [.data, .pinned], laidTests := true, laidLooks := .later }
def FnExactCountFirstAtUptoCardSaid : Prop := Claim7.holds Tryd.pinned (.plain (OpenSpec.upto fnExactCountFirstAtSpec)) fnExactCountFirstAtUptoCard

/-- THE SECOND FORM's CARD OF 'laws.FnExactChanceBy'. -/
def fnExactChanceByUptoCard : Claim7 := { stood := { row := fnExactChanceByUptoRow, standIns := [], harness := (true, "6cba2195cc243b189bab7d645173b3acb2f322e2ac3b7d91fecb8f7bf46140b7"), looks := true }, kinds := [], alts := [], laidByText := true, laidKinds := [.data, .pinned], laidTests := true, laidLooks := .later }
def FnExactChanceByUptoCardSaid : Prop := Claim7.holds Tryd.pinned (.plain (OpenSpec.upto fnExactChanceBySpec)) fnExactChanceByUptoCard

/-- THE SECOND FORM's CARD OF 'laws.FnExactAllWithout'. -/
def fnExactAllWithoutUptoCard : Claim7 := { stood := { row := fnExactAllWithoutUptoRow, standIns := [], harness := (true, "6cba2195cc243b189bab7d645173b3acb2f322e2ac3b7d91fecb8f7bf46140b7"), looks := true }, kinds := [], alts := [], laidByText := true, laidKinds := [.data, .pinned], laidTests := true, laidLooks := .later }
def FnExactAllWithoutUptoCardSaid : Prop := Claim7.holds Tryd.pinned (.plain (OpenSpec.upto fnExactAllWithoutSpec)) fnExactAllWithoutUptoCard

/-- THE SECOND FORM's CARD OF 'laws.FnExactParseCoin'. -/
def fnExactParseCoinUptoCard : Claim7 := { stood := { row := fnExactParseCoinUptoRow, standIns := [], harness := (true, "6cba2195cc243b189bab7d645173b3acb2f322e2ac3b7d91fecb8f7bf46140b7"), looks := true }, kinds := [], alts := [], laidByText := true, laidKinds := [.data, .data, .data, .sentinel, .sentinel], laidTests := true, laidLooks := .later }
def FnExactParseCoinUptoCardSaid : Prop := Claim7.holds Tryd.pinned (.plain (OpenSpec.upto fnExactParseCoinSpec)) fnExactParseCoinUptoCard
end Rows
end Go.Proofs.YtjkcmphhbaeioaaDoor
