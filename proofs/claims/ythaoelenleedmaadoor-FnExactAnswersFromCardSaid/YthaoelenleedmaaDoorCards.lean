/-
  DERIVED. GIVEN WITH THE SEED: THE CARDS: each row of YthaoelenleedmaaDoorRows.lean that lists a variable, with what it lists TIED to the program's text (the seventh form; the later family's looks); each row that meets fmt, with fmt's text TOLD by the authors' own Lean function (tested against real Go, not proved from fmt's source: count such statements apart). THE CARD IS WHAT COUNTS. Prove the row's statement (the work); the ties are given (YthaoelenleedmaaDoorTie.lean); close each card by the builder's one call (the guide's Derived/Test/ToyasCard.lean, 'card_holds'). Laid BY PROGRAM, IN A SANDBOX (cutbox-door.mjs). By AI agents, Wed Nov 11 2026. No macro, syntax, notation, axiom, sorry.
-/
import Derived.Test.YthaoelenleedmaaDoorRows
import GoSem.ClaimSeven
namespace Go.Proofs.YthaoelenleedmaaDoor
namespace Rows

/-- THE TIED CARD OF 'laws.FnExactAnswersFrom'. -/
def fnExactAnswersFromCard : Claim7 := { stood := { row := fnExactAnswersFromRow, standIns := [], harness := (true, "58dd78fbb4593cbe383a9cfabdfa872a315e31b6afaaa16fdf9685b8fc994155"), looks := false }, kinds := [], alts := [], laidByText := true, laidKinds := [.data, .pinned], laidTests := true, laidLooks := .later }
def FnExactAnswersFromCardSaid : Prop := Claim7.holds Tryd.pinned (.plain (OpenSpec.ofChange fnExactAnswersFromSpec)) fnExactAnswersFromCard

/-- THE TIED CARD OF 'laws.FnExactAllWithout'. -/
def fnExactAllWithoutCard : Claim7 := { stood := { row := fnExactAllWithoutRow, standIns := [], harness := (true, "58dd78fbb4593cbe383a9cfabdfa872a315e31b6afaaa16fdf9685b8fc994155"), looks := false }, kinds := [], alts := [], laidByText := true, laidKinds := [.data, .pinned], laidTests := true, laidLooks := .later }
def FnExactAllWithoutCardSaid : Prop := Claim7.holds Tryd.pinned (.plain (OpenSpec.ofChange fnExactAllWithoutSpec)) fnExactAllWithoutCard

/-- THE SECOND FORM's CARD OF 'laws.FnExactAnswersFrom'. -/
def fnExactAnswersFromUptoCard : Claim7 := { stood := { row := fnExactAnswersFromUptoRow, standIns := [], harness := (true, "58dd78fbb4593cbe383a9cfabdfa872a315e31b6afaaa16fdf9685b8fc994155"), looks := false }, kinds := [], alts := [], laidByText := true, laidKinds := [.data, .pinned], laidTests := true, laidLooks := .later }
def FnExactAnswersFromUptoCardSaid : Prop := Claim7.holds Tryd.pinned (.plain (OpenSpec.upto fnExactAnswersFromSpec)) fnExactAnswersFromUptoCard

/-- THE SECOND FORM's CARD OF 'laws.FnExactAllWithout'. -/
def fnExactAllWithoutUptoCard : Claim7 := { stood := { row := fnExactAllWithoutUptoRow, standIns := [], harness := (true, "58dd78fbb4593cbe383a9cfabdfa872a315e31b6afaaa16fdf9685b8fc994155"), looks := false }, kinds := [], alts := [], laidByText := true, laidKinds := [.data, .pinned], laidTests := true, laidLooks := .later }
def FnExactAllWithoutUptoCardSaid : Prop := Claim7.holds Tryd.pinned (.plain (OpenSpec.upto fnExactAllWithoutSpec)) fnExactAllWithoutUptoCard
end Rows
end Go.Proofs.YthaoelenleedmaaDoor
