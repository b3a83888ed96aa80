/-
  DERIVED. GIVEN WITH THE SEED: THE CARDS: each row of YtnpghbbmhehnlaaDoorRows.lean that lists a variable, with what it lists TIED to the program's text (the seventh form; the later family's looks); each row that meets fmt, with fmt's text TOLD by the authors' own Lean function (tested against real Go, not proved from fmt's source: count such statements apart). THE CARD IS WHAT COUNTS. Prove the row's statement (the work); the ties are given (YtnpghbbmhehnlaaDoorTie.lean); close each card by the builder's one call (the guide's Derived/Test/ToyasCard.lean, 'card_holds'). Laid BY PROGRAM, IN A SANDBOX (cutbox-door.mjs). By AI agents, Wed Nov 11 2026. No macro, syntax, notation, axiom, sorry.
-/
import Derived.Test.YtnpghbbmhehnlaaDoorRows
import GoSem.ClaimSeven
namespace Go.Proofs.YtnpghbbmhehnlaaDoor
namespace Rows

/-- THE TIED CARD OF 'laws.FnExactAreManyTosses'. -/
def fnExactAreManyTossesCard : Claim7 := { stood := { row := fnExactAreManyTossesRow, standIns := [], harness := (true, "2aa64ff9cb81776e4bd5c33fa03f1b6ca91bfbeb406cb1a381bab8e71a1aa2cf"), looks := false }, kinds := [], alts := [], laidByText := true, laidKinds := [.data, .pinned], laidTests := true, laidLooks := .later }
def FnExactAreManyTossesCardSaid : Prop := Claim7.holds Tryd.pinned (.plain (OpenSpec.ofChange fnExactAreManyTossesSpec)) fnExactAreManyTossesCard

/-- THE TIED CARD OF 'laws.FnExactFairByPairs'. -/
def fnExactFairByPairsCard : Claim7 := { stood := { row := fnExactFairByPairsRow, standIns := [], harness := (true, "2aa64ff9cb81776e4bd5c33fa03f1b6ca91bfbeb406cb1a381bab8e71a1aa2cf"), looks := false }, kinds := [], alts := [], laidByText := true, laidKinds := [.data, .pinned], laidTests := true, laidLooks := .later }
def FnExactFairByPairsCardSaid : Prop := Claim7.holds Tryd.pinned (.plain (OpenSpec.ofChange fnExactFairByPairsSpec)) fnExactFairByPairsCard

/-- THE TIED CARD OF 'laws.FnExactFairAgain'. -/
def fnExactFairAgainCard : Claim7 := { stood := { row := fnExactFairAgainRow, standIns := [], harness := (true, "2aa64ff9cb81776e4bd5c33fa03f1b6ca91bfbeb406cb1a381bab8e71a1aa2cf"), looks := false }, kinds := [], alts := [], laidByText := true, laidKinds := [.data, .pinned], laidTests := true, laidLooks := .later }
def FnExactFairAgainCardSaid : Prop := Claim7.holds Tryd.pinned (.plain (OpenSpec.ofChange fnExactFairAgainSpec)) fnExactFairAgainCard

/-- THE TIED CARD OF 'laws.FnExactPairsThatGive'. -/
def fnExactPairsThatGiveCard : Claim7 := { stood := { row := fnExactPairsThatGiveRow, standIns := [], harness := (true, "2aa64ff9cb81776e4bd5c33fa03f1b6ca91bfbeb406cb1a381bab8e71a1aa2cf"), looks := false }, kinds := [], alts := [], laidByText := true, laidKinds := [.data, .pinned], laidTests := true, laidLooks := .later }
def FnExactPairsThatGiveCardSaid : Prop := Claim7.holds Tryd.pinned (.plain (OpenSpec.ofChange fnExactPairsThatGiveSpec)) fnExactPairsThatGiveCard

/-- THE TIED CARD OF 'laws.FnExactSameFair'. -/
def fnExactSameFairCard : Claim7 := { stood := { row := fnExactSameFairRow, standIns := [], harness := (true, "2aa64ff9cb81776e4bd5c33fa03f1b6ca91bfbeb406cb1a381bab8e71a1aa2cf"), looks := false }, kinds := [], alts := [], laidByText := true, laidKinds := [.data, .pinned], laidTests := true, laidLooks := .later }
def FnExactSameFairCardSaid : Prop := Claim7.holds Tryd.pinned (.plain (OpenSpec.ofChange fnExactSameFairSpec)) fnExactSameFairCard

/-- THE TIED CARD OF 'laws.FnExactChanceOfAll'. -/
def fnExactChanceOfAllCard : Claim7 := { stood := { row := fnExactChanceOfAllRow, standIns := [], harness := (true, "2aa64ff9cb81776e4bd5c33fa03f1b6ca91bfbeb406cb1a381bab8e71a1aa2cf"), looks := false }, kinds := [], alts := [], laidByText := true, laidKinds := [.data, .pinned], laidTests := true, laidLooks := .later }
def FnExactChanceOfAllCardSaid : Prop := Claim7.holds Tryd.pinned (.plain (OpenSpec.ofChange fnExactChanceOfAllSpec)) fnExactChanceOfAllCard

/-- THE SECOND FORM's CARD OF 'laws.FnExactAreManyTosses'. -/
def fnExactAreManyTossesUptoCard : Claim7 := { stood := { row := fnExactAreManyTossesUptoRow, standIns := [], harness := (true, "2aa64ff9cb81776e4bd5c33fa03f1b6ca91bfbeb406cb1a381bab8e71a1aa2cf"), looks := false }, kinds := [], alts := [], laidByText := true, laidKinds := [.data, .pinned], laidTests := true, laidLooks := .later }
def FnExactAreManyTossesUptoCardSaid : Prop := Claim7.holds Tryd.pinned (.plain (OpenSpec.upto fnExactAreManyTossesSpec)) fnExactAreManyTossesUptoCard

/-- THE SECOND FORM's CARD OF 'laws.FnExactFairByPairs'. -/
def fnExactFairByPairsUptoCard : Claim7 := { stood := { row := fnExactFairByPairsUptoRow, standIns := [], harness := (true, "2aa64ff9cb81776e4bd5c33fa03f1b6ca91bfbeb406cb1a381bab8e71a1aa2cf"), looks := false }, kinds := [], alts := [], laidByText := true, laidKinds := [.data, .pinned], laidTests := true, laidLooks := .later }
def FnExactFairByPairsUptoCardSaid : Prop := Claim7.holds Tryd.pinned (.plain (OpenSpec.upto fnExactFairByPairsSpec)) fnExactFairByPairsUptoCard

/-- THE SECOND FORM's CARD OF 'laws.FnExactFairAgain'. -/
def fnExactFairAgainUptoCard : Claim7 := { stood := { row := fnExactFairAgainUptoRow, standIns := [], harness := (true, "2aa64ff9cb81776e4bd5c33fa03f1b6ca91bfbeb406cb1a381bab8e71a1aa2cf"), looks := false }, kinds := [], alts := [], laidByText := true, laidKinds := [.data, .pinned], laidTests := true, laidLooks := .later }
def FnExactFairAgainUptoCardSaid : Prop := Claim7.holds Tryd.pinned (.plain (OpenSpec.upto fnExactFairAgainSpec)) fnExactFairAgainUptoCard

/-- THE SECOND FORM's CARD OF 'laws.FnExactPairsThatGive'. -/
def fnExactPairsThatGiveUptoCard : Claim7 := { stood := { row := fnExactPairsThatGiveUptoRow, standIns := [], harness := (true, "2aa64ff9cb81776e4bd5c33fa03f1b6ca91bfbeb406cb1a381bab8e71a1aa2cf"), looks := false }, kinds := [], alts := [], laidByText := true, laidKinds := [.data, .pinned], laidTests := true, laidLooks := .later }
def FnExactPairsThatGiveUptoCardSaid : Prop := Claim7.holds Tryd.pinned (.plain (OpenSpec.upto fnExactPairsThatGiveSpec)) fnExactPairsThatGiveUptoCard

/-- THE SECOND FORM's CARD OF 'laws.FnExactSameFair'. -/
def fnExactSameFairUptoCard : Claim7 := { stood := { row := fnExactSameFairUptoRow, standIns := [], harness := (true, "2aa64ff9cb81776e4bd5c33fa03f1b6ca91bfbeb406cb1a381bab8e71a1aa2cf"), looks := false }, kinds := [], alts := [], laidByText := true, laidKinds := [.data, .pinned], laidTests := true, laidLooks := .later }
def FnExactSameFairUptoCardSaid : Prop := Claim7.holds Tryd.pinned (.plain (OpenSpec.upto fnExactSameFairSpec)) fnExactSameFairUptoCard

/-- THE SECOND FORM's CARD OF 'laws.FnExactChanceOfAll'. -/
def fnExactChanceOfAllUptoCard : Claim7 := { stood := { row := fnExactChanceOfAllUptoRow, standIns := [], harness := (true, "2aa64ff9cb81776e4bd5c33fa03f1b6ca91bfbeb406cb1a381bab8e71a1aa2cf"), looks := false }, kinds := [], alts := [], laidByText := true, laidKinds := [.data, .pinned], laidTests := true, laidLooks := .later }
def FnExactChanceOfAllUptoCardSaid : Prop := Claim7.holds Tryd.pinned (.plain (OpenSpec.upto fnExactChanceOfAllSpec)) fnExactChanceOfAllUptoCard
end Rows
end Go.Proofs.YtnpghbbmhehnlaaDoor
