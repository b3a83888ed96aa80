/-
  DERIVED. GIVEN WITH THE SEED: THE CARDS: each row of YtjckmnbpfmcadacDoorRows.lean that lists a variable, with what it lists TIED to the program's text (the seventh form; the later family's looks); each row that meets fmt, with fmt's text TOLD by the authors' own Lean function (tested against real Go, not proved from fmt's source: count such statements apart). THE CARD IS WHAT COUNTS. Prove the row's statement (the work); the ties are given (YtjckmnbpfmcadacDoorTie.lean); close each card by the builder's one call (the guide's Derived/Test/ToyasCard.lean, 'card_holds'). Laid BY PROGRAM, IN A SANDBOX (cutbox-door.mjs). By AI agents, Wed Nov 11 2026. No macro, syntax, notation, axiom, sorry.
-/
import Derived.Test.YtjckmnbpfmcadacDoorRows
import GoSem.ClaimSeven
namespace Go.Proofs.YtjckmnbpfmcadacDoor
namespace Rows

/-- THE TIED CARD OF 'laws.FnExactCountWithout'. -/
def fnExactCountWithoutCard : Claim7 := { stood := { row := fnExactCountWithoutRow, standIns := [], harness := (true, "c8263d3c292c53995f349c80da499994d2dc2eddb40716d5b8773ceac459f4c8"), looks := false }, kinds := [], alts := [], laidByText := true, laidKinds := [.data, .pinned], laidTests := true, laidLooks := .later }
def FnExactCountWithoutCardSaid : Prop := Claim7.holds Tryd.pinned (.plain (OpenSpec.ofChange fnExactCountWithoutSpec)) fnExactCountWithoutCard

/-- THE TIED CARD OF 'laws.FnExactCountFirstAt'. -/
def fnExactCountFirstAtCard : Claim7 := { stood := { row := fnExactCountFirstAtRow, standIns := [], harness := (true, "c8263d3c292c53995f349c80da499994d2dc2eddb40716d5b8773ceac459f4c8"), looks := false }, kinds := [], alts := [], laidByText := true, laidKinds := [.data, .pinned], laidTests := true, laidLooks := .later }
def FnExactCountFirstAtCardSaid : Prop := Claim7.holds Tryd.pinned (.plain (OpenSpec.ofChange fnExactCountFirstAtSpec)) fnExactCountFirstAtCard

/-- THE TIED CARD OF 'laws.FnExactChanceBy'. -/
def fnExactChanceByCard : Claim7 := { stood := { row := fnExactChanceByRow, standIns := [], harness := (true, "c8263d3c292c53995f349c80da499994d2dc2eddb40716d5b8773ceac459f4c8"), looks := false }, kinds := [], alts := [], laidByText := true, laidKinds := [.data, .pinned], laidTests := true, laidLooks := .later }
def FnExactChanceByCardSaid : Prop := Claim7.holds Tryd.pinned (.plain (OpenSpec.ofChange fnExactChanceBySpec)) fnExactChanceByCard

/-- THE TIED CARD OF 'laws.FnExactCountWonAt'. -/
def fnExactCountWonAtCard : Claim7 := { stood := { row := fnExactCountWonAtRow, standIns := [], harness := (true, "c8263d3c292c53995f349c80da499994d2dc2eddb40716d5b8773ceac459f4c8"), looks := false }, kinds := [], alts := [], laidByText := true, laidKinds := [.data, .pinned], laidTests := true, laidLooks := .later }
def FnExactCountWonAtCardSaid : Prop := Claim7.holds Tryd.pinned (.plain (OpenSpec.ofChange fnExactCountWonAtSpec)) fnExactCountWonAtCard

/-- THE TIED CARD OF 'laws.FnExactCountOpen'. -/
def fnExactCountOpenCard : Claim7 := { stood := { row := fnExactCountOpenRow, standIns := [], harness := (true, "c8263d3c292c53995f349c80da499994d2dc2eddb40716d5b8773ceac459f4c8"), looks := false }, kinds := [], alts := [], laidByText := true, laidKinds := [.data, .pinned], laidTests := true, laidLooks := .later }
def FnExactCountOpenCardSaid : Prop := Claim7.holds Tryd.pinned (.plain (OpenSpec.ofChange fnExactCountOpenSpec)) fnExactCountOpenCard

/-- THE TIED CARD OF 'laws.FnExactCountManyWonAt'. -/
def fnExactCountManyWonAtCard : Claim7 := { stood := { row := fnExactCountManyWonAtRow, standIns := [], harness := (true, "c8263d3c292c53995f349c80da499994d2dc2eddb40716d5b8773ceac459f4c8"), looks := false }, kinds := [], alts := [], laidByText := true, laidKinds := [.data, .pinned], laidTests := true, laidLooks := .later }
def FnExactCountManyWonAtCardSaid : Prop := Claim7.holds Tryd.pinned (.plain (OpenSpec.ofChange fnExactCountManyWonAtSpec)) fnExactCountManyWonAtCard

/-- THE TIED CARD OF 'laws.FnExactCountManyOpen'. -/
def fnExactCountManyOpenCard : Claim7 := { stood := { row := fnExactCountManyOpenRow, standIns := [], harness := (true, "c8263d3c292c53995f349c80da499994d2dc2eddb40716d5b8773ceac459f4c8"), looks := false }, kinds := [], alts := [], laidByText := true, laidKinds := [.data, .pinned], laidTests := true, laidLooks := .later }
def FnExactCountManyOpenCardSaid : Prop := Claim7.holds Tryd.pinned (.plain (OpenSpec.ofChange fnExactCountManyOpenSpec)) fnExactCountManyOpenCard

/-- THE TIED CARD OF 'laws.FnExactAreManyRacers'. -/
def fnExactAreManyRacersCard : Claim7 := { stood := { row := fnExactAreManyRacersRow, standIns := [], harness := (true, "c8263d3c292c53995f349c80da499994d2dc2eddb40716d5b8773ceac459f4c8"), looks := false }, kinds := [], alts := [], laidByText := true, laidKinds := [.data, .pinned], laidTests := true, laidLooks := .later }
def FnExactAreManyRacersCardSaid : Prop := Claim7.holds Tryd.pinned (.plain (OpenSpec.ofChange fnExactAreManyRacersSpec)) fnExactAreManyRacersCard

/-- THE TIED CARD OF 'laws.FnExactWinnerOfMany'. -/
def fnExactWinnerOfManyCard : Claim7 := { stood := { row := fnExactWinnerOfManyRow, standIns := [], harness := (true, "c8263d3c292c53995f349c80da499994d2dc2eddb40716d5b8773ceac459f4c8"), looks := false }, kinds := [], alts := [], laidByText := true, laidKinds := [.data, .pinned], laidTests := true, laidLooks := .later }
def FnExactWinnerOfManyCardSaid : Prop := Claim7.holds Tryd.pinned (.plain (OpenSpec.ofChange fnExactWinnerOfManySpec)) fnExactWinnerOfManyCard

/-- THE SECOND FORM's CARD OF 'laws.FnExactCountWithout'. -/
def fnExactCountWithoutUptoCard : Claim7 := { stood := { row := fnExactCountWithoutUptoRow, standIns := [], harness := (true, "c8263d3c292c53995f349c80da499994d2dc2eddb40716d5b8773ceac459f4c8"), looks := false }, kinds := [], alts := [], laidByText := true, laidKinds := [.data, .pinned], laidTests := true, laidLooks := .later }
def FnExactCountWithoutUptoCardSaid : Prop := Claim7.holds Tryd.pinned (.plain (OpenSpec.upto fnExactCountWithoutSpec)) fnExactCountWithoutUptoCard

/-- THE SECOND FORM's CARD OF 'laws.FnExactCountFirstAt'. -/
def fnExactCountFirstAtUptoCard : Claim7 := { stood := { row := fnExactCountFirstAtUptoRow, standIns := [], harness := (true, "c8263d3c292c53995f349c80da499994d2dc2eddb40716d5b8773ceac459f4c8"), looks := false }, kinds := [], alts := [], laidByText := true, laidKinds := [.data, .pinned], laidTests := true, laidLooks := .later }
def FnExactCountFirstAtUptoCardSaid : Prop := Claim7.holds Tryd.pinned (.plain (OpenSpec.upto fnExactCountFirstAtSpec)) fnExactCountFirstAtUptoCard

/-- THE SECOND FORM's CARD OF 'laws.FnExactChanceBy'. -/
def fnExactChanceByUptoCard : Claim7 := { stood := { row := fnExactChanceByUptoRow, standIns := [], harness := (true, "c8263d3c292c53995f349c80da499994d2dc2eddb40716d5b8773ceac459f4c8"), looks := false }, kinds := [], alts := [], laidByText := true, laidKinds := [.data, .pinned], laidTests := true, laidLooks := .later }
def FnExactChanceByUptoCardSaid : Prop := Claim7.holds Tryd.pinned (.plain (OpenSpec.upto fnExactChanceBySpec)) fnExactChanceByUptoCard

/-- THE SECOND FORM's CARD OF 'laws.FnExactCountWonAt'. -/
def fnExactCountWonAtUptoCard : Claim7 := { stood := { row := fnExactCountWonAtUptoRow, standIns := [], harness := (true, "c8263d3c292c53995f349c80da499994d2dc2eddb40716d5b8773ceac459f4c8"), looks := false }, kinds := [], alts := [], laidByText := true, laidKinds := [.data, .pinned], laidTests := true, laidLooks := .later }
def FnExactCountWonAtUptoCardSaid : Prop := Claim7.holds Tryd.pinned (.plain (OpenSpec.upto fnExactCountWonAtSpec)) fnExactCountWonAtUptoCard

/-- THE SECOND FORM's CARD OF 'laws.FnExactCountOpen'. -/
def fnExactCountOpenUptoCard : Claim7 := { stood := { row := fnExactCountOpenUptoRow, standIns := [], harness := (true, "c8263d3c292c53995f349c80da499994d2dc2eddb40716d5b8773ceac459f4c8"), looks := false }, kinds := [], alts := [], laidByText := true, laidKinds := [.data, .pinned], laidTests := true, laidLooks := .later }
def FnExactCountOpenUptoCardSaid : Prop := Claim7.holds Tryd.pinned (.plain (OpenSpec.upto fnExactCountOpenSpec)) fnExactCountOpenUptoCard

/-- THE SECOND FORM's CARD OF 'laws.FnExactCountManyWonAt'. -/
def fnExactCountManyWonAtUptoCard : Claim7 := { stood := { row := fnExactCountManyWonAtUptoRow, standIns := [], harness := (true, "c8263d3c292c53995f349c80da499994d2dc2eddb40716d5b8773ceac459f4c8"), looks := false }, kinds := [], alts := [], laidByText := true, laidKinds := [.data, .pinned], laidTests := true, laidLooks := .later }
def FnExactCountManyWonAtUptoCardSaid : Prop := Claim7.holds Tryd.pinned (.plain (OpenSpec.upto fnExactCountManyWonAtSpec)) fnExactCountManyWonAtUptoCard

/-- THE SECOND FORM's CARD OF 'laws.FnExactCountManyOpen'. -/
def fnExactCountManyOpenUptoCard : Claim7 := { stood := { row := fnExactCountManyOpenUptoRow, standIns := [], harness := (true, "c8263d3c292c53995f349c80da499994d2dc2eddb40716d5b8773ceac459f4c8"), looks := false }, kinds := [], alts := [], laidByText := true, laidKinds := [.data, .pinned], laidTests := true, laidLooks := .later }
def FnExactCountManyOpenUptoCardSaid : Prop := Claim7.holds Tryd.pinned (.plain (OpenSpec.upto fnExactCountManyOpenSpec)) fnExactCountManyOpenUptoCard

/-- THE SECOND FORM's CARD OF 'laws.FnExactAreManyRacers'. -/
def fnExactAreManyRacersUptoCard : Claim7 := { stood := { row := fnExactAreManyRacersUptoRow, standIns := [], harness := (true, "c8263d3c292c53995f349c80da499994d2dc2eddb40716d5b8773ceac459f4c8"), looks := false }, kinds := [], alts := [], laidByText := true, laidKinds := [.data, .pinned], laidTests := true, laidLooks := .later }
def FnExactAreManyRacersUptoCardSaid : Prop := Claim7.holds Tryd.pinned (.plain (OpenSpec.upto fnExactAreManyRacersSpec)) fnExactAreManyRacersUptoCard

/-- THE SECOND FORM's CARD OF 'laws.FnExactWinnerOfMany'. -/
def fnExactWinnerOfManyUptoCard : Claim7 := { stood := { row := fnExactWinnerOfManyUptoRow, standIns := [], harness := (true, "c8263d3c292c53995f349c80da499994d2dc2eddb40716d5b8773ceac459f4c8"), looks := false }, kinds := [], alts := [], laidByText := true, laidKinds := [.data, .pinned], laidTests := true, laidLooks := .later }
def FnExactWinnerOfManyUptoCardSaid : Prop := Claim7.holds Tryd.pinned (.plain (OpenSpec.upto fnExactWinnerOfManySpec)) fnExactWinnerOfManyUptoCard
end Rows
end Go.Proofs.YtjckmnbpfmcadacDoor
