/- LeadingNumber, ChanceFirst, DoesBeat and MeanRace: contracts of the program and of its model. -/
import Derived.Test.YthaoelenleedmaaDoorOdd2
namespace Go.Proofs.YthaoelenleedmaaDoor
set_option linter.unusedSimpArgs false
open Go.ChangeShapes Go.WideShapes Go.ChangeAt Go.RowKit
set_option linter.unusedVariables false

theorem ask_in {h o : Int} {a b : ByteArray} (q : (rcG h o && twoG a b) = true) : rcG h o = true ∧ twoG a b = true := by
  rw [Bool.and_eq_true] at q; exact q

theorem raChance_any (h o : Int) (a b : ByteArray) (w : World) (g : rcG h o = true) (t : twoG a b = true) :
    Calls Tryd.prog 29 #[cn h o, .string a, .string b] w fun e w' => e = .returned (.tuple #[.int .i64 (odF h o a b), .int .i64 (odF h o a b + odO h o a b)]) ∧ Below w.heap.size w w' := by
  have bl0 : Below w.heap.size w (w.alloc (.cells #[.int .i64 h, .int .i64 o] 27)) := bel_alloc (Below.refl _ _) _
  obtain ⟨f1, f2, o1, o2, hg⟩ := od_all g t
  have RO := Lib.hid (fun W => raOdds_any h o a b W g t)
  generalize odF h o a b = F at *
  generalize odO h o a b = O at *
  have hc := low_cop2 F O f1 o1 hg
  have HC := Lib.hid hc
  have hw : IntKind.i64.wrap (F + O) = F + O := IntWalk.i64_in _ (by omega)
  clear hc hg g t
  go_enter Tryd.func29, Tryd.ntmps29
  go_wp2_with fail
  refine (RO.out _).mono ?_
  rintro e w1 ⟨rfl, b1⟩
  go_wp2_with fail
  refine (cnLow_any F (F + O) _ (by omega) (by omega) (by omega) (by omega)).mono ?_
  rintro e w2 ⟨rfl, n2, rfl⟩
  rw [HC.out.1, HC.out.2]
  go_wp2_with fail
  go_ret2
  exact ⟨rfl, bel_drewN (bel_trans bl0 b1) n2⟩
def ansCF (h o : Int) (a b : ByteArray) : Value := if rcG h o && twoG a b then .tuple #[.int .i64 (odF h o a b), .int .i64 (odF h o a b + odO h o a b), .bool true] else failV
theorem ansCF_form (h o : Int) (a b : ByteArray) : ∃ (x y : Int) (ok : Bool), ansCF h o a b = .tuple #[.int .i64 x, .int .i64 y, .bool ok] := if_form _ ⟨_, _, true, rfl⟩ failV_form
def ansDB (h o : Int) (a b : ByteArray) : Value := if rcG h o && twoG a b then .tuple #[.bool (decide (odO h o a b < odF h o a b)), .bool true] else .tuple #[.bool false, .bool false]
theorem ansDB_form (h o : Int) (a b : ByteArray) : ∃ (x ok : Bool), ansDB h o a b = .tuple #[.bool x, .bool ok] := by
  unfold ansDB
  cases (rcG h o && twoG a b)
  · exact ⟨false, false, rfl⟩
  · exact ⟨_, true, rfl⟩
end Go.Proofs.YthaoelenleedmaaDoor
