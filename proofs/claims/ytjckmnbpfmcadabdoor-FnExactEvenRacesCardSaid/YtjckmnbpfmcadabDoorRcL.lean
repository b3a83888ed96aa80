/- LeadingNumber, ChanceFirst, DoesBeat and MeanRace: contracts of the program and of its model. -/
import Derived.Test.YtjckmnbpfmcadabDoorOdd2
namespace Go.Proofs.YtjckmnbpfmcadabDoor
set_option linter.unusedSimpArgs false
open Go.ChangeShapes Go.WideShapes Go.ChangeAt Go.RowKit
set_option linter.unusedVariables false

theorem isRace_any (h o : Int) (a b : ByteArray) (w : World) (ha : a.size ≤ maxLen) (hb : b.size ≤ maxLen) :
    Calls Tryd.prog 48 #[cn h o, .string a, .string b] w fun e w' => e = .returned (.bool (rcG h o && twoG a b)) ∧ Below w.heap.size w w' := by
  have bl0 : Below w.heap.size w (w.alloc (.cells #[.int .i64 h, .int .i64 o] 27)) := bel_alloc (Below.refl _ _) _
  cases h1 : rcG h o
  · go_enter Tryd.func48, Tryd.ntmps48
    go_wp2_with fail
    refine (isRaceCoin_any h o _).mono ?_
    rintro e w1 ⟨rfl, b1⟩
    rw [h1]
    go_wp2_with fail
    go_ret
    exact ⟨rfl, bel_trans bl0 b1⟩
  · go_enter Tryd.func48, Tryd.ntmps48
    go_wp2_with fail
    refine (isRaceCoin_any h o _).mono ?_
    rintro e w1 ⟨rfl, b1⟩
    rw [h1]
    go_wp2_with fail
    refine (implAreR_any a b _ ha hb).mono ?_
    rintro e w2 ⟨rfl, b2⟩
    go_wp2_with fail
    go_ret
    exact ⟨rfl, bel_trans (bel_trans bl0 b1) b2⟩
theorem raAsked_any (h o : Int) (a b : ByteArray) (w : World) (ha : a.size ≤ maxLen) (hb : b.size ≤ maxLen) :
    Calls Tryd.prog 46 #[cn h o, .string a, .string b] w fun e w' => e = .returned (.bool (rcG h o && twoG a b)) ∧ Below w.heap.size w w' := by
  have bl0 : Below w.heap.size w (w.alloc (.cells #[.int .i64 h, .int .i64 o] 27)) := bel_alloc (Below.refl _ _) _
  cases h1 : rcG h o
  · go_enter Tryd.func46, Tryd.ntmps46
    go_wp2_with fail
    refine (raCoin_any h o _).mono ?_
    rintro e w1 ⟨rfl, b1⟩
    rw [h1]
    go_wp2_with fail
    go_ret
    exact ⟨rfl, bel_trans bl0 b1⟩
  · go_enter Tryd.func46, Tryd.ntmps46
    go_wp2_with fail
    refine (raCoin_any h o _).mono ?_
    rintro e w1 ⟨rfl, b1⟩
    rw [h1]
    go_wp2_with fail
    refine (raTwo_any a b _ ha hb).mono ?_
    rintro e w2 ⟨rfl, rfl⟩
    go_wp2_with fail
    go_ret
    exact ⟨rfl, bel_trans bl0 b1⟩
theorem ask_in {h o : Int} {a b : ByteArray} (q : (rcG h o && twoG a b) = true) : rcG h o = true ∧ twoG a b = true := by
  rw [Bool.and_eq_true] at q; exact q

theorem raChance_any (h o : Int) (a b : ByteArray) (w : World) (g : rcG h o = true) (t : twoG a b = true) :
    Calls Tryd.prog 47 #[cn h o, .string a, .string b] w fun e w' => e = .returned (.tuple #[.int .i64 (odF h o a b), .int .i64 (odF h o a b + odO h o a b)]) ∧ Below w.heap.size w w' := by
  have bl0 : Below w.heap.size w (w.alloc (.cells #[.int .i64 h, .int .i64 o] 27)) := bel_alloc (Below.refl _ _) _
  obtain ⟨f1, f2, o1, o2, hg⟩ := od_all g t
  have RO := Lib.hid (fun W => raOdds_any h o a b W g t)
  generalize odF h o a b = F at *
  generalize odO h o a b = O at *
  have hc := low_cop2 F O f1 o1 hg
  have HC := Lib.hid hc
  have hw : IntKind.i64.wrap (F + O) = F + O := IntWalk.i64_in _ (by omega)
  clear hc hg g t
  go_enter Tryd.func47, Tryd.ntmps47
  go_wp2_with fail
  refine (RO.out _).mono ?_
  rintro e w1 ⟨rfl, b1⟩
  go_wp2_with fail
  refine (cnLow_any F (F + O) _ (by omega) (by omega) (by omega) (by omega)).mono ?_
  rintro e w2 ⟨rfl, n2, rfl⟩
  rw [HC.out.1, HC.out.2]
  go_wp2_with fail
  go_ret2
  exact ⟨rfl, bel_drewN (bel_trans bl0 b1) n2⟩
theorem raBeats_any (h o : Int) (a b : ByteArray) (w : World) (g : rcG h o = true) (t : twoG a b = true) :
    Calls Tryd.prog 55 #[cn h o, .string a, .string b] w fun e w' => e = .returned (.int .i64 (sgnI (odF h o a b - odO h o a b))) ∧ Below w.heap.size w w' := by
  have bl0 : Below w.heap.size w (w.alloc (.cells #[.int .i64 h, .int .i64 o] 27)) := bel_alloc (Below.refl _ _) _
  obtain ⟨f1, f2, o1, o2, hg⟩ := od_all g t
  have RO := Lib.hid (fun W => raOdds_any h o a b W g t)
  generalize odF h o a b = F at *
  generalize odO h o a b = O at *
  have hw : IntKind.i64.wrap (F - O) = F - O := IntWalk.i64_in _ (by omega)
  clear hg g t
  go_enter Tryd.func55, Tryd.ntmps55
  go_wp2_with fail
  refine (RO.out _).mono ?_
  rintro e w1 ⟨rfl, b1⟩
  go_wp2_with fail
  refine (l1Sign_any (F - O) _).mono ?_
  rintro e w2 ⟨rfl, rfl⟩
  go_wp2_with fail
  go_ret
  exact ⟨rfl, bel_trans bl0 b1⟩

/- ChanceFirst. -/
def ansCF (h o : Int) (a b : ByteArray) : Value := if rcG h o && twoG a b then .tuple #[.int .i64 (odF h o a b), .int .i64 (odF h o a b + odO h o a b), .bool true] else failV
theorem ansCF_form (h o : Int) (a b : ByteArray) : ∃ (x y : Int) (ok : Bool), ansCF h o a b = .tuple #[.int .i64 x, .int .i64 y, .bool ok] := if_form _ ⟨_, _, true, rfl⟩ failV_form
theorem specCF_any (h o : Int) (a b : ByteArray) (w : World) (ha : a.size ≤ maxLen) (hb : b.size ≤ maxLen) :
    Calls Tryd.prog 17 #[cn h o, .string a, .string b] w fun e w' => e = .returned (ansCF h o a b) ∧ Below w.heap.size w w' := by
  have bx0 := Lib.hid (Box2.new w (.int .i64 h) (.int .i64 o) 27)
  have bl0 : Below w.heap.size w (w.alloc (.cells #[.int .i64 h, .int .i64 o] 27)) := bel_alloc (Below.refl _ _) _
  cases h1 : (rcG h o && twoG a b)
  · rw [show ansCF h o a b = failV from by unfold ansCF; rw [h1]; rfl]
    unfold failV
    go_enter Tryd.func17, Tryd.ntmps17
    go_wp2_with fail
    refine (raAsked_any h o a b _ ha hb).mono ?_
    rintro e w1 ⟨rfl, hb1⟩
    rw [h1]
    go_wp2_with fail
    go_ret3
    exact ⟨rfl, bel_trans bl0 hb1⟩
  · rw [show ansCF h o a b = .tuple #[.int .i64 (odF h o a b), .int .i64 (odF h o a b + odO h o a b), .bool true] from by unfold ansCF; rw [h1]; rfl]
    obtain ⟨g, t⟩ := ask_in h1
    go_enter Tryd.func17, Tryd.ntmps17
    go_wp2_with fail
    refine (raAsked_any h o a b _ ha hb).mono ?_
    rintro e w1 ⟨rfl, hb1⟩
    rw [h1]
    obtain ⟨c0_1, c1_1, hk1⟩ := bx0.out.keep hb1
    go_wp2_with fail
    refine (raChance_any h o a b _ g t).mono ?_
    rintro e w2 ⟨rfl, hb2⟩
    go_wp2_with fail
    go_ret3
    exact ⟨rfl, bel_trans (bel_trans bl0 hb1) hb2⟩
theorem implCF_any (h o : Int) (a b : ByteArray) (w : World) (ha : a.size ≤ maxLen) (hb : b.size ≤ maxLen) :
    Calls Tryd.prog 18 #[cn h o, .string a, .string b] w fun e w' => e = .returned (ansCF h o a b) ∧ Below w.heap.size w w' := by
  have bx0 := Lib.hid (Box2.new w (.int .i64 h) (.int .i64 o) 27)
  have bl0 : Below w.heap.size w (w.alloc (.cells #[.int .i64 h, .int .i64 o] 27)) := bel_alloc (Below.refl _ _) _
  cases h1 : (rcG h o && twoG a b)
  · rw [show ansCF h o a b = failV from by unfold ansCF; rw [h1]; rfl]
    unfold failV
    go_enter Tryd.func18, Tryd.ntmps18
    go_wp2_with fail
    refine (isRace_any h o a b _ ha hb).mono ?_
    rintro e w1 ⟨rfl, hb1⟩
    rw [h1]
    go_wp2_with fail
    go_ret3
    exact ⟨rfl, bel_trans bl0 hb1⟩
  · rw [show ansCF h o a b = .tuple #[.int .i64 (odF h o a b), .int .i64 (odF h o a b + odO h o a b), .bool true] from by unfold ansCF; rw [h1]; rfl]
    obtain ⟨g, t⟩ := ask_in h1
    obtain ⟨f1, f2, o1, o2, hg⟩ := od_all g t
    have OD := Lib.hid (fun W => oddsOf_any h o a b W g t)
    generalize odF h o a b = F at *
    generalize odO h o a b = O at *
    clear hg
    go_enter Tryd.func18, Tryd.ntmps18
    go_wp2_with fail
    refine (isRace_any h o a b _ ha hb).mono ?_
    rintro e w1 ⟨rfl, hb1⟩
    rw [h1]
    obtain ⟨c0_1, c1_1, hk1⟩ := bx0.out.keep hb1
    go_wp2_with fail
    refine (OD.out _).mono ?_
    rintro e w2 ⟨rfl, hb2⟩
    go_wp2_with fail
    refine (oddsChance_any F O _ f1 o1 f2 o2).mono ?_
    rintro e w3 ⟨rfl, hb3⟩
    go_wp2_with fail
    go_ret3
    exact ⟨rfl, bel_trans (bel_trans (bel_trans bl0 hb1) hb2) hb3⟩

/- DoesBeat. -/
def ansDB (h o : Int) (a b : ByteArray) : Value := if rcG h o && twoG a b then .tuple #[.bool (decide (odO h o a b < odF h o a b)), .bool true] else .tuple #[.bool false, .bool false]
theorem ansDB_form (h o : Int) (a b : ByteArray) : ∃ (x ok : Bool), ansDB h o a b = .tuple #[.bool x, .bool ok] := by
  unfold ansDB
  cases (rcG h o && twoG a b)
  · exact ⟨false, false, rfl⟩
  · exact ⟨_, true, rfl⟩
theorem specDB_any (h o : Int) (a b : ByteArray) (w : World) (ha : a.size ≤ maxLen) (hb : b.size ≤ maxLen) :
    Calls Tryd.prog 23 #[cn h o, .string a, .string b] w fun e w' => e = .returned (ansDB h o a b) ∧ Below w.heap.size w w' := by
  have bx0 := Lib.hid (Box2.new w (.int .i64 h) (.int .i64 o) 27)
  have bl0 : Below w.heap.size w (w.alloc (.cells #[.int .i64 h, .int .i64 o] 27)) := bel_alloc (Below.refl _ _) _
  cases h1 : (rcG h o && twoG a b)
  · rw [show ansDB h o a b = .tuple #[.bool false, .bool false] from by unfold ansDB; rw [h1]; rfl]
    go_enter Tryd.func23, Tryd.ntmps23
    go_wp2_with fail
    refine (raAsked_any h o a b _ ha hb).mono ?_
    rintro e w1 ⟨rfl, hb1⟩
    rw [h1]
    go_wp2_with fail
    go_ret2
    exact ⟨rfl, bel_trans bl0 hb1⟩
  · rw [show ansDB h o a b = .tuple #[.bool (decide (odO h o a b < odF h o a b)), .bool true] from by unfold ansDB; rw [h1]; rfl]
    obtain ⟨g, t⟩ := ask_in h1
    have hz : decide (0 < sgnI (odF h o a b - odO h o a b)) = decide (odO h o a b < odF h o a b) := by
      rw [decide_eq_decide, sgnI_pos]
      omega
    have BT := Lib.hid (fun W => raBeats_any h o a b W g t)
    generalize sgnI (odF h o a b - odO h o a b) = z at *
    rw [← hz]
    clear hz
    go_enter Tryd.func23, Tryd.ntmps23
    go_wp2_with fail
    refine (raAsked_any h o a b _ ha hb).mono ?_
    rintro e w1 ⟨rfl, hb1⟩
    rw [h1]
    obtain ⟨c0_1, c1_1, hk1⟩ := bx0.out.keep hb1
    go_wp2_with fail
    refine (BT.out _).mono ?_
    rintro e w2 ⟨rfl, hb2⟩
    go_wp2_with fail
    go_ret2
    exact ⟨rfl, bel_trans (bel_trans bl0 hb1) hb2⟩
theorem implDB_any (h o : Int) (a b : ByteArray) (w : World) (ha : a.size ≤ maxLen) (hb : b.size ≤ maxLen) :
    Calls Tryd.prog 24 #[cn h o, .string a, .string b] w fun e w' => e = .returned (ansDB h o a b) ∧ Below w.heap.size w w' := by
  have bx0 := Lib.hid (Box2.new w (.int .i64 h) (.int .i64 o) 27)
  have bl0 : Below w.heap.size w (w.alloc (.cells #[.int .i64 h, .int .i64 o] 27)) := bel_alloc (Below.refl _ _) _
  cases h1 : (rcG h o && twoG a b)
  · rw [show ansDB h o a b = .tuple #[.bool false, .bool false] from by unfold ansDB; rw [h1]; rfl]
    go_enter Tryd.func24, Tryd.ntmps24
    go_wp2_with fail
    refine (isRace_any h o a b _ ha hb).mono ?_
    rintro e w1 ⟨rfl, hb1⟩
    rw [h1]
    go_wp2_with fail
    go_ret2
    exact ⟨rfl, bel_trans bl0 hb1⟩
  · rw [show ansDB h o a b = .tuple #[.bool (decide (odO h o a b < odF h o a b)), .bool true] from by unfold ansDB; rw [h1]; rfl]
    obtain ⟨g, t⟩ := ask_in h1
    have OD := Lib.hid (fun W => oddsOf_any h o a b W g t)
    generalize odF h o a b = F at *
    generalize odO h o a b = O at *
    go_enter Tryd.func24, Tryd.ntmps24
    go_wp2_with fail
    refine (isRace_any h o a b _ ha hb).mono ?_
    rintro e w1 ⟨rfl, hb1⟩
    rw [h1]
    obtain ⟨c0_1, c1_1, hk1⟩ := bx0.out.keep hb1
    go_wp2_with fail
    refine (OD.out _).mono ?_
    rintro e w2 ⟨rfl, hb2⟩
    go_wp2_with fail
    refine (oddsBeat_any F O _).mono ?_
    rintro e w3 ⟨rfl, hb3⟩
    go_wp2_with fail
    go_ret2
    exact ⟨rfl, bel_trans (bel_trans (bel_trans bl0 hb1) hb2) hb3⟩
end Go.Proofs.YtjckmnbpfmcadabDoor
