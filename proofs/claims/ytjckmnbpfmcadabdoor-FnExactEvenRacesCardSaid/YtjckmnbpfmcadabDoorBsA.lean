/- BestAnswer: the contracts of the program and of its model, and the walk. -/
import Derived.Test.YtjckmnbpfmcadabDoorBst2
namespace Go.Proofs.YtjckmnbpfmcadabDoor
set_option linter.unusedSimpArgs false
open Go.ChangeShapes Go.WideShapes Go.ChangeAt Go.RowKit
set_option linter.unusedVariables false

def oneG (h o : Int) (a : ByteArray) : Bool := rcG h o && (racG a && decide (2 ≤ a.size))
theorem one_in {h o : Int} {a : ByteArray} (g : oneG h o a = true) : rcG h o = true ∧ racG a = true ∧ 2 ≤ a.size := by
  unfold oneG at g
  simp only [Bool.and_eq_true, decide_eq_true_iff] at g
  exact ⟨g.1, g.2.1, g.2.2⟩
theorem isAnswered_any (h o : Int) (a : ByteArray) (w : World) (ha : a.size ≤ maxLen) :
    Calls Tryd.prog 59 #[cn h o, .string a] w fun e w' => e = .returned (.bool (oneG h o a)) ∧ Below w.heap.size w w' := by
  have bl0 : Below w.heap.size w (w.alloc (.cells #[.int .i64 h, .int .i64 o] 27)) := bel_alloc (Below.refl _ _) _
  have hd : decide ((2 : Int) ≤ (a.size : Int)) = decide (2 ≤ a.size) := by rw [decide_eq_decide]; omega
  cases h1 : rcG h o
  · go_enter Tryd.func59, Tryd.ntmps59
    go_wp2_with fail
    refine (isRaceCoin_any h o _).mono ?_
    rintro e w1 ⟨rfl, b1⟩
    rw [h1]
    go_wp2_with fail
    go_ret
    exact ⟨by unfold oneG; rw [h1]; rfl, bel_trans bl0 b1⟩
  · cases h2 : racG a
    · go_enter Tryd.func59, Tryd.ntmps59
      go_wp2_with fail
      refine (isRaceCoin_any h o _).mono ?_
      rintro e w1 ⟨rfl, b1⟩
      rw [h1]
      go_wp2_with fail
      refine (isRacer_any a _ ha).mono ?_
      rintro e w2 ⟨rfl, b2⟩
      rw [h2]
      go_wp2_with fail
      go_ret
      exact ⟨by unfold oneG; rw [h1, h2]; rfl, bel_trans (bel_trans bl0 b1) b2⟩
    · have Hd := Lib.hid hd
      clear hd
      go_enter Tryd.func59, Tryd.ntmps59
      go_wp2_with fail
      refine (isRaceCoin_any h o _).mono ?_
      rintro e w1 ⟨rfl, b1⟩
      rw [h1]
      go_wp2_with fail
      refine (isRacer_any a _ ha).mono ?_
      rintro e w2 ⟨rfl, b2⟩
      rw [h2]
      go_wp2_with fail
      go_ret
      exact ⟨by unfold oneG; rw [h1, h2, ← Hd.out]; rfl, bel_trans (bel_trans bl0 b1) b2⟩
theorem raOne_any (h o : Int) (a : ByteArray) (w : World) (ha : a.size ≤ maxLen) :
    Calls Tryd.prog 57 #[cn h o, .string a] w fun e w' => e = .returned (.bool (oneG h o a)) ∧ Below w.heap.size w w' := by
  have bl0 : Below w.heap.size w (w.alloc (.cells #[.int .i64 h, .int .i64 o] 27)) := bel_alloc (Below.refl _ _) _
  have hd : decide ((1 : Int) < (a.size : Int)) = decide (2 ≤ a.size) := by rw [decide_eq_decide]; omega
  cases h1 : rcG h o
  · go_enter Tryd.func57, Tryd.ntmps57
    go_wp2_with fail
    refine (raCoin_any h o _).mono ?_
    rintro e w1 ⟨rfl, b1⟩
    rw [h1]
    go_wp2_with fail
    go_ret
    exact ⟨by unfold oneG; rw [h1]; rfl, bel_trans bl0 b1⟩
  · cases h2 : racG a
    · go_enter Tryd.func57, Tryd.ntmps57
      go_wp2_with fail
      refine (raCoin_any h o _).mono ?_
      rintro e w1 ⟨rfl, b1⟩
      rw [h1]
      go_wp2_with fail
      refine (raPattern_any a _ ha).mono ?_
      rintro e w2 ⟨rfl, rfl⟩
      rw [h2]
      go_wp2_with fail
      go_ret
      exact ⟨by unfold oneG; rw [h1, h2]; rfl, bel_trans bl0 b1⟩
    · have Hd := Lib.hid hd
      clear hd
      go_enter Tryd.func57, Tryd.ntmps57
      go_wp2_with fail
      refine (raCoin_any h o _).mono ?_
      rintro e w1 ⟨rfl, b1⟩
      rw [h1]
      go_wp2_with fail
      refine (raPattern_any a _ ha).mono ?_
      rintro e w2 ⟨rfl, rfl⟩
      rw [h2]
      go_wp2_with fail
      go_ret
      exact ⟨by unfold oneG; rw [h1, h2, ← Hd.out]; rfl, bel_trans bl0 b1⟩

def fourV (b : ByteArray) (x y : Int) (ok : Bool) : Value := .tuple #[.string b, .int .i64 x, .int .i64 y, .bool ok]
def ansBA (h o : Int) (a : ByteArray) : Value := if oneG h o a then fourV (bst h o a).1 (bst h o a).2.1 ((bst h o a).2.1 + (bst h o a).2.2) true else fourV ⟨#[]⟩ 0 0 false
theorem ansBA_form (h o : Int) (a : ByteArray) : ∃ (b : ByteArray) (x y : Int) (ok : Bool), ansBA h o a = .tuple #[.string b, .int .i64 x, .int .i64 y, .bool ok] := by
  unfold ansBA
  split
  · exact ⟨_, _, _, _, rfl⟩
  · exact ⟨_, _, _, _, rfl⟩
theorem bst_in {h o : Int} {a : ByteArray} (g : rcG h o = true) (ha : racG a = true) : bsIn (bst h o a) :=
  foldS_in g ha _ bst0 (fun p hp => hp) bst0_in
theorem specBA_any (h o : Int) (a : ByteArray) (w : World) (ha : a.size ≤ maxLen) :
    Calls Tryd.prog 25 #[cn h o, .string a] w fun e w' => e = .returned (ansBA h o a) ∧ Below w.heap.size w w' := by
  have bx0 := Lib.hid (Box2.new w (.int .i64 h) (.int .i64 o) 27)
  have bl0 : Below w.heap.size w (w.alloc (.cells #[.int .i64 h, .int .i64 o] 27)) := bel_alloc (Below.refl _ _) _
  cases h1 : oneG h o a
  · rw [show ansBA h o a = fourV ⟨#[]⟩ 0 0 false from by unfold ansBA; rw [h1]; rfl]
    unfold fourV
    go_enter Tryd.func25, Tryd.ntmps25
    go_wp2_with fail
    refine (raOne_any h o a _ ha).mono ?_
    rintro e w1 ⟨rfl, hb1⟩
    rw [h1]
    go_wp2_with fail
    exact bodyPost_ret (v := .tuple #[.string ⟨#[]⟩, .int .i64 0, .int .i64 0, .bool false]) (by simp [results, Tryd.results25, go_sem]) rfl ⟨rfl, bel_trans bl0 hb1⟩
  · rw [show ansBA h o a = fourV (bst h o a).1 (bst h o a).2.1 ((bst h o a).2.1 + (bst h o a).2.2) true from by unfold ansBA; rw [h1]; rfl]
    unfold fourV
    obtain ⟨g, hr, _⟩ := one_in h1
    go_enter Tryd.func25, Tryd.ntmps25
    go_wp2_with fail
    refine (raOne_any h o a _ ha).mono ?_
    rintro e w1 ⟨rfl, hb1⟩
    rw [h1]
    obtain ⟨c0_1, c1_1, hk1⟩ := bx0.out.keep hb1
    go_wp2_with fail
    refine (raBest_any h o a _ g hr).mono ?_
    rintro e w2 ⟨rfl, hb2⟩
    go_wp2_with fail
    exact bodyPost_ret (v := .tuple #[.string (bst h o a).1, .int .i64 (bst h o a).2.1, .int .i64 ((bst h o a).2.1 + (bst h o a).2.2), .bool true]) (by simp [results, Tryd.results25, go_sem]) rfl ⟨rfl, bel_trans (bel_trans bl0 hb1) hb2⟩
theorem oddsChance0_any (f s : Int) (w : World) (hf : 0 ≤ f) (hs : 0 ≤ s) (hf' : f ≤ 400000) (hs' : s ≤ 400000) :
    Calls Tryd.prog 50 #[odV f s] w fun e w' => e = .returned (.tuple #[.int .i64 f, .int .i64 (f + s)]) ∧ Below w.heap.size w w' := by
  have hw : IntKind.i64.wrap (f + s) = f + s := IntWalk.i64_in _ (by omega)
  go_enter Tryd.func50, Tryd.ntmps50
  go_wp2_with fail
  repeat (go_quiet (fail); go_wp2_with fail)
  go_ret2
  exact ⟨rfl, bel_drewN (bel_alloc (Below.refl _ _) _) _⟩
theorem implBA_any (h o : Int) (a : ByteArray) (w : World) (ha : a.size ≤ maxLen) :
    Calls Tryd.prog 26 #[cn h o, .string a] w fun e w' => e = .returned (ansBA h o a) ∧ Below w.heap.size w w' := by
  have bx0 := Lib.hid (Box2.new w (.int .i64 h) (.int .i64 o) 27)
  have bl0 : Below w.heap.size w (w.alloc (.cells #[.int .i64 h, .int .i64 o] 27)) := bel_alloc (Below.refl _ _) _
  cases h1 : oneG h o a
  · rw [show ansBA h o a = fourV ⟨#[]⟩ 0 0 false from by unfold ansBA; rw [h1]; rfl]
    unfold fourV
    go_enter Tryd.func26, Tryd.ntmps26
    go_wp2_with fail
    refine (isAnswered_any h o a _ ha).mono ?_
    rintro e w1 ⟨rfl, hb1⟩
    rw [h1]
    go_wp2_with fail
    exact bodyPost_ret (v := .tuple #[.string ⟨#[]⟩, .int .i64 0, .int .i64 0, .bool false]) (by simp [results, Tryd.results26, go_sem]) rfl ⟨rfl, bel_trans bl0 hb1⟩
  · rw [show ansBA h o a = fourV (bst h o a).1 (bst h o a).2.1 ((bst h o a).2.1 + (bst h o a).2.2) true from by unfold ansBA; rw [h1]; rfl]
    unfold fourV
    obtain ⟨g, hr, _⟩ := one_in h1
    obtain ⟨i1, i2, i3, i4, i5⟩ := bst_in g hr
    go_enter Tryd.func26, Tryd.ntmps26
    go_wp2_with fail
    refine (isAnswered_any h o a _ ha).mono ?_
    rintro e w1 ⟨rfl, hb1⟩
    rw [h1]
    obtain ⟨c0_1, c1_1, hk1⟩ := bx0.out.keep hb1
    go_wp2_with fail
    refine (bestAnswer_any h o a _ g hr).mono ?_
    rintro e w2 ⟨rfl, hb2⟩
    have bl2 := bel_trans (bel_trans bl0 hb1) hb2
    go_wp2_with fail
    refine (oddsChance0_any (bst h o a).2.1 (bst h o a).2.2 _ i1 i3 i2 i4).mono ?_
    rintro e w3 ⟨rfl, hb3⟩
    go_wp2_with fail
    exact bodyPost_ret (v := .tuple #[.string (bst h o a).1, .int .i64 (bst h o a).2.1, .int .i64 ((bst h o a).2.1 + (bst h o a).2.2), .bool true]) (by simp [results, Tryd.results26, go_sem]) rfl ⟨rfl, bel_trans (bel_alloc bl2 _) hb3⟩

set_option maxHeartbeats 800000 in
theorem walkExactBestAnswer (h o : Int) (a : ByteArray) (w : World) (ha : (Lit.int .i64 h).wf = true) (hb : (Lit.int .i64 o).wf = true) (za : a.size ≤ maxLen) :
    Calls Tryd.prog 9 #[cn h o, .string a] w fun e w' => e = .returned (.bool true) ∧ Below w.heap.size w w' := by
  clear ha hb
  by_cases ya : a.size ≤ 1048576
  case neg =>
    go_enter Tryd.func9, Tryd.ntmps9
    go_wp2
    go_ret
    exact ⟨rfl, bel_alloc (Below.refl _ _) _⟩
  obtain ⟨b, x, y, ok, hv⟩ := ansBA_form h o a
  have Hv := Lib.hid hv
  clear hv
  have bx0 := Lib.hid (Box2.new w (.int .i64 h) (.int .i64 o) 24)
  have bl0 : Below w.heap.size w (w.alloc (.cells #[.int .i64 h, .int .i64 o] 24)) := bel_alloc (Below.refl _ _) _
  go_enter Tryd.func9, Tryd.ntmps9
  go_wp2_with fail
  refine (toCoin_any _ _ _).mono ?_
  rintro e w1 ⟨rfl, hb1⟩
  have bx1 := Lib.hid (bx0.out.keep hb1)
  have bl1 := bel_trans bl0 hb1
  obtain ⟨c0_1, c1_1, hk1⟩ := bx1.out
  go_wp2_with fail
  refine (specBA_any h o a _ za).mono ?_
  rintro e w2 ⟨rfl, hb2⟩
  rw [Hv.out]
  have bx2 := Lib.hid (bx1.out.keep hb2)
  have bl2 := bel_trans bl1 hb2
  obtain ⟨c0_2, c1_2, hk2⟩ := bx2.out
  go_wp2_with fail
  refine (toCoin_any _ _ _).mono ?_
  rintro e w3 ⟨rfl, hb3⟩
  have bx3 := Lib.hid (bx2.out.keep hb3)
  have bl3 := bel_trans bl2 hb3
  obtain ⟨c0_3, c1_3, hk3⟩ := bx3.out
  go_wp2_with fail
  refine (implBA_any h o a _ za).mono ?_
  rintro e w4 ⟨rfl, hb4⟩
  rw [Hv.out]
  have bx4 := Lib.hid (bx3.out.keep hb4)
  have bl4 := bel_trans bl3 hb4
  obtain ⟨c0_4, c1_4, hk4⟩ := bx4.out
  go_wp2_with fail
  go_ret
  exact ⟨rfl, bl4⟩
end Go.Proofs.YtjckmnbpfmcadabDoor
