/- BestAnswer: the contracts of the program and of its model, and the walk. -/
import Derived.Test.YthaoelenleedmaaDoorBst2
namespace Go.Proofs.YthaoelenleedmaaDoor
set_option linter.unusedSimpArgs false
open Go.ChangeShapes Go.WideShapes Go.ChangeAt Go.RowKit
set_option linter.unusedVariables false

def oneG (h o : Int) (a : ByteArray) : Bool := rcG h o && (racG a && decide (2 ≤ a.size))
theorem one_in {h o : Int} {a : ByteArray} (g : oneG h o a = true) : rcG h o = true ∧ racG a = true ∧ 2 ≤ a.size := by
  unfold oneG at g
  simp only [Bool.and_eq_true, decide_eq_true_iff] at g
  exact ⟨g.1, g.2.1, g.2.2⟩
theorem isAnswered_any (h o : Int) (a : ByteArray) (w : World) (ha : a.size ≤ maxLen) :
    Calls Tryd.prog 16 #[cn h o, .string a] w fun e w' => e = .returned (.bool (oneG h o a)) ∧ Below w.heap.size w w' := by
  have bl0 : Below w.heap.size w (w.alloc (.cells #[.int .i64 h, .int .i64 o] 27)) := bel_alloc (Below.refl _ _) _
  have hd : decide ((2 : Int) ≤ (a.size : Int)) = decide (2 ≤ a.size) := by rw [decide_eq_decide]; omega
  cases h1 : rcG h o
  · go_enter Tryd.func16, Tryd.ntmps16
    go_wp2_with fail
    refine (isRaceCoin_any h o _).mono ?_
    rintro e w1 ⟨rfl, b1⟩
    rw [h1]
    go_wp2_with fail
    go_ret
    exact ⟨by unfold oneG; rw [h1]; rfl, bel_trans bl0 b1⟩
  · cases h2 : racG a
    · go_enter Tryd.func16, Tryd.ntmps16
      go_wp2_with fail
      refine (isRaceCoin_any h o _).mono ?_
      rintro e w1 ⟨rfl, b1⟩
      rw [h1]
      go_wp2_with fail
      refine (isRacer_any a _ ha).mono ?_
      rintro e w2 ⟨rfl, b2⟩
      rw [h2]
      go_wp2_with fail
      go_ret
      exact ⟨by unfold oneG; rw [h1, h2]; rfl, bel_trans (bel_trans bl0 b1) b2⟩
    · have Hd := Lib.hid hd
      clear hd
      go_enter Tryd.func16, Tryd.ntmps16
      go_wp2_with fail
      refine (isRaceCoin_any h o _).mono ?_
      rintro e w1 ⟨rfl, b1⟩
      rw [h1]
      go_wp2_with fail
      refine (isRacer_any a _ ha).mono ?_
      rintro e w2 ⟨rfl, b2⟩
      rw [h2]
      go_wp2_with fail
      go_ret
      exact ⟨by unfold oneG; rw [h1, h2, ← Hd.out]; rfl, bel_trans (bel_trans bl0 b1) b2⟩
theorem raOne_any (h o : Int) (a : ByteArray) (w : World) (ha : a.size ≤ maxLen) :
    Calls Tryd.prog 13 #[cn h o, .string a] w fun e w' => e = .returned (.bool (oneG h o a)) ∧ Below w.heap.size w w' := by
  have bl0 : Below w.heap.size w (w.alloc (.cells #[.int .i64 h, .int .i64 o] 27)) := bel_alloc (Below.refl _ _) _
  have hd : decide ((1 : Int) < (a.size : Int)) = decide (2 ≤ a.size) := by rw [decide_eq_decide]; omega
  cases h1 : rcG h o
  · go_enter Tryd.func13, Tryd.ntmps13
    go_wp2_with fail
    refine (raCoin_any h o _).mono ?_
    rintro e w1 ⟨rfl, b1⟩
    rw [h1]
    go_wp2_with fail
    go_ret
    exact ⟨by unfold oneG; rw [h1]; rfl, bel_trans bl0 b1⟩
  · cases h2 : racG a
    · go_enter Tryd.func13, Tryd.ntmps13
      go_wp2_with fail
      refine (raCoin_any h o _).mono ?_
      rintro e w1 ⟨rfl, b1⟩
      rw [h1]
      go_wp2_with fail
      refine (raPattern_any a _ ha).mono ?_
      rintro e w2 ⟨rfl, rfl⟩
      rw [h2]
      go_wp2_with fail
      go_ret
      exact ⟨by unfold oneG; rw [h1, h2]; rfl, bel_trans bl0 b1⟩
    · have Hd := Lib.hid hd
      clear hd
      go_enter Tryd.func13, Tryd.ntmps13
      go_wp2_with fail
      refine (raCoin_any h o _).mono ?_
      rintro e w1 ⟨rfl, b1⟩
      rw [h1]
      go_wp2_with fail
      refine (raPattern_any a _ ha).mono ?_
      rintro e w2 ⟨rfl, rfl⟩
      rw [h2]
      go_wp2_with fail
      go_ret
      exact ⟨by unfold oneG; rw [h1, h2, ← Hd.out]; rfl, bel_trans bl0 b1⟩

def fourV (b : ByteArray) (x y : Int) (ok : Bool) : Value := .tuple #[.string b, .int .i64 x, .int .i64 y, .bool ok]
def ansBA (h o : Int) (a : ByteArray) : Value := if oneG h o a then fourV (bst h o a).1 (bst h o a).2.1 ((bst h o a).2.1 + (bst h o a).2.2) true else fourV ⟨#[]⟩ 0 0 false
theorem ansBA_form (h o : Int) (a : ByteArray) : ∃ (b : ByteArray) (x y : Int) (ok : Bool), ansBA h o a = .tuple #[.string b, .int .i64 x, .int .i64 y, .bool ok] := by
  unfold ansBA
  split
  · exact ⟨_, _, _, _, rfl⟩
  · exact ⟨_, _, _, _, rfl⟩
theorem bst_in {h o : Int} {a : ByteArray} (g : rcG h o = true) (ha : racG a = true) : bsIn (bst h o a) :=
  foldS_in g ha _ bst0 (fun p hp => hp) bst0_in
end Go.Proofs.YthaoelenleedmaaDoor
