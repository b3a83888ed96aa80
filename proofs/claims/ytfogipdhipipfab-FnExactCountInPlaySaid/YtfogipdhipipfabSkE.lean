/- CountRuins, CountGoals: the contracts of the program and of its model, and the walks. -/
import Derived.Test.YtfogipdhipipfabSkD
namespace Go.Proofs.Ytfogipdhipipfab
set_option linter.unusedSimpArgs false
open Go.ChangeShapes Go.WideShapes Go.ChangeAt Go.RowKit
set_option linter.unusedVariables false

def cpG (p g m n : Int) : Bool := skG p g && inB n 0 m
theorem cp_in {p g m n : Int} (h : cpG p g m n = true) : skG p g = true ∧ 0 ≤ n ∧ n ≤ m := by
  unfold cpG at h
  rw [Bool.and_eq_true, inB_iff] at h
  exact h
theorem arePlays_any (p g m n : Int) (w : World) :
    Calls Try.prog 35 #[sk p g, .int .i64 m, .int .i64 n] w fun e w' => e = .returned (.bool (cpG p g m n)) ∧ Below w.heap.size w w' := by
  have bx := Lib.hid (Box2.new w (.int .i64 p) (.int .i64 g) 26)
  cases h : skG p g
  · rw [show cpG p g m n = false from by unfold cpG; rw [h]; rfl]
    go_enter Try.func35, Try.ntmps35
    go_wp2_with fail
    refine (implAreStakes_any _ _ _).mono ?_
    rintro e w1 ⟨rfl, hb1⟩
    rw [h]
    go_wp2_with fail
    go_ret
    exact ⟨rfl, bel_trans (bel_alloc (Below.refl _ _) _) hb1⟩
  · rw [show cpG p g m n = inB n 0 m from by unfold cpG; rw [h]; rfl]
    go_enter Try.func35, Try.ntmps35
    go_wp2_with fail
    refine (implAreStakes_any _ _ _).mono ?_
    rintro e w1 ⟨rfl, hb1⟩
    rw [h]
    go_wp2_with fail
    refine (isUpTo_any _ _ _).mono ?_
    rintro e w2 ⟨rfl, rfl⟩
    go_wp2_with fail
    go_ret
    exact ⟨rfl, bel_trans (bel_alloc (Below.refl _ _) _) hb1⟩
theorem skTossed_any (p g n : Int) (w : World) :
    Calls Try.prog 33 #[sk p g, .int .i64 n] w fun e w' => e = .returned (.bool (cpG p g 30 n)) ∧ Below w.heap.size w w' := by
  have bx := Lib.hid (Box2.new w (.int .i64 p) (.int .i64 g) 26)
  cases h : skG p g
  · rw [show cpG p g 30 n = false from by unfold cpG; rw [h]; rfl]
    go_enter Try.func33, Try.ntmps33
    go_wp2_with fail
    refine (skGood_any _ _ _).mono ?_
    rintro e w1 ⟨rfl, hb1⟩
    rw [h]
    go_wp2_with fail
    go_ret
    exact ⟨rfl, bel_trans (bel_alloc (Below.refl _ _) _) hb1⟩
  · rw [show cpG p g 30 n = inB n 0 30 from by unfold cpG; rw [h]; rfl]
    go_enter Try.func33, Try.ntmps33
    go_wp2_with fail
    refine (skGood_any _ _ _).mono ?_
    rintro e w1 ⟨rfl, hb1⟩
    rw [h]
    go_wp2_with fail
    refine (l1In_any _ _ _ _).mono ?_
    rintro e w2 ⟨rfl, rfl⟩
    go_wp2_with fail
    go_ret
    exact ⟨rfl, bel_trans (bel_alloc (Below.refl _ _) _) hb1⟩
def cval (k : Nat) (p g n : Int) : Int := if k = 0 then ctV p.toNat g.toNat n.toNat 0 else if k = 1 then ctV p.toNat g.toNat n.toNat g.toNat else ctO (ctV p.toNat g.toNat n.toNat) (g.toNat - 1)
def ansCT (k : Nat) (p g n : Int) : Value := if cpG p g 30 n then .tuple #[.int .i64 (cval k p g n), .bool true] else fail1
theorem ansCT_form (k : Nat) (p g n : Int) : ∃ (x : Int) (o : Bool), ansCT k p g n = .tuple #[.int .i64 x, .bool o] := if_form1 _ ⟨_, _, rfl⟩ ⟨0, false, rfl⟩
theorem ansCT_no {k : Nat} {p g n : Int} (h : cpG p g 30 n = false) : ansCT k p g n = .tuple #[.int .i64 0, .bool false] := by unfold ansCT; rw [h]; rfl
theorem ansCT_yes {k : Nat} {p g n : Int} (h : cpG p g 30 n = true) : ansCT k p g n = .tuple #[.int .i64 (cval k p g n), .bool true] := by unfold ansCT; rw [h]; rfl
end Go.Proofs.Ytfogipdhipipfab
