/- Stakes: contracts of the functions that look at them, of the program and of its model. -/
import Derived.Test.YtfogipdhipipfabDoorPow
namespace Go.Proofs.YtfogipdhipipfabDoor
set_option linter.unusedSimpArgs false
open Go.ChangeShapes Go.WideShapes Go.ChangeAt Go.RowKit
set_option linter.unusedVariables false

abbrev sk (p g : Int) : Value := .agg #[.int .i64 p, .int .i64 g]
def skG (p g : Int) : Bool := inB g 1 16 && inB p 0 g
theorem sk_in {p g : Int} (h : skG p g = true) : 1 ≤ g ∧ g ≤ 16 ∧ 0 ≤ p ∧ p ≤ g := by
  unfold skG inB at h
  simp at h
  omega
theorem sk_of {p g : Int} (a : 1 ≤ g) (b : g ≤ 16) (c : 0 ≤ p) (d : p ≤ g) : skG p g = true := by
  unfold skG inB
  simp [a, b, c, d]
/-- The greatest stake. -/
def bd (p g : Int) : Int := if p < g - p then p else g - p
theorem bd_in {p g : Int} (h : skG p g = true) : 0 ≤ bd p g ∧ bd p g ≤ 16 ∧ bd p g ≤ p ∧ p + bd p g ≤ g := by
  obtain ⟨a, b, c, d⟩ := sk_in h
  unfold bd
  split <;> omega
/-- The least one. -/
def td (p g : Int) : Int := if 1 < bd p g then 1 else bd p g

theorem toStakes_any (p g : Int) (w : World) :
    Calls Tryd.prog 10 #[sk p g] w fun e w' => e = .returned (sk p g) ∧ Below w.heap.size w w' := by
  go_enter Tryd.func10, Tryd.ntmps10
  go_wp2
  refine bodyPost_ret (v := sk p g) (by simp [results, Tryd.results10, go_sem]) rfl ⟨rfl, ?_⟩
  repeat (first | assumption | with_reducible exact Below.refl _ _ | refine bel_alloc ?_ _ | refine bel_drewN ?_ _ | refine Below.drew ?_ | (refine Below.setCell ?_ (by simp) _) | (refine bel_trans ?_ (by assumption)))

theorem isUpTo_any (m n : Int) (w : World) :
    Calls Tryd.prog 63 #[.int .i64 m, .int .i64 n] w fun e w' => e = .returned (.bool (inB n 0 m)) ∧ w = w' := by
  by_cases h : 0 ≤ n
  · have hd : decide (0 ≤ n) = true := by simpa using h
    go_enter Tryd.func63, Tryd.ntmps63
    go_wp2
    go_ret
    exact ⟨by simp [inB, h], rfl⟩
  · have hd : decide (0 ≤ n) = false := by simpa using h
    go_enter Tryd.func63, Tryd.ntmps63
    go_wp2
    go_ret
    exact ⟨by simp [inB, hd], rfl⟩

theorem implAreStakes_any (p g : Int) (w : World) :
    Calls Tryd.prog 37 #[sk p g] w fun e w' => e = .returned (.bool (skG p g)) ∧ Below w.heap.size w w' := by
  by_cases h1 : 1 ≤ g
  · by_cases h2 : g ≤ 16
    · go_enter Tryd.func37, Tryd.ntmps37
      go_wp2_with fail
      refine (isUpTo_any _ _ _).mono ?_
      rintro e w1 ⟨rfl, rfl⟩
      go_wp2_with fail
      go_ret
      exact ⟨by simp [skG, inB, h1, h2], bel_alloc (Below.refl _ _) _⟩
    · have d2 : decide (g ≤ 16) = false := by simpa using h2
      go_enter Tryd.func37, Tryd.ntmps37
      go_wp2
      go_ret
      exact ⟨by simp [skG, inB, *], bel_alloc (Below.refl _ _) _⟩
  · have d1 : decide (1 ≤ g) = false := by simpa using h1
    go_enter Tryd.func37, Tryd.ntmps37
    go_wp2
    go_ret
    exact ⟨by simp [skG, inB, *], bel_alloc (Below.refl _ _) _⟩

theorem skGood_any (p g : Int) (w : World) :
    Calls Tryd.prog 33 #[sk p g] w fun e w' => e = .returned (.bool (skG p g)) ∧ Below w.heap.size w w' := by
  cases h1 : inB g 1 16
  · go_enter Tryd.func33, Tryd.ntmps33
    go_wp2_with (go_at_call 41; refine (l1In_any _ _ _ _).mono ?_; rintro e w' ⟨rfl, rfl⟩)
    go_ret
    exact ⟨by simp [skG, h1], bel_alloc (Below.refl _ _) _⟩
  · go_enter Tryd.func33, Tryd.ntmps33
    go_wp2_with (go_at_call 41; refine (l1In_any _ _ _ _).mono ?_; rintro e w' ⟨rfl, rfl⟩)
    go_ret
    exact ⟨by simp [skG, h1], bel_alloc (Below.refl _ _) _⟩

theorem missing_any (p g : Int) (w : World) (h : skG p g = true) :
    Calls Tryd.prog 65 #[sk p g] w fun e w' => e = .returned (.int .i64 (g - p)) ∧ Below w.heap.size w w' := by
  obtain ⟨a, b, c, d⟩ := sk_in h
  have hw : IntKind.i64.wrap (g - p) = g - p := IntWalk.i64_in _ (by omega)
  go_enter Tryd.func65, Tryd.ntmps65
  go_wp2
  go_ret
  exact ⟨rfl, bel_alloc (Below.refl _ _) _⟩

theorem skLeast_any (a b : Int) (w : World) :
    Calls Tryd.prog 62 #[.int .i64 a, .int .i64 b] w fun e w' => e = .returned (.int .i64 (if a < b then a else b)) ∧ w = w' := by
  by_cases h : a < b
  · rw [if_pos h]
    go_enter Tryd.func62, Tryd.ntmps62
    go_wp2
    go_ret
    exact ⟨rfl, rfl⟩
  · rw [if_neg h]
    go_enter Tryd.func62, Tryd.ntmps62
    go_wp2
    go_ret
    exact ⟨rfl, rfl⟩

theorem skBold_any (p g : Int) (w : World) (h : skG p g = true) :
    Calls Tryd.prog 36 #[sk p g] w fun e w' => e = .returned (.int .i64 (bd p g)) ∧ Below w.heap.size w w' := by
  obtain ⟨a, b, c, d⟩ := sk_in h
  have hw : IntKind.i64.wrap (g - p) = g - p := IntWalk.i64_in _ (by omega)
  have hL : ∀ W : World, Calls Tryd.prog 62 #[.int .i64 p, .int .i64 (g - p)] W fun e w' => e = .returned (.int .i64 (bd p g)) ∧ W = w' := fun W => skLeast_any p (g - p) W
  go_enter Tryd.func36, Tryd.ntmps36
  go_wp2_with (go_at_call 62; refine (hL _).mono ?_; rintro e w' ⟨rfl, rfl⟩)
  go_ret
  exact ⟨rfl, bel_alloc (Below.refl _ _) _⟩

set_option maxHeartbeats 1600000 in
theorem bold_any (p g : Int) (w : World) (h : skG p g = true) :
    Calls Tryd.prog 40 #[sk p g] w fun e w' => e = .returned (.int .i64 (bd p g)) ∧ Below w.heap.size w w' := by
  obtain ⟨a, b, c, d⟩ := sk_in h
  have bx := Lib.hid (Box2.new w (.int .i64 p) (.int .i64 g) 27)
  have bl := bel_alloc (Below.refl _ w) (.cells #[.int .i64 p, .int .i64 g] 27)
  go_enter Tryd.func40, Tryd.ntmps40
  go_wp2_with fail
  go_region_held3 (fun w' => w'.cell? ⟨w.heap.size, 0, none⟩ = some (.int .i64 p) ∧ w'.cell? ⟨w.heap.size, 1, none⟩ = some (.int .i64 g) ∧ w.heap.size < w'.heap.size ∧ Below w.heap.size w w')
    (first | exact held2_start bx.out bl | exact held2_keep (by assumption) hb5 | exact held2_drewN (by assumption) _ | assumption | go_keep)
    (first | (go_at_call 65; refine (missing_any p g _ h).mono ?_; rintro e w5 ⟨rfl, hb5⟩))
  all_goals
    obtain ⟨hbx9, hbl9⟩ := held2_below (by assumption)
    clear hbx9
    go_wp2 <;> (
      go_ret
      first
      | exact ⟨congrArg (fun z => Ending.returned (Value.int .i64 z)) (show g - p = bd p g from by unfold bd; split <;> omega), hbl9⟩
      | exact ⟨congrArg (fun z => Ending.returned (Value.int .i64 z)) (show p = bd p g from by unfold bd; split <;> omega), hbl9⟩)

theorem boldIf (p g : Int) : ∃ B, B = bd p g := ⟨_, rfl⟩
theorem timid_any (p g : Int) (w : World) (h : skG p g = true) :
    Calls Tryd.prog 43 #[sk p g] w fun e w' => e = .returned (.int .i64 (td p g)) ∧ Below w.heap.size w w' := by
  go_enter Tryd.func43, Tryd.ntmps43
  go_wp2_with fail
  refine (bold_any p g _ h).mono ?_
  rintro e w1 ⟨rfl, hb1⟩
  go_wp2
  all_goals
    go_ret
    first
    | exact ⟨congrArg (fun z => Ending.returned (Value.int .i64 z)) (show (1 : Int) = td p g from by unfold td; split <;> omega), bel_trans (bel_alloc (Below.refl _ _) _) hb1⟩
    | exact ⟨congrArg (fun z => Ending.returned (Value.int .i64 z)) (show bd p g = td p g from by unfold td; split <;> omega), bel_trans (bel_alloc (Below.refl _ _) _) hb1⟩

theorem isOver_any (p g : Int) (w : World) (h : skG p g = true) :
    Calls Tryd.prog 42 #[sk p g] w fun e w' => e = .returned (.bool (decide (bd p g = 0))) ∧ Below w.heap.size w w' := by
  go_enter Tryd.func42, Tryd.ntmps42
  go_wp2_with fail
  refine (bold_any p g _ h).mono ?_
  rintro e w1 ⟨rfl, hb1⟩
  go_wp2
  go_ret
  exact ⟨rfl, bel_trans (bel_alloc (Below.refl _ _) _) hb1⟩

def fail1 : Value := .tuple #[.int .i64 0, .bool false]
def ansBo (p g : Int) : Value := if skG p g && !decide (bd p g = 0) then .tuple #[.int .i64 (bd p g), .bool true] else fail1
theorem if_form1 (c : Bool) {u v : Value} (hu : ∃ (x : Int) (o : Bool), u = .tuple #[.int .i64 x, .bool o]) (hv : ∃ (x : Int) (o : Bool), v = .tuple #[.int .i64 x, .bool o]) : ∃ (x : Int) (o : Bool), (if c then u else v) = .tuple #[.int .i64 x, .bool o] := by
  cases c
  · exact hv
  · exact hu
theorem ansBo_form (p g : Int) : ∃ (x : Int) (o : Bool), ansBo p g = .tuple #[.int .i64 x, .bool o] := if_form1 _ ⟨_, _, rfl⟩ ⟨0, false, rfl⟩
theorem ansBo_no {p g : Int} (h : skG p g = false) : ansBo p g = .tuple #[.int .i64 0, .bool false] := by unfold ansBo; rw [h]; rfl
theorem ansBo_end {p g : Int} (h : bd p g = 0) : ansBo p g = .tuple #[.int .i64 0, .bool false] := by unfold ansBo; rw [h]; simp [fail1]
theorem ansBo_yes {p g : Int} (h : skG p g = true) (h0 : ¬ bd p g = 0) : ansBo p g = .tuple #[.int .i64 (bd p g), .bool true] := by unfold ansBo; rw [h]; simp [h0]
end Go.Proofs.YtfogipdhipipfabDoor
