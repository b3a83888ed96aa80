/- How the chances of two racers are to each other: contracts of the program and of its model. -/
import Derived.Test.YtjckmnbpfmcadabDoorLd2
namespace Go.Proofs.YtjckmnbpfmcadabDoor
set_option linter.unusedSimpArgs false
open Go.ChangeShapes Go.WideShapes Go.ChangeAt Go.RowKit
set_option linter.unusedVariables false

theorem two_use {a b : ByteArray} (t : twoG a b = true) : allT a = true ∧ allT b = true ∧ a.size = b.size ∧ 1 ≤ a.size ∧ a.size ≤ 5 ∧ a ≠ b := by
  obtain ⟨t1, t2, t3, t4⟩ := two_in t
  obtain ⟨a1, a2, a3⟩ := rac_in t1
  obtain ⟨b1, b2, b3⟩ := rac_in t2
  exact ⟨a3, b3, t3, a1, a2, t4⟩
theorem od_all {h o : Int} {a b : ByteArray} (g : rcG h o = true) (t : twoG a b = true) : 1 ≤ odF h o a b ∧ odF h o a b ≤ 400000 ∧ 1 ≤ odO h o a b ∧ odO h o a b ≤ 400000 ∧ Int.gcd (odF h o a b) (odO h o a b) = 1 := by
  obtain ⟨g1, r1, r2, r3, r4⟩ := rc_in g
  obtain ⟨ta, tb, ts, t1, t5, tn⟩ := two_use t
  exact od_in h o a b r1 r2 r4 ta tb ts t1 t5 tn
theorem odX_all {h o : Int} {a b : ByteArray} (g : rcG h o = true) (t : twoG a b = true) : (1 ≤ odX h o a b ∧ odX h o a b ≤ 400000) ∧ (1 ≤ odX h o b a ∧ odX h o b a ≤ 400000) := by
  obtain ⟨g1, r1, r2, r3, r4⟩ := rc_in g
  obtain ⟨ta, tb, ts, t1, t5, tn⟩ := two_use t
  exact ⟨odX_in h o a b r1 r2 r4 ta tb ts t1 t5 tn, odX_in h o b a r1 r2 r4 tb ta ts.symm (by omega) (by omega) tn.symm⟩
theorem leadI {h o : Int} {a b : ByteArray} (g : rcG h o = true) (t : twoG a b = true) (x y : ByteArray) (W : World) (hx : x = a ∨ x = b) (hy : y = a ∨ y = b) :
    Calls Tryd.prog 44 #[cn h o, .string x, .string y] W fun e w' => e = .returned (.int .i64 (ldN h o x y)) ∧ Below W.heap.size W w' := by
  obtain ⟨ta, tb, ts, t1, t5, tn⟩ := two_use t
  rcases hx with rfl | rfl <;> rcases hy with rfl | rfl <;> exact implLead_any h o _ _ W g (by assumption) (by omega) (by omega)
theorem leadS {h o : Int} {a b : ByteArray} (g : rcG h o = true) (t : twoG a b = true) (x y : ByteArray) (W : World) (hx : x = a ∨ x = b) (hy : y = a ∨ y = b) :
    Calls Tryd.prog 39 #[cn h o, .string x, .string y] W fun e w' => e = .returned (.int .i64 (ldN h o x y)) ∧ Below W.heap.size W w' := by
  obtain ⟨ta, tb, ts, t1, t5, tn⟩ := two_use t
  rcases hx with rfl | rfl <;> rcases hy with rfl | rfl <;> exact specLead_any h o _ _ W g (by omega) (by omega)
abbrev odV (f s : Int) : Value := .agg #[.int .i64 f, .int .i64 s]
theorem Box2.at2 {w W : World} {k : Nat} {x y : Value} (h : Box2 w k x y) (hb : Below w.heap.size w W) : Box2 W k x y := h.keep hb

set_option maxRecDepth 100000 in
set_option maxHeartbeats 3200000 in
theorem raOdds_any (h o : Int) (a b : ByteArray) (w : World) (g : rcG h o = true) (t : twoG a b = true) :
    Calls Tryd.prog 51 #[cn h o, .string a, .string b] w fun e w' => e = .returned (.tuple #[.int .i64 (odF h o a b), .int .i64 (odO h o a b)]) ∧ Below w.heap.size w w' := by
  have bx := Lib.hid (Box2.new w (.int .i64 h) (.int .i64 o) 27)
  have bl := bel_alloc (Below.refl _ w) (.cells #[.int .i64 h, .int .i64 o] 27)
  obtain ⟨⟨x1, x2⟩, y1, y2⟩ := odX_all g t
  have LL := Lib.hid (leadS g t)
  have hF : Hid (low (odX h o a b) (odX h o a b) (odX h o b a) = odF h o a b) := rfl
  have hO : Hid (low (odX h o b a) (odX h o a b) (odX h o b a) = odO h o a b) := rfl
  have hX : ldN h o b b - ldN h o b a = odX h o a b := rfl
  have hY : ldN h o a a - ldN h o a b = odX h o b a := rfl
  generalize odF h o a b = F at *
  generalize odO h o a b = O at *
  generalize odX h o a b = X at *
  generalize odX h o b a = Y at *
  have hw1 : IntKind.i64.wrap (ldN h o b b - ldN h o b a) = X := by rw [hX]; exact IntWalk.i64_in _ (by omega)
  have hw2 : IntKind.i64.wrap (ldN h o a a - ldN h o a b) = Y := by rw [hY]; exact IntWalk.i64_in _ (by omega)
  have LT := Lib.hid (fun W => cnLow_any X Y W (by omega) (by omega) (by omega) (by omega))
  clear hX hY g t
  go_enter Tryd.func51, Tryd.ntmps51
  go_wp2_with fail
  go_region_held3 (fun w' => w'.cell? ⟨w.heap.size, 0, none⟩ = some (.int .i64 h) ∧ w'.cell? ⟨w.heap.size, 1, none⟩ = some (.int .i64 o) ∧ w.heap.size < w'.heap.size ∧ Below w.heap.size w w')
    (first | exact held2_start bx.out bl | exact held2_keep (by assumption) hb5 | exact held2_drewN (by assumption) _ | assumption | go_keep)
    (first | (go_at_call 39; refine (LL.out _ _ _ (by simp) (by simp)).mono ?_; rintro e w5 ⟨rfl, hb5⟩) | (go_at_call 38; refine (LT.out _).mono ?_; rintro e w7 ⟨rfl, n7, rfl⟩))
  all_goals
    obtain ⟨hbx9, hbl9⟩ := held2_below (by assumption)
    clear hbx9
    rw [hF.out, hO.out]
    go_wp2
    go_ret2
    exact ⟨rfl, hbl9⟩
end Go.Proofs.YtjckmnbpfmcadabDoor
