/- ChanceFirst, DoesBeat, LeadingNumber: contracts of the program and of its model. -/
import Derived.Test.YtjckmnbpfmcadabDoorOdd
namespace Go.Proofs.YtjckmnbpfmcadabDoor
set_option linter.unusedSimpArgs false
open Go.ChangeShapes Go.WideShapes Go.ChangeAt Go.RowKit
set_option linter.unusedVariables false

set_option maxRecDepth 100000 in
set_option maxHeartbeats 3200000 in
theorem oddsOf_any (h o : Int) (a b : ByteArray) (w : World) (g : rcG h o = true) (t : twoG a b = true) :
    Calls Tryd.prog 49 #[cn h o, .string a, .string b] w fun e w' => e = .returned (odV (odF h o a b) (odO h o a b)) ∧ Below w.heap.size w w' := by
  have bx := Lib.hid ((Box2.new w (.int .i64 h) (.int .i64 o) 27).keep (bel_alloc (Below.refl _ _) (.cells #[.int .i64 0, .int .i64 0] 53)))
  have by2 := Lib.hid (Box2.new (w.alloc (.cells #[.int .i64 h, .int .i64 o] 27)) (.int .i64 0) (.int .i64 0) 53)
  have bl := Lib.hid (bel_alloc (bel_alloc (Below.refl _ w) (.cells #[.int .i64 h, .int .i64 o] 27)) (.cells #[.int .i64 0, .int .i64 0] 53))
  obtain ⟨W0, hW0⟩ : ∃ W0, W0 = (w.alloc (.cells #[.int .i64 h, .int .i64 o] 27)).alloc (.cells #[.int .i64 0, .int .i64 0] 53) := ⟨_, rfl⟩
  obtain ⟨⟨x1, x2⟩, y1, y2⟩ := odX_all g t
  have LL := Lib.hid (leadI g t)
  have hF : Hid (low (odX h o a b) (odX h o a b) (odX h o b a) = odF h o a b) := rfl
  have hO : Hid (low (odX h o b a) (odX h o a b) (odX h o b a) = odO h o a b) := rfl
  have hX : ldN h o b b - ldN h o b a = odX h o a b := rfl
  have hY : ldN h o a a - ldN h o a b = odX h o b a := rfl
  generalize odF h o a b = F at *
  generalize odO h o a b = O at *
  generalize odX h o a b = X at *
  generalize odX h o b a = Y at *
  have hw1 : IntKind.i64.wrap (ldN h o b b - ldN h o b a) = X := by rw [hX]; exact IntWalk.i64_in _ (by omega)
  have hw2 : IntKind.i64.wrap (ldN h o a a - ldN h o a b) = Y := by rw [hY]; exact IntWalk.i64_in _ (by omega)
  have LT := Lib.hid (fun W => lowestTerms_any X Y W (by omega) (by omega) (by omega) (by omega))
  clear hX hY g t
  go_enter Tryd.func49, Tryd.ntmps49
  go_wp2_with fail
  rw [← hW0] at bx by2 bl ⊢
  have sz0 : w.heap.size + 1 < W0.heap.size := by rw [hW0]; simp
  have fz0 : W0.frozen? ⟨w.heap.size + 1, 0, none⟩ = false := by rw [hW0]; simp [go_sem]
  have fz1 : W0.frozen? ⟨w.heap.size + 1, 1, none⟩ = false := by rw [hW0]; simp [go_sem]
  rw [show (w.alloc (.cells #[.int .i64 h, .int .i64 o] 27)).heap.size = w.heap.size + 1 from by simp] at by2
  clear hW0
  go_region_held3 (fun w' => w'.cell? ⟨w.heap.size, 0, none⟩ = some (.int .i64 h) ∧ w'.cell? ⟨w.heap.size, 1, none⟩ = some (.int .i64 o) ∧ w.heap.size < w'.heap.size ∧ Below W0.heap.size W0 w')
    (first | exact held2_start bx.out (Below.refl _ W0) | exact held2_keep (by assumption) hb5 | exact held2_drewN (by assumption) _ | assumption | go_keep)
    (first | (go_at_call 44; refine (LL.out _ _ _ (by simp) (by simp)).mono ?_; rintro e w5 ⟨rfl, hb5⟩) | (go_at_call 70; refine (LT.out _).mono ?_; rintro e w7 ⟨rfl, n7, rfl⟩))
  all_goals
    obtain ⟨hbx9, hbl9⟩ := held2_below (by assumption)
    rw [hF.out, hO.out]
    have by9 := by2.out.keep hbl9
    obtain ⟨q0, q1, q2⟩ := by9
    have fy0 := (hbl9.frozen (p := ⟨w.heap.size + 1, 0, none⟩) sz0).trans fz0
    have fy1 := (hbl9.frozen (p := ⟨w.heap.size + 1, 1, none⟩) sz0).trans fz1
    have bl9 := bel_trans bl.out hbl9
    clear hbx9
    go_wp2
    refine bodyPost_ret (v := odV F O) (by simp [results, Tryd.results49, go_sem, q0, q1, q2]) rfl ⟨rfl, ?_⟩
    exact (bl9.setCell (by simp) _).setCell (by simp) _

theorem oddsChance_any (f s : Int) (w : World) (hf : 1 ≤ f) (hs : 1 ≤ s) (hf' : f ≤ 400000) (hs' : s ≤ 400000) :
    Calls Tryd.prog 50 #[odV f s] w fun e w' => e = .returned (.tuple #[.int .i64 f, .int .i64 (f + s)]) ∧ Below w.heap.size w w' := by
  have hw : IntKind.i64.wrap (f + s) = f + s := IntWalk.i64_in _ (by omega)
  go_enter Tryd.func50, Tryd.ntmps50
  go_wp2_with fail
  repeat (go_quiet (fail); go_wp2_with fail)
  go_ret2
  exact ⟨rfl, bel_drewN (bel_alloc (Below.refl _ _) _) _⟩
theorem oddsBeat_any (f s : Int) (w : World) :
    Calls Tryd.prog 56 #[odV f s] w fun e w' => e = .returned (.bool (decide (s < f))) ∧ Below w.heap.size w w' := by
  go_enter Tryd.func56, Tryd.ntmps56
  go_wp2
  go_ret
  exact ⟨rfl, bel_alloc (Below.refl _ _) _⟩
def sgnI (n : Int) : Int := if 0 < n then 1 else if n < 0 then -1 else 0
theorem sgnI_pos (n : Int) : 0 < sgnI n ↔ 0 < n := by
  unfold sgnI
  split
  · omega
  · split <;> omega
theorem l1Sign_any (n : Int) (w : World) :
    Calls Tryd.prog 77 #[.int .i64 n] w fun e w' => e = .returned (.int .i64 (sgnI n)) ∧ w = w' := by
  unfold sgnI
  by_cases h1 : 0 < n
  · rw [if_pos h1]
    go_enter Tryd.func77, Tryd.ntmps77
    go_wp2
    go_ret
    exact ⟨rfl, rfl⟩
  · rw [if_neg h1]
    by_cases h2 : n < 0
    · rw [if_pos h2]
      go_enter Tryd.func77, Tryd.ntmps77
      go_wp2
      go_ret
      exact ⟨rfl, rfl⟩
    · rw [if_neg h2]
      go_enter Tryd.func77, Tryd.ntmps77
      go_wp2
      go_ret
      exact ⟨rfl, rfl⟩
end Go.Proofs.YtjckmnbpfmcadabDoor
