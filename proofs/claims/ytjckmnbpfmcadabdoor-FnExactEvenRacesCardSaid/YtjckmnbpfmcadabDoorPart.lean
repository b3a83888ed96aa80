/- The chance of tosses, as the program and as its model tell it. -/
import Derived.Test.YtjckmnbpfmcadabDoorPt
import Derived.Test.YtjckmnbpfmcadabDoorPow
import Derived.Deep.RegionHeld3
namespace Go.Proofs.YtjckmnbpfmcadabDoor
set_option linter.unusedSimpArgs false
open Go.ChangeShapes Go.WideShapes Go.ChangeAt Go.RowKit
set_option linter.unusedVariables false

theorem count_any (s : ByteArray) (w : World) :
    Calls Tryd.prog 84 #[.string s, .string ⟨#[104]⟩] w fun e w' => e = .returned (.int .i64 (hds s s.size)) ∧ w = w' :=
  (Tryd.strings_Count_one s 104 w).mono fun _ _ ⟨a, b⟩ => ⟨by rw [hds_all]; exact a, b.symm⟩

set_option maxHeartbeats 1600000 in
theorem part_any (h o : Int) (s : ByteArray) (w : World) (g : coinG h o = true) (h8 : s.size ≤ 8) :
    Calls Tryd.prog 73 #[cn h o, .string s] w fun e w' => e = .returned (.int .i64 (prA h o s)) ∧ Below w.heap.size w w' := by
  obtain ⟨r1, r2, r3, r4⟩ := coin_in g
  have bx := Lib.hid (Box2.new w (.int .i64 h) (.int .i64 o) 27)
  have bl := bel_alloc (Below.refl _ w) (.cells #[.int .i64 h, .int .i64 o] 27)
  have hl := hds_le s s.size
  obtain ⟨p0, p1⟩ := prK_le8 g s s.size h8
  have hA : prA h o s = h ^ hds s s.size * (o - h) ^ (s.size - hds s s.size) := rfl
  have HA := Lib.hid hA
  unfold prK at p0 p1
  clear hA
  generalize hm : hds s s.size = m at *
  have Hm := Lib.hid hm
  clear hm
  have hw1 : IntKind.i64.wrap ((s.size : Int) - (m : Int)) = ((s.size - m : Nat) : Int) := by rw [IntWalk.i64_in _ (by omega)]; omega
  have hw2 : IntKind.i64.wrap (h ^ m * (o - h) ^ (s.size - m)) = h ^ m * (o - h) ^ (s.size - m) := IntWalk.i64_in _ (by omega)
  go_enter Tryd.func73, Tryd.ntmps73
  go_wp2_with fail
  refine (count_any s _).mono ?_
  rw [Hm.out]
  rintro e w1 ⟨rfl, rfl⟩
  go_wp2_with fail
  go_region_held3 (fun w' => w'.cell? ⟨w.heap.size, 0, none⟩ = some (.int .i64 h) ∧ w'.cell? ⟨w.heap.size, 1, none⟩ = some (.int .i64 o) ∧ w.heap.size < w'.heap.size ∧ Below w.heap.size w w')
    (first | exact held2_start bx.out bl | exact held2_keep (by assumption) hb5 | exact held2_drewN (by assumption) _ | assumption | go_keep)
    (first | (go_at_call_of 72 (Value.int IntKind.i64 h); refine (power_any h m _ r1 (by omega) (by omega)).mono ?_; rintro e w6 ⟨rfl, rfl⟩) | (go_at_call 74; refine (tails_any h o _ g).mono ?_; rintro e w5 ⟨rfl, hb5⟩) | (go_at_call_of 72 (Value.int IntKind.i64 (o - h)); refine (power_any (o - h) (s.size - m) _ (by omega) (by omega) (by omega)).mono ?_; rintro e w7 ⟨rfl, rfl⟩))
  all_goals
    obtain ⟨hbx9, hbl9⟩ := held2_below (by assumption)
    clear hbx9
    go_wp2
    go_ret
    exact ⟨by rw [HA.out]; rfl, hbl9⟩

end Go.Proofs.YtjckmnbpfmcadabDoor
