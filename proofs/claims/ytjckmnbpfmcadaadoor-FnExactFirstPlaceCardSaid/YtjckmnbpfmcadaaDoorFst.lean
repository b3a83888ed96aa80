/- FirstPlace: the contracts of the program and of its model, and the walk. -/
import Derived.Test.YtjckmnbpfmcadaaDoorPlc
namespace Go.Proofs.YtjckmnbpfmcadaaDoor
set_option linter.unusedSimpArgs false
open Go.ChangeShapes Go.WideShapes Go.ChangeAt Go.RowKit
set_option linter.unusedVariables false

def fstV : List Int → Value
  | [] => .tuple #[.int .i64 0, .bool false]
  | x :: _ => .tuple #[.int .i64 x, .bool true]
theorem fstV_form (l : List Int) : ∃ (x : Int) (ok : Bool), fstV l = .tuple #[.int .i64 x, .bool ok] := by
  cases l
  · exact ⟨0, false, rfl⟩
  · exact ⟨_, true, rfl⟩
theorem fstV_pos {l : List Int} (h : 0 < l.length) : fstV l = .tuple #[.int .i64 (l.getD 0 0), .bool true] := by
  cases l
  · simp at h
  · rfl
set_option maxRecDepth 100000 in
set_option maxHeartbeats 1600000 in
theorem specFirst_any (p t : ByteArray) (w : World) (hp : p.size ≤ maxLen) (ht : t.size ≤ maxLen) :
    Calls Tryd.prog 28 #[.string p, .string t] w fun e w' => e = .returned (fstV (ansPlc p t)) ∧ Below w.heap.size w w' := by
  cases h1 : patG p
  · rw [show fstV (ansPlc p t) = .tuple #[.int .i64 0, .bool false] from by unfold ansPlc; rw [h1]; rfl]
    go_enter Tryd.func28, Tryd.ntmps28
    go_wp2_with fail
    refine (ptGood_any p _ hp).mono ?_
    rintro e w1 ⟨rfl, rfl⟩
    rw [h1]
    go_wp2_with fail
    go_ret2
    exact ⟨rfl, Below.refl _ _⟩
  · cases h2 : tossG t
    · rw [show fstV (ansPlc p t) = .tuple #[.int .i64 0, .bool false] from by unfold ansPlc; rw [h1, h2]; rfl]
      go_enter Tryd.func28, Tryd.ntmps28
      go_wp2_with fail
      refine (ptGood_any p _ hp).mono ?_
      rintro e w1 ⟨rfl, rfl⟩
      rw [h1]
      go_wp2_with fail
      refine (ptTosses_any t _ ht).mono ?_
      rintro e w2 ⟨rfl, rfl⟩
      rw [h2]
      go_wp2_with fail
      go_ret2
      exact ⟨rfl, Below.refl _ _⟩
    · obtain ⟨p1, p2, p3⟩ := pat_in h1
      have t40 := toss_in h2
      cases hl : ansPlc p t with
      | nil =>
        rw [show ansPlc p t = selR (plcB p t) p.size (t.size + 1 - p.size) from by unfold ansPlc; rw [h1, h2]; rfl] at hl
        have Hl := Lib.hid hl
        clear hl
        rw [show fstV [] = .tuple #[.int .i64 0, .bool false] from rfl]
        go_enter Tryd.func28, Tryd.ntmps28
        go_wp2_with fail
        refine (ptGood_any p _ hp).mono ?_
        rintro e w1 ⟨rfl, rfl⟩
        rw [h1]
        go_wp2_with fail
        refine (ptTosses_any t _ ht).mono ?_
        rintro e w2 ⟨rfl, rfl⟩
        rw [h2]
        go_wp2_with fail
        refine (ptPlaces_any p t _ p1 p2 t40).mono ?_
        rw [Hl.out]
        rintro e w3 ⟨v, rfl, r3, b3⟩
        rcases r3.form with ⟨_, A, cap, rfl⟩ | ⟨hx, _⟩
        · clear r3
          go_wp2_with fail
          go_ret2
          exact ⟨rfl, b3⟩
        · simp at hx
      | cons y ys =>
        rw [show ansPlc p t = selR (plcB p t) p.size (t.size + 1 - p.size) from by unfold ansPlc; rw [h1, h2]; rfl] at hl
        have Hl := Lib.hid hl
        clear hl
        rw [show fstV (y :: ys) = .tuple #[.int .i64 y, .bool true] from rfl]
        go_enter Tryd.func28, Tryd.ntmps28
        go_wp2_with fail
        refine (ptGood_any p _ hp).mono ?_
        rintro e w1 ⟨rfl, rfl⟩
        rw [h1]
        go_wp2_with fail
        refine (ptTosses_any t _ ht).mono ?_
        rintro e w2 ⟨rfl, rfl⟩
        rw [h2]
        go_wp2_with fail
        refine (ptPlaces_any p t _ p1 p2 t40).mono ?_
        rw [Hl.out]
        rintro e w3 ⟨v, rfl, r3, b3⟩
        rcases r3.form with ⟨hx, _⟩ | ⟨hx, g, cap, rfl, hbg, hgl, hlc, hcm⟩
        · simp at hx
        · have e0 := r3.at_ 0 hx
          simp only [List.getD_cons_zero] at e0
          have hx1 : 0 < (y :: ys).length := hx
          have hx2 : (((y :: ys).length : Int) == 0) = false := by simp; omega
          have hx3 : (0 : Int) < ((y :: ys).length : Int) := by omega
          clear r3 hx
          generalize (y :: ys).length = N at *
          go_wp2_with fail
          go_ret2
          exact ⟨rfl, b3⟩

set_option maxRecDepth 100000 in
set_option maxHeartbeats 1600000 in
theorem implFirst_any (p t : ByteArray) (w : World) (hp : p.size ≤ maxLen) (ht : t.size ≤ maxLen) :
    Calls Tryd.prog 29 #[.string p, .string t] w fun e w' => e = .returned (fstV (ansPlc p t)) ∧ Below w.heap.size w w' := by
  cases h1 : (patG p && tossG t)
  · rw [show fstV (ansPlc p t) = .tuple #[.int .i64 0, .bool false] from by unfold ansPlc; rw [h1]; rfl]
    go_enter Tryd.func29, Tryd.ntmps29
    go_wp2_with fail
    refine (implPlaces_any p t _ hp ht).mono ?_
    rw [h1]
    rintro e w1 ⟨v, rfl, r1, b1⟩
    have HR := Lib.hid r1
    clear r1
    go_wp2_with fail
    go_ret2
    exact ⟨rfl, b1⟩
  · cases hl : ansPlc p t with
    | nil =>
      have Hl := Lib.hid hl
      clear hl
      rw [show fstV [] = .tuple #[.int .i64 0, .bool false] from rfl]
      go_enter Tryd.func29, Tryd.ntmps29
      go_wp2_with fail
      refine (implPlaces_any p t _ hp ht).mono ?_
      rw [h1, Hl.out]
      rintro e w1 ⟨v, rfl, r1, b1⟩
      rcases r1.form with ⟨_, A, cap, rfl⟩ | ⟨hx, _⟩
      · clear r1
        go_wp2_with fail
        go_ret2
        exact ⟨rfl, b1⟩
      · simp at hx
    | cons y ys =>
      have Hl := Lib.hid hl
      clear hl
      rw [show fstV (y :: ys) = .tuple #[.int .i64 y, .bool true] from rfl]
      go_enter Tryd.func29, Tryd.ntmps29
      go_wp2_with fail
      refine (implPlaces_any p t _ hp ht).mono ?_
      rw [h1, Hl.out]
      rintro e w1 ⟨v, rfl, r1, b1⟩
      rcases r1.form with ⟨hx, _⟩ | ⟨hx, g, cap, rfl, hbg, hgl, hlc, hcm⟩
      · simp at hx
      · have e0 := r1.at_ 0 hx
        simp only [List.getD_cons_zero] at e0
        have hx1 : 0 < (y :: ys).length := hx
        have hx2 : (((y :: ys).length : Int) == 0) = false := by simp; omega
        have hx3 : (0 : Int) < ((y :: ys).length : Int) := by omega
        clear r1 hx
        generalize (y :: ys).length = N at *
        go_wp2_with fail
        go_ret2
        exact ⟨rfl, b1⟩

set_option maxHeartbeats 1600000 in
theorem walkExactFirstPlace (s t : ByteArray) (w : World) (hs : s.size ≤ maxLen) (ht : t.size ≤ maxLen) :
    Calls Tryd.prog 9 #[.string s, .string t] w fun e w' => e = .returned (.bool true) ∧ Below w.heap.size w w' := by
  by_cases z : s.size ≤ 1048576
  · by_cases z2 : t.size ≤ 1048576
    · obtain ⟨x, ok, hv⟩ := fstV_form (ansPlc s t)
      have Hv := Lib.hid hv
      clear hv
      go_enter Tryd.func9, Tryd.ntmps9
      go_wp2_with fail
      refine (specFirst_any s t _ hs ht).mono ?_
      rw [Hv.out]
      rintro e w1 ⟨rfl, b1⟩
      go_wp2_with fail
      refine (implFirst_any s t _ hs ht).mono ?_
      rw [Hv.out]
      rintro e w2 ⟨rfl, b2⟩
      go_wp2_with fail
      go_ret
      exact ⟨rfl, bel_trans b1 b2⟩
    · go_enter Tryd.func9, Tryd.ntmps9
      go_wp2
      go_ret
      exact ⟨rfl, Below.refl _ _⟩
  · go_enter Tryd.func9, Tryd.ntmps9
    go_wp2
    go_ret
    exact ⟨rfl, Below.refl _ _⟩
end Go.Proofs.YtjckmnbpfmcadaaDoor
