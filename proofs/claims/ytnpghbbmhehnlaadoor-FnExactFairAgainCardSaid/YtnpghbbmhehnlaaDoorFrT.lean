/- Many tosses: the contracts of the program and of its model, and the walk of AreManyTosses. -/
import Derived.Test.YtnpghbbmhehnlaaDoorPt
namespace Go.Proofs.YtnpghbbmhehnlaaDoor
open Go.ChangeShapes Go.WideShapes Go.ChangeAt Go.RowKit
set_option linter.unusedVariables false

set_option maxHeartbeats 400000 in
theorem frTosses_any (s : ByteArray) (w : World) (hs : s.size ≤ maxLen) :
    Calls Tryd.prog 22 #[.string s] w fun e w' => e = .returned (.bool (upG 200 s)) ∧ w = w' := by
  unfold maxLen at hs
  by_cases h1 : s.size ≤ 200
  · go_enter Tryd.func22, Tryd.ntmps22
    go_wp2
    go_loop [3] (fun i => ∃ k : Nat, k ≤ s.size ∧ i = .int .i64 k ∧ Hid (∀ j, (hj : j < s.size) → j < k → tosB s[j] = true)) (fun i => s.size - (intOf i).toNat)
    case atStart => exact ⟨0, by omega, rfl, fun _ _ h => by omega⟩
    case round =>
      obtain ⟨k, hk, rfl, hall⟩ := hrel
      by_cases hlt : k < s.size
      · go_wp2
        · have a1 : ¬ (s[k].toNat : Int) = 104 := by assumption
          have a2 : ((s[k].toNat : Int) != 116) = true := by assumption
          go_ret
          exact ⟨by rw [show upG 200 s = false from by unfold upG; rw [allT_not s k hlt (tos_no a1 a2), Bool.and_false]]; rfl, rfl⟩
        · have a2 : ((s[k].toNat : Int) != 116) = false := by assumption
          exact ⟨⟨k + 1, by omega, by go_num, tos_step hall.out hlt (tos_t a2)⟩, by simp [intOf]; omega⟩
        · have a2 : (s[k].toNat : Int) = 104 := by assumption
          exact ⟨⟨k + 1, by omega, by go_num, tos_step hall.out hlt (tos_h a2)⟩, by simp [intOf]; omega⟩
      · go_wp2
        go_ret
        exact ⟨by rw [show upG 200 s = true from by unfold upG; rw [allT_of s (fun j hj => hall.out j hj (by omega))]; simpa using h1]; rfl, rfl⟩
  · go_enter Tryd.func22, Tryd.ntmps22
    go_wp2
    go_ret
    exact ⟨by rw [show upG 200 s = false from by unfold upG; simp [h1]]; rfl, rfl⟩

theorem specMany_any (s : ByteArray) (w : World) (hs : s.size ≤ maxLen) :
    Calls Tryd.prog 9 #[.string s] w fun e w' => e = .returned (.bool (upG 200 s)) ∧ w = w' := by
  go_enter Tryd.func9, Tryd.ntmps9
  go_wp2_with fail
  refine (frTosses_any s _ hs).mono ?_
  rintro e w' ⟨rfl, rfl⟩
  go_wp2_with fail
  go_ret
  exact ⟨rfl, rfl⟩

theorem implMany_any (s : ByteArray) (w : World) (hs : s.size ≤ maxLen) :
    Calls Tryd.prog 10 #[.string s] w fun e w' => e = .returned (.bool (upG 200 s)) ∧ Below w.heap.size w w' := by
  go_enter Tryd.func10, Tryd.ntmps10
  go_wp2_with fail
  refine (upTo_any 200 s _ (by omega) hs).mono ?_
  rintro e w' ⟨rfl, hb⟩
  go_wp2_with fail
  go_ret
  exact ⟨rfl, hb⟩

theorem walkExactAreManyTosses (s : ByteArray) (w : World) (hs : s.size ≤ maxLen) :
    Calls Tryd.prog 3 #[.string s] w fun e w' => e = .returned (.bool true) ∧ Below w.heap.size w w' := by
  by_cases z : s.size ≤ 1048576
  · go_enter Tryd.func3, Tryd.ntmps3
    go_wp2_with fail
    refine (specMany_any s _ hs).mono ?_
    rintro e w1 ⟨rfl, rfl⟩
    go_wp2_with fail
    refine (implMany_any s _ hs).mono ?_
    rintro e w2 ⟨rfl, hb⟩
    go_wp2_with fail
    go_ret
    exact ⟨rfl, hb⟩
  · go_enter Tryd.func3, Tryd.ntmps3
    go_wp2
    go_ret
    exact ⟨rfl, Below.refl _ _⟩
end Go.Proofs.YtnpghbbmhehnlaaDoor
