/- Contracts of the parts of chances: what follows a day, long shares, powers. -/
import Derived.Test.YtggflgmjncjmbaaWeather
import Derived.Test.YtggflgmjncjmbaaPow
namespace Go.Proofs.Ytggflgmjncjmbaa
set_option linter.unusedSimpArgs false
open Go.ChangeShapes Go.WideShapes Go.ChangeAt Go.RowKit
set_option linter.unusedVariables false

def mixB (a b : Int) : Bool := decide (1 ≤ a) && decide (1 ≤ b)

theorem mixes_any (a b c : Int) (w : World) :
    Calls Try.prog 97 #[chn a b c] w fun e w' => e = .returned (.bool (mixB a b)) ∧ Below w.heap.size w w' := by
  by_cases h1 : 1 ≤ a
  · by_cases h2 : 1 ≤ b
    · have hm : mixB a b = true := by simp [mixB]; omega
      rw [hm]
      go_enter Try.func97, Try.ntmps97
      go_wp2
      go_ret
      exact ⟨rfl, bel_alloc (Below.refl _ _) _⟩
    · have hm : mixB a b = false := by simp [mixB]; omega
      rw [hm]
      have hd : decide (1 ≤ b) = false := by simpa using h2
      go_enter Try.func97, Try.ntmps97
      go_wp2
      go_ret
      exact ⟨rfl, bel_alloc (Below.refl _ _) _⟩
  · have hm : mixB a b = false := by simp [mixB]; omega
    rw [hm]
    have hd : decide (1 ≤ a) = false := by simpa using h1
    go_enter Try.func97, Try.ntmps97
    go_wp2
    go_ret
    exact ⟨rfl, bel_alloc (Below.refl _ _) _⟩

theorem dayV_turn {d : Int} (hd : dayV d) : dayV (219 - d) := by unfold dayV at *; omega

theorem share_any (a b c d : Int) (w : World) (hd : dayV d) :
    Calls Try.prog 107 #[wth a b c d] w fun e w' => e = .returned (.int .i64 (chg a b (219 - d))) ∧ Below w.heap.size w w' := by
  go_enter Try.func107, Try.ntmps107
  go_wp2_with fail
  refine (turned_any _ _ _ _ _ hd).mono ?_
  rintro e w1 ⟨rfl, hb1⟩
  go_wp2_with fail
  refine (changing_any _ _ _ _ _ (dayV_turn hd)).mono ?_
  rintro e w2 ⟨rfl, hb2⟩
  go_wp2_with fail
  go_ret
  exact ⟨rfl, bel_trans (bel_trans (bel_alloc (Below.refl _ _) _) hb1) hb2⟩

end Go.Proofs.Ytggflgmjncjmbaa
