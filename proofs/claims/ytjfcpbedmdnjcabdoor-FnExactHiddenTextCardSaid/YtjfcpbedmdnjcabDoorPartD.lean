/- Contracts of the parts of chances: what follows a day, long shares, powers. -/
import Derived.Test.YtjfcpbedmdnjcabDoorWeather
import Derived.Test.YtjfcpbedmdnjcabDoorPow
namespace Go.Proofs.YtjfcpbedmdnjcabDoor
set_option linter.unusedSimpArgs false
open Go.ChangeShapes Go.WideShapes Go.ChangeAt Go.RowKit
set_option linter.unusedVariables false

theorem cnNext_any (a b c d f : Int) (w : World) (hd : dayV d) (hf : dayV f) (hr : inR a b c) :
    Calls Tryd.prog 77 #[chn a b c, .int .u8 d, .int .u8 f] w fun e w' => e = .returned (.int .i64 (stp a b c d f)) ∧ Below w.heap.size w w' := by
  obtain ⟨r1, r2, r3, r4, r5, r6⟩ := hr
  rcases hd with rfl | rfl <;> rcases hf with rfl | rfl
  · have hs : stp a b c 100 100 = c - a := by simp [stp, chg]
    rw [hs]; clear hs
    go_enter Tryd.func77, Tryd.ntmps77
    go_wp2
    go_ret
    exact ⟨rfl, bel_alloc (Below.refl _ _) _⟩
  · have hs : stp a b c 100 119 = a := by simp [stp, chg]
    rw [hs]; clear hs
    go_enter Tryd.func77, Tryd.ntmps77
    go_wp2
    go_ret
    exact ⟨rfl, bel_alloc (Below.refl _ _) _⟩
  · have hs : stp a b c 119 100 = b := by simp [stp, chg]
    rw [hs]; clear hs
    go_enter Tryd.func77, Tryd.ntmps77
    go_wp2
    go_ret
    exact ⟨rfl, bel_alloc (Below.refl _ _) _⟩
  · have hs : stp a b c 119 119 = c - b := by simp [stp, chg]
    rw [hs]; clear hs
    go_enter Tryd.func77, Tryd.ntmps77
    go_wp2
    go_ret
    exact ⟨rfl, bel_alloc (Below.refl _ _) _⟩

def mixB (a b : Int) : Bool := decide (1 ≤ a) && decide (1 ≤ b)

theorem dayV_turn {d : Int} (hd : dayV d) : dayV (219 - d) := by unfold dayV at *; omega

end Go.Proofs.YtjfcpbedmdnjcabDoor
