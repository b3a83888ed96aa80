/- A chain that is turned: the contract of the program. -/
import Derived.Test.YtjfcpbedmdnjcacNum
namespace Go.Proofs.Ytjfcpbedmdnjcac
set_option linter.unusedSimpArgs false
open Go.ChangeShapes Go.WideShapes Go.ChangeAt Go.RowKit
set_option linter.unusedVariables false

/-! ### TurnChain -/
def turnV (a b c : Int) : Value := if good a b c then .tuple #[chn b a c, .bool true] else .tuple #[chn 0 0 0, .bool false]

set_option maxHeartbeats 400000 in
theorem implTurn_any (a b c : Int) (w : World) :
    Calls Try.prog 29 #[chn a b c] w fun e w' => e = .returned (turnV a b c) ∧ Below w.heap.size w w' := by
  cases h1 : good a b c
  · rw [show turnV a b c = .tuple #[chn 0 0 0, .bool false] from by unfold turnV; rw [h1]; rfl]
    go_enter Try.func29, Try.ntmps29
    go_wp2_with fail
    refine (implIsChain_any _ _ _ _).mono ?_
    rintro e w1 ⟨rfl, hb1⟩
    rw [h1]
    obtain ⟨hc1, hf1⟩ := bcell hb1
    have hz1 : w.heap.size + 1 < w1.heap.size := by have := hb1.size; simp at this; omega
    go_wp2_with fail
    refine bodyPost_ret (v := .tuple #[chn 0 0 0, .bool false]) (by simp [results, Try.results29, hc1, go_sem]) rfl ⟨rfl, ?_⟩
    repeat (first | assumption | with_reducible exact Below.refl _ _ | refine bel_alloc ?_ _ | refine bel_drewN ?_ _ | refine Below.drew ?_ | (refine Below.setCell ?_ (by simp) _) | (refine bel_trans ?_ (by assumption)))
  · rw [show turnV a b c = .tuple #[chn b a c, .bool true] from by unfold turnV; rw [h1]; rfl]
    go_enter Try.func29, Try.ntmps29
    go_wp2_with fail
    refine (implIsChain_any _ _ _ _).mono ?_
    rintro e w1 ⟨rfl, hb1⟩
    rw [h1]
    obtain ⟨hc1, hf1⟩ := bcell hb1
    have hz1 : w.heap.size + 1 < w1.heap.size := by have := hb1.size; simp at this; omega
    go_wp2_with fail
    refine bodyPost_ret (v := .tuple #[chn b a c, .bool true]) (by simp [results, Try.results29, hc1, go_sem]) rfl ⟨rfl, ?_⟩
    repeat (first | assumption | with_reducible exact Below.refl _ _ | refine bel_alloc ?_ _ | refine bel_drewN ?_ _ | refine Below.drew ?_ | (refine Below.setCell ?_ (by simp) _) | (refine bel_trans ?_ (by assumption)))

set_option maxHeartbeats 400000 in
theorem eqChain_any (a b c : Int) (w : World) :
    Calls Try.prog 32 #[chn a b c, chn a b c] w fun e w' => e = .returned (.bool true) ∧ Below w.heap.size w w' := by
  go_enter Try.func32, Try.ntmps32
  go_wp2
  go_ret
  refine ⟨rfl, ?_⟩
  repeat (first | assumption | with_reducible exact Below.refl _ _ | refine bel_alloc ?_ _ | refine bel_drewN ?_ _ | refine Below.drew ?_ | (refine Below.setCell ?_ (by simp) _) | (refine bel_trans ?_ (by assumption)))

end Go.Proofs.Ytjfcpbedmdnjcac
