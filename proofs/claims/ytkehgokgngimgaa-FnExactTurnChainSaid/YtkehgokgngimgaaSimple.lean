/- The laws of chapter 1 whose functions hold neither loops nor powers: the walks. -/
import Derived.Test.YtkehgokgngimgaaParts
namespace Go.Proofs.Ytkehgokgngimgaa
open Go.ChangeShapes Go.WideShapes Go.ChangeAt Go.RowKit
set_option linter.unusedVariables false

theorem inR_of {a b c : Int} (h : good a b c = true) : inR a b c := by
  unfold good inB at h
  unfold inR
  simp at h
  omega

/-! ### TurnChain -/
def turnV (a b c : Int) : Value := if good a b c then .tuple #[chn b a c, .bool true] else .tuple #[chn 0 0 0, .bool false]

set_option maxHeartbeats 400000 in
theorem specTurn_any (a b c : Int) (w : World) :
    Calls Try.prog 54 #[chn a b c] w fun e w' => e = .returned (turnV a b c) ∧ Below w.heap.size w w' := by
  cases h1 : good a b c
  · rw [show turnV a b c = .tuple #[chn 0 0 0, .bool false] from by unfold turnV; rw [h1]; rfl]
    go_enter Try.func54, Try.ntmps54
    go_wp2_with fail
    refine (cnGood_any _ _ _ _).mono ?_
    rintro e w1 ⟨rfl, hb1⟩
    rw [h1]
    obtain ⟨hc1, hf1⟩ := bcell hb1
    have hz1 : w.heap.size + 1 < w1.heap.size := by have := hb1.size; simp at this; omega
    go_wp2_with fail
    refine bodyPost_ret (v := .tuple #[chn 0 0 0, .bool false]) (by simp [results, Try.results54, hc1, go_sem]) rfl ⟨rfl, ?_⟩
    repeat (first | assumption | with_reducible exact Below.refl _ _ | refine bel_alloc ?_ _ | refine bel_drewN ?_ _ | refine Below.drew ?_ | (refine Below.setCell ?_ (by simp) _) | (refine bel_trans ?_ (by assumption)))
  · rw [show turnV a b c = .tuple #[chn b a c, .bool true] from by unfold turnV; rw [h1]; rfl]
    go_enter Try.func54, Try.ntmps54
    go_wp2_with fail
    refine (cnGood_any _ _ _ _).mono ?_
    rintro e w1 ⟨rfl, hb1⟩
    rw [h1]
    obtain ⟨hc1, hf1⟩ := bcell hb1
    have hz1 : w.heap.size + 1 < w1.heap.size := by have := hb1.size; simp at this; omega
    go_wp2_with fail
    refine bodyPost_ret (v := .tuple #[chn b a c, .bool true]) (by simp [results, Try.results54, hc1, go_sem]) rfl ⟨rfl, ?_⟩
    repeat (first | assumption | with_reducible exact Below.refl _ _ | refine bel_alloc ?_ _ | refine bel_drewN ?_ _ | refine Below.drew ?_ | (refine Below.setCell ?_ (by simp) _) | (refine bel_trans ?_ (by assumption)))

set_option maxHeartbeats 400000 in
theorem implTurn_any (a b c : Int) (w : World) :
    Calls Try.prog 55 #[chn a b c] w fun e w' => e = .returned (turnV a b c) ∧ Below w.heap.size w w' := by
  cases h1 : good a b c
  · rw [show turnV a b c = .tuple #[chn 0 0 0, .bool false] from by unfold turnV; rw [h1]; rfl]
    go_enter Try.func55, Try.ntmps55
    go_wp2_with fail
    refine (implIsChain_any _ _ _ _).mono ?_
    rintro e w1 ⟨rfl, hb1⟩
    rw [h1]
    obtain ⟨hc1, hf1⟩ := bcell hb1
    have hz1 : w.heap.size + 1 < w1.heap.size := by have := hb1.size; simp at this; omega
    go_wp2_with fail
    refine bodyPost_ret (v := .tuple #[chn 0 0 0, .bool false]) (by simp [results, Try.results55, hc1, go_sem]) rfl ⟨rfl, ?_⟩
    repeat (first | assumption | with_reducible exact Below.refl _ _ | refine bel_alloc ?_ _ | refine bel_drewN ?_ _ | refine Below.drew ?_ | (refine Below.setCell ?_ (by simp) _) | (refine bel_trans ?_ (by assumption)))
  · rw [show turnV a b c = .tuple #[chn b a c, .bool true] from by unfold turnV; rw [h1]; rfl]
    go_enter Try.func55, Try.ntmps55
    go_wp2_with fail
    refine (implIsChain_any _ _ _ _).mono ?_
    rintro e w1 ⟨rfl, hb1⟩
    rw [h1]
    obtain ⟨hc1, hf1⟩ := bcell hb1
    have hz1 : w.heap.size + 1 < w1.heap.size := by have := hb1.size; simp at this; omega
    go_wp2_with fail
    refine bodyPost_ret (v := .tuple #[chn b a c, .bool true]) (by simp [results, Try.results55, hc1, go_sem]) rfl ⟨rfl, ?_⟩
    repeat (first | assumption | with_reducible exact Below.refl _ _ | refine bel_alloc ?_ _ | refine bel_drewN ?_ _ | refine Below.drew ?_ | (refine Below.setCell ?_ (by simp) _) | (refine bel_trans ?_ (by assumption)))

set_option maxHeartbeats 400000 in
theorem eqChain_any (a b c : Int) (w : World) :
    Calls Try.prog 56 #[chn a b c, chn a b c] w fun e w' => e = .returned (.bool true) ∧ Below w.heap.size w w' := by
  go_enter Try.func56, Try.ntmps56
  go_wp2
  go_ret
  refine ⟨rfl, ?_⟩
  repeat (first | assumption | with_reducible exact Below.refl _ _ | refine bel_alloc ?_ _ | refine bel_drewN ?_ _ | refine Below.drew ?_ | (refine Below.setCell ?_ (by simp) _) | (refine bel_trans ?_ (by assumption)))

set_option maxHeartbeats 400000 in
theorem walkExactTurnChain (a b c : Int) (w : World) (ha : (Lit.int .i64 a).wf = true) (hb : (Lit.int .i64 b).wf = true) (hc : (Lit.int .i64 c).wf = true) :
    Calls Try.prog 18 #[chn a b c] w fun e w' => e = .returned (.bool true) ∧ Below w.heap.size w w' := by
  clear ha hb hc
  have bx := Lib.hid (Box3.new w (.int .i64 a) (.int .i64 b) (.int .i64 c) 23)
  have key : ∃ (x y z : Int) (o : Bool), turnV a b c = .tuple #[chn x y z, .bool o] := by
    unfold turnV; cases good a b c
    · exact ⟨0, 0, 0, false, rfl⟩
    · exact ⟨b, a, c, true, rfl⟩
  obtain ⟨x, y, z, o, hv⟩ := key
  have Hv := Lib.hid hv
  clear hv
  go_enter Try.func18, Try.ntmps18
  go_wp2_with fail
  refine (toChain_any _ _ _ _).mono ?_
  rintro e w1 ⟨rfl, hb1⟩
  have bx1 := Lib.hid (bx.out.keep hb1)
  go_wp2_with fail
  refine (specTurn_any _ _ _ _).mono ?_
  rintro e w2 ⟨rfl, hb2⟩
  rw [Hv.out]
  have by2 := Lib.hid (Box3.new w2 (.int .i64 x) (.int .i64 y) (.int .i64 z) 25)
  obtain ⟨c0, c1, c2, hk⟩ := bx1.out.keep hb2
  go_wp2_with fail
  refine (toChain_any _ _ _ _).mono ?_
  rintro e w3 ⟨rfl, hb3⟩
  have by3 := Lib.hid (by2.out.keep hb3)
  go_wp2_with fail
  refine (implTurn_any _ _ _ _).mono ?_
  rintro e w4 ⟨rfl, hb4⟩
  rw [Hv.out]
  obtain ⟨d0, d1, d2, hk4⟩ := by3.out.keep hb4
  go_wp2_with fail
  refine (eqChain_any _ _ _ _).mono ?_
  rintro e w5 ⟨rfl, hb5⟩
  go_wp2_with fail
  go_ret
  refine ⟨rfl, ?_⟩
  repeat (first | assumption | with_reducible exact Below.refl _ _ | refine bel_alloc ?_ _ | refine bel_drewN ?_ _ | refine Below.drew ?_ | (refine Below.setCell ?_ (by simp) _) | (refine bel_trans ?_ (by assumption)))
end Go.Proofs.Ytkehgokgngimgaa
