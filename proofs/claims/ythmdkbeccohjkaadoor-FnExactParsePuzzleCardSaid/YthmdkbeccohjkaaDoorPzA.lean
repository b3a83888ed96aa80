/- Clues: whether they are any, of the program (by a door that recovers) and of its model. -/
import Derived.Test.YthmdkbeccohjkaaDoorPzL
import Derived.Tactics2
import Derived.Defers
import Derived.Recover
import Derived.Laws.Pointers
import Derived.WalkLawsBesides
namespace Go.Proofs.YthmdkbeccohjkaaDoor
set_option linter.unusedSimpArgs false
open Go.ChangeShapes Go.WideShapes Go.ChangeAt Go.RowKit
set_option linter.unusedVariables false

theorem upTo_any (m n : Int) (w : World) :
    Calls Tryd.prog 152 #[.int .i64 m, .int .i64 n] w fun e w' => e = .returned (.bool (inB n 0 m)) ∧ w = w' := by
  by_cases h : 0 ≤ n
  · have hd : decide (0 ≤ n) = true := by simpa using h
    go_enter Tryd.func152, Tryd.ntmps152
    go_wp2
    go_ret
    exact ⟨by simp [inB, h], rfl⟩
  · have hd : decide (0 ≤ n) = false := by simpa using h
    go_enter Tryd.func152, Tryd.ntmps152
    go_wp2
    go_ret
    exact ⟨by simp [inB, hd], rfl⟩
theorem kinds (k : Int) : k = 0 ∨ (k = 1 ∨ k = 2 ∨ k = 5) ∨ (k = 3 ∨ k = 4) ∨ (¬ k = 0 ∧ ¬ k = 1 ∧ ¬ k = 2 ∧ ¬ k = 3 ∧ ¬ k = 4 ∧ ¬ k = 5) := by omega
theorem clG_0 (a b : Int) : clG (0, a, b) = (decide (a = 0) && inB b 0 1) := by unfold clG; simp
theorem clG_1 {k : Int} (a b : Int) (h : k = 1 ∨ k = 2 ∨ k = 5) : clG (k, a, b) = (decide (a = 0) && inB b 0 100) := by
  unfold clG; rw [if_neg (by show ¬ k = 0; omega), if_pos h]
theorem clG_3 {k : Int} (a b : Int) (h : k = 3 ∨ k = 4) : clG (k, a, b) = (inB a 0 100 && (inB b 0 100 && decide (1 ≤ b))) := by
  unfold clG; rw [if_neg (by show ¬ k = 0; omega), if_neg (by show ¬ (k = 1 ∨ k = 2 ∨ k = 5); omega), if_pos h]
theorem clG_x {k : Int} (a b : Int) (h : ¬ k = 0 ∧ ¬ k = 1 ∧ ¬ k = 2 ∧ ¬ k = 3 ∧ ¬ k = 4 ∧ ¬ k = 5) : clG (k, a, b) = false := by
  unfold clG; rw [if_neg (by show ¬ k = 0; omega), if_neg (by show ¬ (k = 1 ∨ k = 2 ∨ k = 5); omega), if_neg (by show ¬ (k = 3 ∨ k = 4); omega)]

set_option maxHeartbeats 1600000 in
theorem isClue_any (k a b : Int) (w : World) :
    Calls Tryd.prog 141 #[chn k a b] w fun e w' => e = .returned (.bool (clG (k, a, b))) ∧ Below w.heap.size w w' := by
  have bl := bel_alloc (Below.refl _ w) (.cells #[.int .i64 k, .int .i64 a, .int .i64 b] 83)
  rcases kinds k with h | h | h | h
  · subst h
    rw [clG_0]
    by_cases ha : a = 0
    · subst ha
      go_enter Tryd.func141, Tryd.ntmps141
      go_wp2_with (go_at_call 152; refine (upTo_any _ _ _).mono ?_; rintro e w' ⟨rfl, rfl⟩)
      go_ret
      exact ⟨by simp, bl⟩
    · have hd : decide (a = 0) = false := by simpa using ha
      go_enter Tryd.func141, Tryd.ntmps141
      go_wp2
      go_ret
      exact ⟨by simp [ha], bl⟩
  · rw [clG_1 a b h]
    by_cases ha : a = 0
    · subst ha
      rcases h with rfl | rfl | rfl
      all_goals
        go_enter Tryd.func141, Tryd.ntmps141
        go_wp2_with (go_at_call 152; refine (upTo_any _ _ _).mono ?_; rintro e w' ⟨rfl, rfl⟩)
        go_ret
        exact ⟨by simp, bl⟩
    · have hd : decide (a = 0) = false := by simpa using ha
      rcases h with rfl | rfl | rfl
      all_goals
        go_enter Tryd.func141, Tryd.ntmps141
        go_wp2
        go_ret
        exact ⟨by simp [ha], bl⟩
  · rw [clG_3 a b h]
    cases h1 : inB a 0 100
    · rcases h with rfl | rfl
      all_goals
        go_enter Tryd.func141, Tryd.ntmps141
        go_wp2_with (go_at_call 152; refine (upTo_any _ _ _).mono ?_; rintro e w' ⟨rfl, rfl⟩)
        go_ret
        exact ⟨by simp [h1], bl⟩
    · cases h2 : inB b 0 100
      · rcases h with rfl | rfl
        all_goals
          go_enter Tryd.func141, Tryd.ntmps141
          go_wp2_with fail
          refine (upTo_any _ _ _).mono ?_
          rintro e w' ⟨rfl, rfl⟩
          rw [h1]
          go_wp2_with fail
          refine (upTo_any _ _ _).mono ?_
          rintro e w' ⟨rfl, rfl⟩
          rw [h2]
          go_wp2_with fail
          go_ret
          exact ⟨by simp, bl⟩
      · rcases h with rfl | rfl
        all_goals
          go_enter Tryd.func141, Tryd.ntmps141
          go_wp2_with fail
          refine (upTo_any _ _ _).mono ?_
          rintro e w' ⟨rfl, rfl⟩
          rw [h1]
          go_wp2_with fail
          refine (upTo_any _ _ _).mono ?_
          rintro e w' ⟨rfl, rfl⟩
          rw [h2]
          go_wp2_with fail
          go_ret
          exact ⟨by simp, bl⟩
  · rw [clG_x a b h]
    obtain ⟨k0, k1, k2, k3, k4, k5⟩ := h
    have d0 : decide (k = 0) = false := by simpa using k0
    have d1 : decide (k = 1) = false := by simpa using k1
    have d2 : decide (k = 2) = false := by simpa using k2
    have d3 : decide (k = 3) = false := by simpa using k3
    have d4 : decide (k = 4) = false := by simpa using k4
    have d5 : decide (k = 5) = false := by simpa using k5
    go_enter Tryd.func141, Tryd.ntmps141
    go_wp2
    go_ret
    exact ⟨rfl, bl⟩

set_option maxHeartbeats 1600000 in
theorem pzClue_any (k a b : Int) (w : World) :
    Calls Tryd.prog 104 #[chn k a b] w fun e w' => e = .returned (.bool (clG (k, a, b))) ∧ Below w.heap.size w w' := by
  have bl := bel_alloc (Below.refl _ w) (.cells #[.int .i64 k, .int .i64 a, .int .i64 b] 83)
  have hin : clG (k, a, b) = true → inB a 0 100 = true ∧ inB b 0 100 = true := fun h => by
    obtain ⟨_, _, h3, h4, h5, h6, _⟩ := clG_in h
    exact ⟨(inB_iff _ _ _).2 ⟨h3, h4⟩, (inB_iff _ _ _).2 ⟨h5, h6⟩⟩
  cases h1 : inB a 0 100
  · have hf : clG (k, a, b) = false := by cases q : clG (k, a, b); rfl; rw [(hin q).1] at h1; cases h1
    rw [hf]
    go_enter Tryd.func104, Tryd.ntmps104
    go_wp2_with fail
    refine (l1In_any _ _ _ _).mono ?_
    rintro e w' ⟨rfl, rfl⟩
    rw [h1]
    go_wp2_with fail
    go_ret
    exact ⟨rfl, bl⟩
  · cases h2 : inB b 0 100
    · have hf : clG (k, a, b) = false := by cases q : clG (k, a, b); rfl; rw [(hin q).2] at h2; cases h2
      rw [hf]
      go_enter Tryd.func104, Tryd.ntmps104
      go_wp2_with fail
      refine (l1In_any _ _ _ _).mono ?_
      rintro e w' ⟨rfl, rfl⟩
      rw [h1]
      go_wp2_with fail
      refine (l1In_any _ _ _ _).mono ?_
      rintro e w' ⟨rfl, rfl⟩
      rw [h2]
      go_wp2_with fail
      go_ret
      exact ⟨rfl, bl⟩
    · obtain ⟨b0, b1⟩ := (inB_iff _ _ _).1 h2
      obtain ⟨a0, a1⟩ := (inB_iff _ _ _).1 h1
      have hd : decide (b < 2) = inB b 0 1 := by unfold inB; by_cases q : b < 2 <;> simp [q] <;> omega
      have hd1 : decide (0 < b) = decide (1 ≤ b) := by by_cases q : 0 < b <;> simp [q] <;> omega
      have key : ∀ z, clG (k, a, b) = z → Calls Tryd.prog 104 #[chn k a b] w fun e w' => e = .returned (.bool z) ∧ Below w.heap.size w w' := by
        intro z hz
        have Hz := Lib.hid hz
        clear hz
        have Hd := Lib.hid hd
        have Hd1 := Lib.hid hd1
        clear hd hd1 hin
        go_enter Tryd.func104, Tryd.ntmps104
        go_wp2_with fail
        refine (l1In_any _ _ _ _).mono ?_
        rintro e w' ⟨rfl, rfl⟩
        rw [h1]
        go_wp2_with fail
        refine (l1In_any _ _ _ _).mono ?_
        rintro e w' ⟨rfl, rfl⟩
        rw [h2]
        rcases kinds k with h | h | h | h
        · subst h
          go_wp2_with fail
          all_goals
            go_ret
            refine ⟨?_, by repeat (first | assumption | with_reducible exact Below.refl _ _ | refine bel_alloc ?_ _ | refine bel_drewN ?_ _ | refine Below.drew ?_ | (refine Below.setCell ?_ (by simp) _) | (refine bel_trans ?_ (by assumption)))⟩
            rw [← Hz.out, clG_0, ← Hd.out]
            simp_all
        · rcases h with rfl | rfl | rfl
          all_goals
            go_wp2_with fail
            all_goals
              go_ret
              refine ⟨?_, bl⟩
              rw [← Hz.out, clG_1 a b (by omega), h2]
              by_cases q : a = 0 <;> simp_all
        · rcases h with rfl | rfl
          all_goals
            go_wp2_with fail
            all_goals
              go_ret
              refine ⟨?_, bl⟩
              rw [← Hz.out, clG_3 a b (by omega), h1, h2, ← Hd1.out]
              simp_all
        · have Hx := Lib.hid (clG_x a b h)
          obtain ⟨k0, k1, k2, k3, k4, k5⟩ := h
          have d0 : decide (k = 0) = false := by simpa using k0
          have d1 : decide (k = 1) = false := by simpa using k1
          have d2 : decide (k = 2) = false := by simpa using k2
          have d3 : decide (k = 3) = false := by simpa using k3
          have d4 : decide (k = 4) = false := by simpa using k4
          have d5 : decide (k = 5) = false := by simpa using k5
          go_wp2_with fail
          go_ret
          refine ⟨?_, bl⟩
          rw [← Hz.out, Hx.out]
          rfl
      exact key _ rfl

theorem mustBe_yes (k a b : Int) (w : World) (h : clG (k, a, b) = true) :
    Calls Tryd.prog 130 #[chn k a b] w fun e w' => e = .returned (.tuple #[]) ∧ Below w.heap.size w w' := by
  have bx := Lib.hid (Box3.new w (.int .i64 k) (.int .i64 a) (.int .i64 b) 83)
  have bl := bel_alloc (Below.refl _ w) (.cells #[.int .i64 k, .int .i64 a, .int .i64 b] 83)
  go_enter Tryd.func130, Tryd.ntmps130
  go_wp2_with fail
  refine (isClue_any _ _ _ _).mono ?_
  rintro e w2 ⟨rfl, b2⟩
  rw [h]
  go_wp2_with fail
  go_end0
  exact ⟨rfl, bel_trans bl b2⟩
theorem mustBe_no (k a b : Int) (w : World) (h : clG (k, a, b) = false) :
    Calls Tryd.prog 130 #[chn k a b] w fun e w' => e = .panicked [{ v := .iface 83 (chn k a b), recovered := false }] ∧ Below w.heap.size w w' := by
  have bx := Lib.hid (Box3.new w (.int .i64 k) (.int .i64 a) (.int .i64 b) 83)
  have bl := bel_alloc (Below.refl _ w) (.cells #[.int .i64 k, .int .i64 a, .int .i64 b] 83)
  go_enter Tryd.func130, Tryd.ntmps130
  go_wp2_with fail
  refine (isClue_any _ _ _ _).mono ?_
  rintro e w2 ⟨rfl, b2⟩
  rw [h]
  obtain ⟨c0, c1, c2, hk⟩ := bx.out.keep b2
  go_wp2
  exact ⟨rfl, rfl, bel_trans bl b2⟩
end Go.Proofs.YthmdkbeccohjkaaDoor
