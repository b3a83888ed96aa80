/- MeanForRoll: the contracts of the program and of its model, and the walk. -/
import Derived.Test.YtnpghbbmhehnlaaPow
import Derived.Test.YtnpghbbmhehnlaaShelf
namespace Go.Proofs.Ytnpghbbmhehnlaa
open Go.ChangeShapes Go.WideShapes Go.ChangeAt Go.RowKit
set_option linter.unusedVariables false

/-- How many binary digits tell so many numbers. -/
def dgN (s : Int) : Nat := if s ≤ 1 then 0 else if s ≤ 2 then 1 else if s ≤ 4 then 2 else if s ≤ 8 then 3 else 4
theorem dgN_le (s : Int) : dgN s ≤ 4 := by unfold dgN; repeat (split <;> try omega)
theorem dgN_lt (s : Int) (k : Nat) (hs : s ≤ 12) (hk : k ≤ 4) : ((2 : Int) ^ k < s) ↔ k < dgN s := by
  match k, hk with
  | 0, _ | 1, _ | 2, _ | 3, _ | 4, _ =>
    unfold dgN
    simp
    repeat (split <;> try omega)
theorem die_list (s : Int) (h0 : 1 ≤ s) (h1 : s ≤ 12) : s = 1 ∨ s = 2 ∨ s = 3 ∨ s = 4 ∨ s = 5 ∨ s = 6 ∨ s = 7 ∨ s = 8 ∨ s = 9 ∨ s = 10 ∨ s = 11 ∨ s = 12 := by omega

theorem isDie_any (s : Int) (w : World) :
    Calls Try.prog 28 #[.int .i64 s] w fun e w' => e = .returned (.bool (inB s 1 12)) ∧ w = w' := by
  by_cases h : 1 ≤ s
  · by_cases h2 : s ≤ 12
    · go_enter Try.func28, Try.ntmps28
      go_wp2
      go_ret
      exact ⟨by simp [inB, h, h2], rfl⟩
    · have d2 : decide (s ≤ 12) = false := by simpa using h2
      go_enter Try.func28, Try.ntmps28
      go_wp2
      go_ret
      exact ⟨by simp [inB, h, h2], rfl⟩
  · have hd : decide (1 ≤ s) = false := by simpa using h
    go_enter Try.func28, Try.ntmps28
    go_wp2
    go_ret
    exact ⟨by simp [inB, hd], rfl⟩

theorem frSides_any (s : Int) (w : World) :
    Calls Try.prog 26 #[.int .i64 s] w fun e w' => e = .returned (.bool (inB s 1 12)) ∧ w = w' := by
  go_enter Try.func26, Try.ntmps26
  go_wp2_with fail
  refine (l1In_any _ _ _ _).mono ?_
  rintro e w' ⟨rfl, rfl⟩
  go_wp2_with fail
  go_ret
  exact ⟨rfl, rfl⟩

theorem bitLen_dg (s : Int) (h0 : 1 ≤ s) (h1 : s ≤ 12) : Lib.bitLen (s - 1).toNat = dgN s := by
  rcases die_list s h0 h1 with rfl | rfl | rfl | rfl | rfl | rfl | rfl | rfl | rfl | rfl | rfl | rfl <;> decide

theorem digitsFor_any (s : Int) (w : World) (h0 : 1 ≤ s) (h1 : s ≤ 12) :
    Calls Try.prog 29 #[.int .i64 s] w fun e w' => e = .returned (.int .i64 (dgN s)) ∧ w = w' := by
  have hb := Lib.hid (bitLen_dg s h0 h1)
  have hu : IntKind.u64.wrap (s - 1) = s - 1 := IntWalk.u64_in _ (by omega)
  go_enter Try.func29, Try.ntmps29
  go_wp2_with fail
  refine (Try.bits_Len (s - 1) _ (by omega) (by omega)).mono ?_
  rw [hb.out]
  rintro e w' ⟨rfl, hw⟩
  subst hw
  go_wp2
  go_ret
  exact ⟨rfl, rfl⟩

theorem frDigits_any (s : Int) (w : World) (h0 : 1 ≤ s) (h1 : s ≤ 12) :
    Calls Try.prog 27 #[.int .i64 s] w fun e w' => e = .returned (.int .i64 (dgN s)) ∧ w = w' := by
  have hd := dgN_le s
  go_enter Try.func27, Try.ntmps27
  go_wp2
  go_loop [3] (fun i => ∃ k : Nat, k ≤ dgN s ∧ i = .int .i64 k) (fun i => 4 - (intOf i).toNat)
  case atStart => exact ⟨0, by omega, rfl⟩
  case round =>
    obtain ⟨k, hk, rfl⟩ := hrel
    have hlt := dgN_lt s k h1 (by omega)
    have hc : k = 0 ∨ k = 1 ∨ k = 2 ∨ k = 3 ∨ k = 4 := by omega
    rcases hc with rfl | rfl | rfl | rfl | rfl
    · by_cases hl : (1 : Int) < s
      · have h3 : 0 < dgN s := hlt.1 (by simpa using hl)
        clear hlt
        go_wp2
        exact ⟨⟨1, by omega, rfl⟩, by simp [intOf]⟩
      · have h3 : ¬ 0 < dgN s := fun q => hl (by simpa using hlt.2 q)
        have he : dgN s = 0 := by omega
        have He := Lib.hid he
        clear hlt he
        go_wp2
        go_ret
        exact ⟨by rw [He.out]; rfl, rfl⟩
    · by_cases hl : (2 : Int) < s
      · have h3 : 1 < dgN s := hlt.1 (by simpa using hl)
        clear hlt
        go_wp2
        exact ⟨⟨2, by omega, rfl⟩, by simp [intOf]⟩
      · have h3 : ¬ 1 < dgN s := fun q => hl (by simpa using hlt.2 q)
        have he : dgN s = 1 := by omega
        have He := Lib.hid he
        clear hlt he
        go_wp2
        go_ret
        exact ⟨by rw [He.out]; rfl, rfl⟩
    · by_cases hl : (4 : Int) < s
      · have h3 : 2 < dgN s := hlt.1 (by simpa using hl)
        clear hlt
        go_wp2
        exact ⟨⟨3, by omega, rfl⟩, by simp [intOf]⟩
      · have h3 : ¬ 2 < dgN s := fun q => hl (by simpa using hlt.2 q)
        have he : dgN s = 2 := by omega
        have He := Lib.hid he
        clear hlt he
        go_wp2
        go_ret
        exact ⟨by rw [He.out]; rfl, rfl⟩
    · by_cases hl : (8 : Int) < s
      · have h3 : 3 < dgN s := hlt.1 (by simpa using hl)
        clear hlt
        go_wp2
        exact ⟨⟨4, by omega, rfl⟩, by simp [intOf]⟩
      · have h3 : ¬ 3 < dgN s := fun q => hl (by simpa using hlt.2 q)
        have he : dgN s = 3 := by omega
        have He := Lib.hid he
        clear hlt he
        go_wp2
        go_ret
        exact ⟨by rw [He.out]; rfl, rfl⟩
    · by_cases hl : (16 : Int) < s
      · have h3 : 4 < dgN s := hlt.1 (by simpa using hl)
        clear hlt
        omega
      · have h3 : ¬ 4 < dgN s := fun q => hl (by simpa using hlt.2 q)
        have he : dgN s = 4 := by omega
        have He := Lib.hid he
        clear hlt he
        go_wp2
        go_ret
        exact ⟨by rw [He.out]; rfl, rfl⟩

def ansFR (s : Int) : Value := if inB s 1 12 then lowV (dgN s * 2 ^ dgN s) s else failV
theorem ansFR_form (s : Int) : ∃ (x y : Int) (ok : Bool), ansFR s = .tuple #[.int .i64 x, .int .i64 y, .bool ok] := if_form _ (lowV_form _ _) failV_form

theorem specFR_any (s : Int) (w : World) :
    Calls Try.prog 15 #[.int .i64 s] w fun e w' => e = .returned (ansFR s) ∧ Below w.heap.size w w' := by
  cases h1 : inB s 1 12
  · rw [show ansFR s = failV from by unfold ansFR; rw [h1]; rfl]
    unfold failV
    go_enter Try.func15, Try.ntmps15
    go_wp2_with fail
    refine (frSides_any s _).mono ?_
    rintro e w1 ⟨rfl, rfl⟩
    rw [h1]
    go_wp2_with fail
    go_ret3
    exact ⟨rfl, Below.refl _ _⟩
  · rw [show ansFR s = lowV (dgN s * 2 ^ dgN s) s from by unfold ansFR; rw [h1]; rfl]
    unfold lowV
    obtain ⟨s0, s1⟩ := (inB_iff _ _ _).1 h1
    have hd := dgN_le s
    generalize hk : dgN s = k at *
    have Hk := Lib.hid hk
    clear hk
    have hc : k = 0 ∨ k = 1 ∨ k = 2 ∨ k = 3 ∨ k = 4 := by omega
    rcases hc with rfl | rfl | rfl | rfl | rfl
    all_goals
      first | rw [show (((0 : Nat) : Int) * 2 ^ 0) = 0 from rfl] | rw [show (((1 : Nat) : Int) * 2 ^ 1) = 2 from rfl] | rw [show (((2 : Nat) : Int) * 2 ^ 2) = 8 from rfl] | rw [show (((3 : Nat) : Int) * 2 ^ 3) = 24 from rfl] | rw [show (((4 : Nat) : Int) * 2 ^ 4) = 64 from rfl]
      go_enter Try.func15, Try.ntmps15
      go_wp2_with fail
      refine (frSides_any s _).mono ?_
      rintro e w1 ⟨rfl, rfl⟩
      rw [h1]
      go_wp2_with fail
      refine (frDigits_any s _ s0 s1).mono ?_
      rintro e w1 ⟨rfl, rfl⟩
      rw [Hk.out]
      go_wp2_with fail
      refine (cnLow_any _ s _ (by omega) (by omega) (by omega) (by omega)).mono ?_
      rintro e w2 ⟨rfl, n2, rfl⟩
      go_wp2_with fail
      go_ret3
      exact ⟨rfl, bel_drewN (Below.refl _ _) n2⟩

theorem pw4 (k : Nat) (h : k ≤ 4) : (1 : Int) ≤ 2 ^ k ∧ (2 : Int) ^ k ≤ 16 := by
  match k, h with
  | 0, _ | 1, _ | 2, _ | 3, _ | 4, _ => decide
theorem pw5 (k : Nat) (h : k ≤ 4) : (0 : Int) ≤ k * 2 ^ k ∧ (k : Int) * 2 ^ k ≤ 64 := by
  match k, h with
  | 0, _ | 1, _ | 2, _ | 3, _ | 4, _ => decide
theorem implFR_any (s : Int) (w : World) :
    Calls Try.prog 16 #[.int .i64 s] w fun e w' => e = .returned (ansFR s) ∧ Below w.heap.size w w' := by
  cases h1 : inB s 1 12
  · rw [show ansFR s = failV from by unfold ansFR; rw [h1]; rfl]
    unfold failV
    go_enter Try.func16, Try.ntmps16
    go_wp2_with fail
    refine (isDie_any s _).mono ?_
    rintro e w1 ⟨rfl, rfl⟩
    rw [h1]
    go_wp2_with fail
    go_ret3
    exact ⟨rfl, Below.refl _ _⟩
  · rw [show ansFR s = lowV (dgN s * 2 ^ dgN s) s from by unfold ansFR; rw [h1]; rfl]
    unfold lowV
    obtain ⟨s0, s1⟩ := (inB_iff _ _ _).1 h1
    have hd := dgN_le s
    generalize hk : dgN s = k at *
    have Hk := Lib.hid hk
    clear hk
    obtain ⟨p0, p1⟩ := pw4 k hd
    obtain ⟨q0, q1⟩ := pw5 k hd
    have hw : IntKind.i64.wrap (k * 2 ^ k) = k * 2 ^ k := IntWalk.i64_in _ (by omega)
    go_enter Try.func16, Try.ntmps16
    go_wp2_with fail
    refine (isDie_any s _).mono ?_
    rintro e w1 ⟨rfl, rfl⟩
    rw [h1]
    go_wp2_with fail
    refine (digitsFor_any s _ s0 s1).mono ?_
    rintro e w1 ⟨rfl, rfl⟩
    rw [Hk.out]
    go_wp2_with fail
    refine (power_any 2 k _ (by omega) (by omega) (by omega)).mono ?_
    rintro e w1 ⟨rfl, rfl⟩
    go_wp2_with fail
    refine (told_any (k * 2 ^ k) s _ q0 (by omega) (by omega) (by omega)).mono ?_
    rintro e w2 ⟨rfl, n2, rfl⟩
    go_wp2_with fail
    go_ret3
    exact ⟨rfl, bel_drewN (Below.refl _ _) n2⟩

set_option maxHeartbeats 800000 in
theorem walkExactMeanForRoll (s : Int) (w : World) (hs : (Lit.int .i64 s).wf = true) :
    Calls Try.prog 6 #[.int .i64 s] w fun e w' => e = .returned (.bool true) ∧ Below w.heap.size w w' := by
  clear hs
  obtain ⟨x, y, ok, hv⟩ := ansFR_form s
  have Hv := Lib.hid hv
  clear hv
  go_enter Try.func6, Try.ntmps6
  go_wp2_with fail
  refine (specFR_any s _).mono ?_
  rintro e w1 ⟨rfl, hb1⟩
  rw [Hv.out]
  go_wp2_with fail
  refine (implFR_any s _).mono ?_
  rintro e w2 ⟨rfl, hb2⟩
  rw [Hv.out]
  go_wp2_with fail
  go_ret
  exact ⟨rfl, bel_trans hb1 hb2⟩
end Go.Proofs.Ytnpghbbmhehnlaa
