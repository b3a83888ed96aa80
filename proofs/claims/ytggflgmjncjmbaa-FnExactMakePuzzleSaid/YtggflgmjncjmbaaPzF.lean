/- What a clue tells of a chain: contracts of the program and of its model. -/
import Derived.Test.YtggflgmjncjmbaaPzB
import Derived.Test.YtggflgmjncjmbaaRunD
import Derived.Test.YtggflgmjncjmbaaLat2D
namespace Go.Proofs.Ytggflgmjncjmbaa
set_option linter.unusedSimpArgs false
open Go.ChangeShapes Go.WideShapes Go.ChangeAt Go.RowKit
set_option linter.unusedVariables false

theorem clv_0 (w d o : Int) : clv 0 (w, d, o) = (0, if d < w then 1 else 0) := by unfold clv; simp
theorem clv_1 (w d o : Int) : clv 1 (w, d, o) = (0, w + d) := by unfold clv; simp
theorem clv_2 (w d o : Int) : clv 2 (w, d, o) = (0, w * d) := by unfold clv; simp
theorem clv_3 (w d o : Int) : clv 3 (w, d, o) = (if 1 ≤ w ∧ 1 ≤ d then (low d d (w + d), low (w + d) d (w + d)) else (0, 0)) := by unfold clv; simp
theorem clv_4 (w d o : Int) : clv 4 (w, d, o) = (if d = 0 then (0, 0) else (low o o d, low d o d)) := by unfold clv; simp
theorem clv_5 (w d o : Int) : clv 5 (w, d, o) = (0, (o - w) * (o - w) + w * d) := by unfold clv; simp
theorem flw_dwd (w d o : Int) : flw w d o ⟨#[100, 119, 100]⟩ 3 = w * d := by simp [flw, stp, chg, sgn]
theorem dwd_all : allB ⟨#[100, 119, 100]⟩ = true := by rfl
theorem one_le : (1 : Nat) ≤ maxLen := by simp [maxLen]
theorem dayS_d : dayS ⟨#[100]⟩ = true := by unfold dayS; rw [ByteArray.toList_eq]; rfl
theorem dayS_w : dayS ⟨#[119]⟩ = true := by unfold dayS; rw [ByteArray.toList_eq]; rfl
theorem share_d (w d o : Int) (hg : good w d o = true) : ansShare w d o ⟨#[100]⟩ = if 1 ≤ w ∧ 1 ≤ d then lowV d (w + d) else failV := by
  unfold ansShare
  rw [hg, dayS_d, show sgn ⟨#[100]⟩ 0 = 100 from rfl, show chg w d (219 - 100) = d from by simp [chg]]
  unfold mixB
  by_cases h1 : 1 ≤ w <;> by_cases h2 : 1 ≤ d <;> simp [h1, h2]
theorem run_w (w d o : Int) (hg : good w d o = true) : ansRun w d o ⟨#[119]⟩ = if d = 0 then failV else lowV o d := by
  unfold ansRun
  rw [hg, dayS_w, show sgn ⟨#[119]⟩ 0 = 119 from rfl, chg_wet]
  by_cases h1 : d = 0 <;> simp [h1]
theorem ltr_dd (w d o : Int) : sel 100 (ltr w d o 100 2) = (o - w) * (o - w) + w * d := by
  simp [sel, ltr]
theorem hid_good {w d o : Int} (h : hidG (w, d, o) = true) : good w d o = true ∧ o ≤ 8 := by
  unfold hidG at h
  simpa using h

set_option maxRecDepth 100000 in
set_option maxHeartbeats 1600000 in
theorem clueOf_0 (w d o : Int) (W : World) (h : hidG (w, d, o) = true) :
    Calls Try.prog 94 #[.int .i64 0, chn w d o] W fun e w' => e = .returned (chn 0 (clv 0 (w, d, o)).1 (clv 0 (w, d, o)).2) ∧ Below W.heap.size W w' := by
  obtain ⟨hg, ho⟩ := hid_good h
  have hr := inR_of hg
  obtain ⟨r1, r2, r3, r4, r5, r6⟩ := id hr
  rw [clv_0]
  by_cases hlt : d < w
  · rw [if_pos hlt]
    go_enter Try.func94, Try.ntmps94
    go_wp2
    refine bodyPost_ret (v := chn 0 0 1) (by simp [results, Try.results94, go_sem]) rfl ⟨rfl, ?_⟩
    repeat (first | assumption | with_reducible exact Below.refl _ _ | refine bel_alloc ?_ _ | refine bel_drewN ?_ _ | refine Below.drew ?_ | (refine Below.setCell ?_ (by simp) _) | (refine bel_trans ?_ (by assumption)))
  · rw [if_neg hlt]
    go_enter Try.func94, Try.ntmps94
    go_wp2
    refine bodyPost_ret (v := chn 0 0 0) (by simp [results, Try.results94, go_sem]) rfl ⟨rfl, ?_⟩
    repeat (first | assumption | with_reducible exact Below.refl _ _ | refine bel_alloc ?_ _ | refine bel_drewN ?_ _ | refine Below.drew ?_ | (refine Below.setCell ?_ (by simp) _) | (refine bel_trans ?_ (by assumption)))
set_option maxRecDepth 100000 in
set_option maxHeartbeats 1600000 in
theorem clueOf_1 (w d o : Int) (W : World) (h : hidG (w, d, o) = true) :
    Calls Try.prog 94 #[.int .i64 1, chn w d o] W fun e w' => e = .returned (chn 1 (clv 1 (w, d, o)).1 (clv 1 (w, d, o)).2) ∧ Below W.heap.size W w' := by
  obtain ⟨hg, ho⟩ := hid_good h
  have hr := inR_of hg
  obtain ⟨r1, r2, r3, r4, r5, r6⟩ := id hr
  rw [clv_1]
  go_enter Try.func94, Try.ntmps94
  go_wp2
  refine bodyPost_ret (v := chn 1 0 (w + d)) (by simp [results, Try.results94, go_sem]) rfl ⟨rfl, ?_⟩
  repeat (first | assumption | with_reducible exact Below.refl _ _ | refine bel_alloc ?_ _ | refine bel_drewN ?_ _ | refine Below.drew ?_ | (refine Below.setCell ?_ (by simp) _) | (refine bel_trans ?_ (by assumption)))
set_option maxRecDepth 100000 in
set_option maxHeartbeats 1600000 in
theorem clueOf_2 (w d o : Int) (W : World) (h : hidG (w, d, o) = true) :
    Calls Try.prog 94 #[.int .i64 2, chn w d o] W fun e w' => e = .returned (chn 2 (clv 2 (w, d, o)).1 (clv 2 (w, d, o)).2) ∧ Below W.heap.size W w' := by
  obtain ⟨hg, ho⟩ := hid_good h
  have hr := inR_of hg
  obtain ⟨r1, r2, r3, r4, r5, r6⟩ := id hr
  rw [clv_2]
  have hf := followed_any w d o ⟨#[100, 119, 100]⟩
  have hcall : ∀ W, Calls Try.prog 100 #[chn w d o, .string ⟨#[100, 119, 100]⟩] W fun e w' => e = .returned (.int .i64 (w * d)) ∧ Below W.heap.size W w' := fun W => by
    have := followed_any w d o ⟨#[100, 119, 100]⟩ W hr dwd_all (by decide) (by decide)
    rwa [show (⟨#[100, 119, 100]⟩ : ByteArray).size = 3 from rfl, flw_dwd] at this
  generalize hX : w * d = X at *
  have HX := Lib.hid hX
  clear hX hf
  go_enter Try.func94, Try.ntmps94
  go_wp2_with fail
  refine (hcall _).mono ?_
  rintro e w2 ⟨rfl, b2⟩
  obtain ⟨hc, hf⟩ := bcell b2
  have hz : W.heap.size + 3 ≤ w2.heap.size := by have := b2.size; simp at this; omega
  have hbl := bel_trans (bel_alloc (bel_alloc (bel_alloc (Below.refl _ W) (.cells #[.int .i64 w, .int .i64 d, .int .i64 o] 41)) (.cells #[.int .i64 0, .int .i64 0, .int .i64 0] 39)) (.cells #[.int .i64 2, .int .i64 0, .int .i64 0] 39)) b2
  go_wp2
  refine bodyPost_ret (v := chn 2 0 X) (by simp [results, Try.results94, go_sem, hc, hz]) rfl ⟨rfl, ?_⟩
  repeat (first | exact hbl | refine Below.setCell ?_ (by first | (dsimp only; omega) | simp) _)
set_option maxRecDepth 100000 in
set_option maxHeartbeats 1600000 in
theorem clueOf_3 (w d o : Int) (W : World) (h : hidG (w, d, o) = true) :
    Calls Try.prog 94 #[.int .i64 3, chn w d o] W fun e w' => e = .returned (chn 3 (clv 3 (w, d, o)).1 (clv 3 (w, d, o)).2) ∧ Below W.heap.size W w' := by
  obtain ⟨hg, ho⟩ := hid_good h
  have hr := inR_of hg
  obtain ⟨r1, r2, r3, r4, r5, r6⟩ := id hr
  rw [clv_3]
  have hcall : ∀ W, Calls Try.prog 101 #[chn w d o, .string ⟨#[100]⟩] W fun e w' => e = .returned (if 1 ≤ w ∧ 1 ≤ d then lowV d (w + d) else failV) ∧ Below W.heap.size W w' := fun W => by
    have := implShare_any w d o ⟨#[100]⟩ W one_le
    rwa [share_d w d o hg] at this
  by_cases hm : 1 ≤ w ∧ 1 ≤ d
  · rw [if_pos hm]
    simp only [if_pos hm, lowV] at hcall
    generalize low d d (w + d) = X at *
    generalize low (w + d) d (w + d) = Y at *
    go_enter Try.func94, Try.ntmps94
    go_wp2_with fail
    refine (hcall _).mono ?_
    rintro e w2 ⟨rfl, b2⟩
    obtain ⟨hc, hf⟩ := bcell b2
    have hz : W.heap.size + 3 ≤ w2.heap.size := by have := b2.size; simp at this; omega
    have hbl := bel_trans (bel_alloc (bel_alloc (bel_alloc (Below.refl _ W) (.cells #[.int .i64 w, .int .i64 d, .int .i64 o] 41)) (.cells #[.int .i64 0, .int .i64 0, .int .i64 0] 39)) (.cells #[.int .i64 3, .int .i64 0, .int .i64 0] 39)) b2
    go_wp2
    refine bodyPost_ret (v := chn 3 X Y) (by simp [results, Try.results94, go_sem, hc, hz]) rfl ⟨rfl, ?_⟩
    repeat (first | exact hbl | refine Below.setCell ?_ (by first | (dsimp only; omega) | simp) _)
  · rw [if_neg hm]
    simp only [if_neg hm, failV] at hcall
    go_enter Try.func94, Try.ntmps94
    go_wp2_with fail
    refine (hcall _).mono ?_
    rintro e w2 ⟨rfl, b2⟩
    obtain ⟨hc, hf⟩ := bcell b2
    have hz : W.heap.size + 3 ≤ w2.heap.size := by have := b2.size; simp at this; omega
    have hbl := bel_trans (bel_alloc (bel_alloc (bel_alloc (Below.refl _ W) (.cells #[.int .i64 w, .int .i64 d, .int .i64 o] 41)) (.cells #[.int .i64 0, .int .i64 0, .int .i64 0] 39)) (.cells #[.int .i64 3, .int .i64 0, .int .i64 0] 39)) b2
    go_wp2
    refine bodyPost_ret (v := chn 3 0 0) (by simp [results, Try.results94, go_sem, hc, hz]) rfl ⟨rfl, ?_⟩
    repeat (first | exact hbl | refine Below.setCell ?_ (by first | (dsimp only; omega) | simp) _)
set_option maxRecDepth 100000 in
set_option maxHeartbeats 1600000 in
theorem clueOf_4 (w d o : Int) (W : World) (h : hidG (w, d, o) = true) :
    Calls Try.prog 94 #[.int .i64 4, chn w d o] W fun e w' => e = .returned (chn 4 (clv 4 (w, d, o)).1 (clv 4 (w, d, o)).2) ∧ Below W.heap.size W w' := by
  obtain ⟨hg, ho⟩ := hid_good h
  have hr := inR_of hg
  obtain ⟨r1, r2, r3, r4, r5, r6⟩ := id hr
  rw [clv_4]
  have hcall : ∀ W, Calls Try.prog 102 #[chn w d o, .string ⟨#[119]⟩] W fun e w' => e = .returned (if d = 0 then failV else lowV o d) ∧ Below W.heap.size W w' := fun W => by
    have := implRun_any w d o ⟨#[119]⟩ W one_le
    rwa [run_w w d o hg] at this
  by_cases hm : d = 0
  · rw [if_pos hm]
    simp only [if_pos hm, failV] at hcall
    subst hm
    go_enter Try.func94, Try.ntmps94
    go_wp2_with fail
    refine (hcall _).mono ?_
    rintro e w2 ⟨rfl, b2⟩
    obtain ⟨hc, hf⟩ := bcell b2
    have hz : W.heap.size + 3 ≤ w2.heap.size := by have := b2.size; simp at this; omega
    have hbl := bel_trans (bel_alloc (bel_alloc (bel_alloc (Below.refl _ W) (.cells #[.int .i64 w, .int .i64 0, .int .i64 o] 41)) (.cells #[.int .i64 0, .int .i64 0, .int .i64 0] 39)) (.cells #[.int .i64 4, .int .i64 0, .int .i64 0] 39)) b2
    go_wp2
    refine bodyPost_ret (v := chn 4 0 0) (by simp [results, Try.results94, go_sem, hc, hz]) rfl ⟨rfl, ?_⟩
    repeat (first | exact hbl | refine Below.setCell ?_ (by first | (dsimp only; omega) | simp) _)
  · rw [if_neg hm]
    simp only [if_neg hm, lowV] at hcall
    generalize low o o d = X at *
    generalize low d o d = Y at *
    go_enter Try.func94, Try.ntmps94
    go_wp2_with fail
    refine (hcall _).mono ?_
    rintro e w2 ⟨rfl, b2⟩
    obtain ⟨hc, hf⟩ := bcell b2
    have hz : W.heap.size + 3 ≤ w2.heap.size := by have := b2.size; simp at this; omega
    have hbl := bel_trans (bel_alloc (bel_alloc (bel_alloc (Below.refl _ W) (.cells #[.int .i64 w, .int .i64 d, .int .i64 o] 41)) (.cells #[.int .i64 0, .int .i64 0, .int .i64 0] 39)) (.cells #[.int .i64 4, .int .i64 0, .int .i64 0] 39)) b2
    go_wp2
    refine bodyPost_ret (v := chn 4 X Y) (by simp [results, Try.results94, go_sem, hc, hz]) rfl ⟨rfl, ?_⟩
    repeat (first | exact hbl | refine Below.setCell ?_ (by first | (dsimp only; omega) | simp) _)
set_option maxRecDepth 100000 in
set_option maxHeartbeats 1600000 in
theorem clueOf_5 (w d o : Int) (W : World) (h : hidG (w, d, o) = true) :
    Calls Try.prog 94 #[.int .i64 5, chn w d o] W fun e w' => e = .returned (chn 5 (clv 5 (w, d, o)).1 (clv 5 (w, d, o)).2) ∧ Below W.heap.size W w' := by
  obtain ⟨hg, ho⟩ := hid_good h
  have hr := inR_of hg
  obtain ⟨r1, r2, r3, r4, r5, r6⟩ := id hr
  rw [clv_5]
  have hcall : ∀ W, Calls Try.prog 103 #[wth w d o 100, wth w d o 100, .int .i64 2] W fun e w' => e = .returned (.int .i64 ((o - w) * (o - w) + w * d)) ∧ Below W.heap.size W w' := fun W => by
    have := later_any w d o 100 100 2 W (.inl rfl) (.inl rfl) hr (by decide)
    rwa [ltr_dd w d o] at this
  generalize hX : (o - w) * (o - w) + w * d = X at *
  have HX := Lib.hid hX
  clear hX
  go_enter Try.func94, Try.ntmps94
  go_wp2_with fail
  refine (hcall _).mono ?_
  rintro e w2 ⟨rfl, b2⟩
  obtain ⟨hc, hf⟩ := bcell b2
  have hz : W.heap.size + 4 ≤ w2.heap.size := by have := b2.size; simp at this; omega
  have hbl := bel_trans (bel_alloc (bel_alloc (bel_alloc (bel_alloc (Below.refl _ W) (.cells #[.int .i64 w, .int .i64 d, .int .i64 o] 41)) (.cells #[.int .i64 0, .int .i64 0, .int .i64 0] 39)) (.cells #[.int .i64 5, .int .i64 0, .int .i64 0] 39)) (.cells #[.int .i64 w, .int .i64 d, .int .i64 o, .int .u8 100] 101)) b2
  go_wp2
  refine bodyPost_ret (v := chn 5 0 X) (by simp [results, Try.results94, go_sem, hc, hz]) rfl ⟨rfl, ?_⟩
  repeat (first | exact hbl | refine Below.setCell ?_ (by first | (dsimp only; omega) | simp) _)

theorem clueOf_any (k w d o : Int) (W : World) (h : hidG (w, d, o) = true) (k0 : 0 ≤ k) (k5 : k ≤ 5) :
    Calls Try.prog 94 #[.int .i64 k, chn w d o] W fun e w' => e = .returned (chn k (clv k (w, d, o)).1 (clv k (w, d, o)).2) ∧ Below W.heap.size W w' := by
  have hk : k = 0 ∨ k = 1 ∨ k = 2 ∨ k = 3 ∨ k = 4 ∨ k = 5 := by omega
  rcases hk with rfl | rfl | rfl | rfl | rfl | rfl
  · exact clueOf_0 w d o W h
  · exact clueOf_1 w d o W h
  · exact clueOf_2 w d o W h
  · exact clueOf_3 w d o W h
  · exact clueOf_4 w d o W h
  · exact clueOf_5 w d o W h
end Go.Proofs.Ytggflgmjncjmbaa
