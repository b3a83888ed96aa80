/- What a clue tells of a chain, whether it fits, and all solutions: contracts of the model. -/
import Derived.Test.YtggflgmjncjmbaaPzS
namespace Go.Proofs.Ytggflgmjncjmbaa
set_option linter.unusedSimpArgs false
open Go.ChangeShapes Go.WideShapes Go.ChangeAt Go.RowKit
set_option linter.unusedVariables false

def valV (k : Int) (c : Tri) : Value := .tuple #[.int .i64 (clv k c).1, .int .i64 (clv k c).2, .bool (clo k c)]
set_option maxHeartbeats 1600000 in
theorem value_0 (w d o : Int) (W : World) (h : hidG (w, d, o) = true) :
    Calls Try.prog 92 #[.int .i64 0, chn w d o] W fun e w' => e = .returned (valV 0 (w, d, o)) ∧ Below W.heap.size W w' := by
  unfold valV
  rw [clv_0, show clo 0 (w, d, o) = true from rfl]
  by_cases hlt : d < w
  · rw [if_pos hlt]
    go_enter Try.func92, Try.ntmps92
    go_wp2_with fail
    go_quiet (fail)
    go_wp2
    go_ret3
    exact ⟨rfl, by repeat (first | assumption | with_reducible exact Below.refl _ _ | refine bel_alloc ?_ _ | refine bel_drewN ?_ _ | refine Below.drew ?_ | (refine Below.setCell ?_ (by simp) _) | (refine bel_trans ?_ (by assumption)))⟩
  · rw [if_neg hlt]
    go_enter Try.func92, Try.ntmps92
    go_wp2_with fail
    go_quiet (fail)
    go_wp2
    go_ret3
    exact ⟨rfl, by repeat (first | assumption | with_reducible exact Below.refl _ _ | refine bel_alloc ?_ _ | refine bel_drewN ?_ _ | refine Below.drew ?_ | (refine Below.setCell ?_ (by simp) _) | (refine bel_trans ?_ (by assumption)))⟩
set_option maxHeartbeats 1600000 in
theorem value_1 (w d o : Int) (W : World) (h : hidG (w, d, o) = true) :
    Calls Try.prog 92 #[.int .i64 1, chn w d o] W fun e w' => e = .returned (valV 1 (w, d, o)) ∧ Below W.heap.size W w' := by
  obtain ⟨hg, ho⟩ := hid_good h
  obtain ⟨r1, r2, r3, r4, r5, r6⟩ := inR_of hg
  unfold valV
  rw [clv_1, show clo 1 (w, d, o) = true from rfl]
  go_enter Try.func92, Try.ntmps92
  go_wp2_with fail
  go_quiet (fail)
  go_wp2
  go_ret3
  exact ⟨rfl, by repeat (first | assumption | with_reducible exact Below.refl _ _ | refine bel_alloc ?_ _ | refine bel_drewN ?_ _ | refine Below.drew ?_ | (refine Below.setCell ?_ (by simp) _) | (refine bel_trans ?_ (by assumption)))⟩
theorem mul_small {w d o : Int} (h : inR w d o) (ho : o ≤ 8) : 0 ≤ w * d ∧ w * d ≤ 64 ∧ 0 ≤ (o - w) * (o - w) ∧ (o - w) * (o - w) ≤ 64 := by
  obtain ⟨r1, r2, r3, r4, r5, r6⟩ := h
  obtain ⟨a, b⟩ := mul_bd r1 (show w ≤ 8 by omega) r3 (show d ≤ 8 by omega)
  obtain ⟨c, e⟩ := mul_bd (show 0 ≤ o - w by omega) (show o - w ≤ 8 by omega) (show 0 ≤ o - w by omega) (show o - w ≤ 8 by omega)
  exact ⟨a, b, c, e⟩
set_option maxHeartbeats 1600000 in
theorem value_2 (w d o : Int) (W : World) (h : hidG (w, d, o) = true) :
    Calls Try.prog 92 #[.int .i64 2, chn w d o] W fun e w' => e = .returned (valV 2 (w, d, o)) ∧ Below W.heap.size W w' := by
  obtain ⟨hg, ho⟩ := hid_good h
  obtain ⟨a, b, c, e⟩ := mul_small (inR_of hg) ho
  obtain ⟨r1, r2, r3, r4, r5, r6⟩ := inR_of hg
  have hw : IntKind.i64.wrap (w * d) = w * d := IntWalk.i64_in _ (by omega)
  unfold valV
  rw [clv_2, show clo 2 (w, d, o) = true from rfl]
  clear a b c e
  go_enter Try.func92, Try.ntmps92
  go_wp2_with fail
  go_quiet (fail)
  go_wp2
  go_ret3
  exact ⟨rfl, by repeat (first | assumption | with_reducible exact Below.refl _ _ | refine bel_alloc ?_ _ | refine bel_drewN ?_ _ | refine Below.drew ?_ | (refine Below.setCell ?_ (by simp) _) | (refine bel_trans ?_ (by assumption)))⟩
set_option maxHeartbeats 1600000 in
theorem value_3 (w d o : Int) (W : World) (h : hidG (w, d, o) = true) :
    Calls Try.prog 92 #[.int .i64 3, chn w d o] W fun e w' => e = .returned (valV 3 (w, d, o)) ∧ Below W.heap.size W w' := by
  obtain ⟨hg, ho⟩ := hid_good h
  obtain ⟨r1, r2, r3, r4, r5, r6⟩ := inR_of hg
  unfold valV
  rw [clv_3, show clo 3 (w, d, o) = decide (1 ≤ w ∧ 1 ≤ d) from rfl]
  by_cases h1 : w = 0
  · subst h1
    rw [if_neg (by omega), show decide ((1 : Int) ≤ 0 ∧ 1 ≤ d) = false from by simp]
    go_enter Try.func92, Try.ntmps92
    go_wp2_with fail
    go_quiet (fail)
    go_wp2
    go_ret3
    exact ⟨rfl, by repeat (first | assumption | with_reducible exact Below.refl _ _ | refine bel_alloc ?_ _ | refine bel_drewN ?_ _ | refine Below.drew ?_ | (refine Below.setCell ?_ (by simp) _) | (refine bel_trans ?_ (by assumption)))⟩
  · by_cases h2 : d = 0
    · subst h2
      rw [if_neg (by omega), show decide ((1 : Int) ≤ w ∧ (1 : Int) ≤ 0) = false from by simp]
      have d1 : decide (w = 0) = false := by simpa using h1
      go_enter Try.func92, Try.ntmps92
      go_wp2_with fail
      go_quiet (fail)
      go_wp2
      go_ret3
      exact ⟨rfl, by repeat (first | assumption | with_reducible exact Below.refl _ _ | refine bel_alloc ?_ _ | refine bel_drewN ?_ _ | refine Below.drew ?_ | (refine Below.setCell ?_ (by simp) _) | (refine bel_trans ?_ (by assumption)))⟩
    · rw [if_pos ⟨by omega, by omega⟩, show decide ((1 : Int) ≤ w ∧ (1 : Int) ≤ d) = true from by simp; omega]
      have d1 : decide (w = 0) = false := by simpa using h1
      have d2 : decide (d = 0) = false := by simpa using h2
      have hwd : IntKind.i64.wrap (w + d) = w + d := IntWalk.i64_in _ (by omega)
      have hcall : ∀ W, Calls Try.prog 99 #[.int .i64 d, .int .i64 (w + d)] W fun e w' => e = .returned (.tuple #[.int .i64 (low d d (w + d)), .int .i64 (low (w + d) d (w + d))]) ∧ ∃ n, w' = W.drewN n :=
        fun W => cnLow_any d (w + d) W (by omega) (by omega) (by omega) (by omega)
      generalize low d d (w + d) = X at *
      generalize low (w + d) d (w + d) = Y at *
      go_enter Try.func92, Try.ntmps92
      go_wp2_with fail
      go_quiet (fail)
      go_wp2_with fail
      refine (hcall _).mono ?_
      rintro e w2 ⟨rfl, n, rfl⟩
      go_wp2
      go_ret3
      exact ⟨rfl, by repeat (first | assumption | with_reducible exact Below.refl _ _ | refine bel_alloc ?_ _ | refine bel_drewN ?_ _ | refine Below.drew ?_ | (refine Below.setCell ?_ (by simp) _) | (refine bel_trans ?_ (by assumption)))⟩
set_option maxHeartbeats 1600000 in
theorem value_4 (w d o : Int) (W : World) (h : hidG (w, d, o) = true) :
    Calls Try.prog 92 #[.int .i64 4, chn w d o] W fun e w' => e = .returned (valV 4 (w, d, o)) ∧ Below W.heap.size W w' := by
  obtain ⟨hg, ho⟩ := hid_good h
  obtain ⟨r1, r2, r3, r4, r5, r6⟩ := inR_of hg
  have bx := Box3.new W (.int .i64 w) (.int .i64 d) (.int .i64 o) 41
  unfold valV
  rw [clv_4, show clo 4 (w, d, o) = !decide (d = 0) from rfl]
  by_cases h2 : d = 0
  · subst h2
    rw [if_pos rfl, show (!decide ((0 : Int) = 0)) = false from rfl]
    go_enter Try.func92, Try.ntmps92
    go_wp2_with fail
    go_quiet (fail)
    go_wp2
    go_ret3
    exact ⟨rfl, by repeat (first | assumption | with_reducible exact Below.refl _ _ | refine bel_alloc ?_ _ | refine bel_drewN ?_ _ | refine Below.drew ?_ | (refine Below.setCell ?_ (by simp) _) | (refine bel_trans ?_ (by assumption)))⟩
  · rw [if_neg h2, show (!decide (d = 0)) = true from by simp [h2]]
    have d2 : decide (d = 0) = false := by simpa using h2
    have hcall : ∀ W, Calls Try.prog 99 #[.int .i64 o, .int .i64 d] W fun e w' => e = .returned (.tuple #[.int .i64 (low o o d), .int .i64 (low d o d)]) ∧ ∃ n, w' = W.drewN n :=
      fun W => cnLow_any o d W (by omega) (by omega) (by omega) (by omega)
    generalize low o o d = X at *
    generalize low d o d = Y at *
    go_enter Try.func92, Try.ntmps92
    go_wp2_with fail
    go_quiet (fail)
    go_wp2_with fail
    refine (hcall _).mono ?_
    rintro e w2 ⟨rfl, n, rfl⟩
    go_wp2
    go_ret3
    exact ⟨rfl, by repeat (first | assumption | with_reducible exact Below.refl _ _ | refine bel_alloc ?_ _ | refine bel_drewN ?_ _ | refine Below.drew ?_ | (refine Below.setCell ?_ (by simp) _) | (refine bel_trans ?_ (by assumption)))⟩
set_option maxRecDepth 100000 in
set_option maxHeartbeats 3200000 in
theorem value_5 (w d o : Int) (W : World) (h : hidG (w, d, o) = true) :
    Calls Try.prog 92 #[.int .i64 5, chn w d o] W fun e w' => e = .returned (valV 5 (w, d, o)) ∧ Below W.heap.size W w' := by
  obtain ⟨hg, ho⟩ := hid_good h
  obtain ⟨a, b, c, e⟩ := mul_small (inR_of hg) ho
  obtain ⟨r1, r2, r3, r4, r5, r6⟩ := inR_of hg
  have hw : IntKind.i64.wrap (w * d) = w * d := IntWalk.i64_in _ (by omega)
  have hs : IntKind.i64.wrap (o - w) = o - w := IntWalk.i64_in _ (by omega)
  have hq : IntKind.i64.wrap ((o - w) * (o - w)) = (o - w) * (o - w) := IntWalk.i64_in _ (by omega)
  have ht : IntKind.i64.wrap ((o - w) * (o - w) + w * d) = (o - w) * (o - w) + w * d := IntWalk.i64_in _ (by omega)
  unfold valV
  rw [clv_5, show clo 5 (w, d, o) = true from rfl]
  clear a b c e
  go_enter Try.func92, Try.ntmps92
  go_wp2_with fail
  go_quiet (fail)
  go_wp2_with fail
  go_quiet (fail)
  go_wp2
  go_ret3
  exact ⟨rfl, by repeat (first | assumption | with_reducible exact Below.refl _ _ | refine bel_alloc ?_ _ | refine bel_drewN ?_ _ | refine Below.drew ?_ | (refine Below.setCell ?_ (by simp) _) | (refine bel_trans ?_ (by assumption)))⟩
theorem value_any (k w d o : Int) (W : World) (h : hidG (w, d, o) = true) (k0 : 0 ≤ k) (k5 : k ≤ 5) :
    Calls Try.prog 92 #[.int .i64 k, chn w d o] W fun e w' => e = .returned (valV k (w, d, o)) ∧ Below W.heap.size W w' := by
  have hk : k = 0 ∨ k = 1 ∨ k = 2 ∨ k = 3 ∨ k = 4 ∨ k = 5 := by omega
  rcases hk with rfl | rfl | rfl | rfl | rfl | rfl
  · exact value_0 w d o W h
  · exact value_1 w d o W h
  · exact value_2 w d o W h
  · exact value_3 w d o W h
  · exact value_4 w d o W h
  · exact value_5 w d o W h
set_option maxHeartbeats 1600000 in
theorem mFits_any (k a b u d o : Int) (w : World) (hk : clG (k, a, b) = true) (h : hidG (u, d, o) = true) :
    Calls Try.prog 66 #[chn k a b, chn u d o] w fun e w' => e = .returned (.bool (fit (k, a, b) (u, d, o))) ∧ Below w.heap.size w w' := by
  obtain ⟨k0, k5, _⟩ := clG_in hk
  have k0 : 0 ≤ k := k0
  have k5 : k ≤ 5 := k5
  have hcall := fun W => value_any k u d o W h k0 k5
  have hok : fit (k, a, b) (u, d, o) = true → clo k (u, d, o) = true := fun hf => fit_ok hk hf
  have hfe : fit (k, a, b) (u, d, o) = (decide ((clv k (u, d, o)).1 = a) && decide ((clv k (u, d, o)).2 = b)) := rfl
  unfold valV at hcall
  generalize fit (k, a, b) (u, d, o) = F at *
  generalize (clv k (u, d, o)).1 = X at *
  generalize (clv k (u, d, o)).2 = Y at *
  generalize clo k (u, d, o) = O at *
  have HF := Lib.hid hfe
  have HO : Hid (F = (O && (decide (X = a) && decide (Y = b)))) := Lib.hid (by
    cases O
    · cases F
      · rfl
      · exact absurd (hok rfl) (by simp)
    · rw [hfe]; rfl)
  clear hfe hk h hok
  have bl := Lib.hid (bel_alloc (bel_alloc (Below.refl _ w) (.cells #[.int .i64 k, .int .i64 a, .int .i64 b] 39)) (.cells #[.int .i64 u, .int .i64 d, .int .i64 o] 41))
  have b0 := Lib.hid ((Box3.new w (.int .i64 k) (.int .i64 a) (.int .i64 b) 39).keep (bel_alloc (Below.refl _ _) (.cells #[.int .i64 u, .int .i64 d, .int .i64 o] 41)))
  go_enter Try.func66, Try.ntmps66
  go_wp2_with fail
  refine (hcall _).mono ?_
  rintro e w2 ⟨rfl, b2⟩
  obtain ⟨c0, c1, c2, ck⟩ := b0.out.keep b2
  have hb2 := bel_trans bl.out b2
  cases O
  · go_wp2
    go_ret
    exact ⟨by rw [HO.out]; rfl, hb2⟩
  · by_cases e1 : X = a
    · subst e1
      go_wp2
      go_ret
      exact ⟨by rw [HO.out]; by_cases q : Y = b <;> simp [q], hb2⟩
    · have d1 : decide (X = a) = false := by simpa using e1
      go_wp2
      go_ret
      exact ⟨by rw [HO.out, d1]; simp, hb2⟩
end Go.Proofs.Ytggflgmjncjmbaa
