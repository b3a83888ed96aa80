/- Made puzzles: the numbers and the clues they make; contracts of the program and of its model. -/
import Derived.Test.YtggflgmjncjmbaaPzAd
namespace Go.Proofs.Ytggflgmjncjmbaa
set_option linter.unusedSimpArgs false
open Go.ChangeShapes Go.WideShapes Go.ChangeAt Go.RowKit
set_option linter.unusedVariables false

theorem rem_natZ (a b : Nat) : (a : Int).tmod (b : Int) = ((a % b : Nat) : Int) := by rw [Int.tmod_eq_emod_of_nonneg (by omega)]; rfl
def mkK (w d k : Int) : Int := if k = 3 ∧ ¬ (1 ≤ w ∧ 1 ≤ d) then 0 else if k = 4 ∧ d = 0 then 1 else k
def mkC (w d o k : Int) : Tri := (mkK w d k, (clv (mkK w d k) (w, d, o)).1, (clv (mkK w d k) (w, d, o)).2)
def zN (s : Nat) : Nat → Nat
  | 0 => s
  | k + 1 => (zN s k * 239 + 1777) % 10007
def mkR (w d o : Int) (s : Nat) : Nat → List Tri
  | 0 => []
  | k + 1 => mkR w d o s k ++ [mkC w d o ((zN s (k + 1) % 6 : Nat) : Int)]
theorem mkR_len (w d o : Int) (s : Nat) : ∀ k, (mkR w d o s k).length = k
  | 0 => rfl
  | k + 1 => by unfold mkR; simp [mkR_len w d o s k]
theorem zN_le (s : Nat) (hs : s ≤ 10006) : ∀ k, zN s k ≤ 10006
  | 0 => hs
  | k + 1 => by unfold zN; omega
theorem mkK_in (w d : Int) (k : Nat) (hk : k < 6) : 0 ≤ mkK w d k ∧ mkK w d k ≤ 5 := by
  unfold mkK
  split
  · omega
  · split <;> omega
set_option maxHeartbeats 1600000 in
theorem next_any (z : Nat) (w : World) (hz : z ≤ 10006) :
    Calls Try.prog 85 #[.int .i64 (z : Int)] w fun e w' => e = .returned (.int .i64 (((z * 239 + 1777) % 10007 : Nat) : Int)) ∧ w = w' := by
  have h1 : IntKind.i64.wrap ((z : Int) * 239) = ((z * 239 : Nat) : Int) := by rw [IntWalk.i64_in _ (by omega)]; omega
  have h2 : IntKind.i64.wrap (((z * 239 : Nat) : Int) + 1777) = ((z * 239 + 1777 : Nat) : Int) := by rw [IntWalk.i64_in _ (by omega)]; omega
  have h3 : ((z * 239 + 1777 : Nat) : Int).tmod 10007 = (((z * 239 + 1777) % 10007 : Nat) : Int) := rem_natZ _ 10007
  generalize z * 239 + 1777 = b at *
  generalize z * 239 = a at *
  go_enter Try.func85, Try.ntmps85
  go_wp2
  go_ret
  exact ⟨rfl, rfl⟩
set_option maxHeartbeats 1600000 in
theorem pzNext_any (z : Nat) (w : World) (hz : z ≤ 10006) :
    Calls Try.prog 83 #[.int .i64 (z : Int)] w fun e w' => e = .returned (.int .i64 (((z * 239 + 1777) % 10007 : Nat) : Int)) ∧ w = w' := by
  have h1 : IntKind.i64.wrap (239 * (z : Int)) = ((z * 239 : Nat) : Int) := by rw [IntWalk.i64_in _ (by omega)]; omega
  have h2 : IntKind.i64.wrap (((z * 239 : Nat) : Int) + 1777) = ((z * 239 + 1777 : Nat) : Int) := by rw [IntWalk.i64_in _ (by omega)]; omega
  have h3 : ((z * 239 + 1777 : Nat) : Int).tmod 10007 = (((z * 239 + 1777) % 10007 : Nat) : Int) := rem_natZ _ 10007
  generalize z * 239 + 1777 = b at *
  generalize z * 239 = a at *
  go_enter Try.func83, Try.ntmps83
  go_wp2
  go_ret
  exact ⟨rfl, rfl⟩
set_option maxRecDepth 100000 in
set_option maxHeartbeats 6400000 in
theorem clueBy_any (n : Nat) (w d o : Int) (W : World) (h : hidG (w, d, o) = true) (hn : n ≤ 10006) :
    Calls Try.prog 86 #[.int .i64 (n : Int), chn w d o] W fun e w' => e = .returned (chn (mkC w d o ((n % 6 : Nat) : Int)).1 (mkC w d o ((n % 6 : Nat) : Int)).2.1 (mkC w d o ((n % 6 : Nat) : Int)).2.2) ∧ Below W.heap.size W w' := by
  have h3 : (n : Int).tmod 6 = ((n % 6 : Nat) : Int) := rem_natZ n 6
  have hk : n % 6 < 6 := Nat.mod_lt _ (by omega)
  generalize n % 6 = k at *
  have bl := bel_alloc (Below.refl _ W) (.cells #[.int .i64 w, .int .i64 d, .int .i64 o] 41)
  have hC := fun (q : Int) (q0 : 0 ≤ q) (q5 : q ≤ 5) W => clueOf_any q w d o W h q0 q5
  have hM := fun W => mixes_any w d o W
  have hmx : mixB w d = decide (1 ≤ w ∧ 1 ≤ d) := by unfold mixB; simp
  obtain ⟨q, hq⟩ : ∃ q : Int, (k : Int) = q := ⟨_, rfl⟩
  rw [hq] at h3 ⊢
  have q0 : 0 ≤ q := by omega
  have q5 : q ≤ 5 := by omega
  clear hq hk
  have bx := Lib.hid ((Box3.new W (.int .i64 w) (.int .i64 d) (.int .i64 o) 41).keep (bel_alloc (Below.refl _ _) (.cells #[.int .i64 0, .int .i64 0, .int .i64 0] 39)))
  have bw := Lib.hid (Box3W.new (W.alloc (.cells #[.int .i64 w, .int .i64 d, .int .i64 o] 41)) (.int .i64 0) (.int .i64 0) (.int .i64 0) 39)
  have bl := bel_alloc bl (.cells #[.int .i64 0, .int .i64 0, .int .i64 0] 39)
  by_cases e3 : q = 3
  · subst e3
    cases hx : mixB w d
    · skip
      have hr : mkC w d o 3 = (0, (clv 0 (w, d, o)).1, (clv 0 (w, d, o)).2) := by
        have : ¬ (1 ≤ w ∧ 1 ≤ d) := by rw [hx] at hmx; simpa using hmx
        unfold mkC mkK
        rw [if_pos ⟨rfl, this⟩]
      rw [hr]
      have hCr := hC 0 (by omega) (by omega)
      clear hr
      generalize (clv 0 (w, d, o)).1 = A1 at *
      generalize (clv 0 (w, d, o)).2 = B1 at *
      rw [hx] at hM
      clear hmx hC
      go_enter Try.func86, Try.ntmps86
      go_wp2_with fail
      refine (hM _).mono ?_
      rintro e w2 ⟨rfl, b2⟩
      have hbl := bel_trans bl b2
      have hbw := Lib.hid (show Box3W w2 (W.heap.size + 1) (.int .i64 0) (.int .i64 0) (.int .i64 0) from by simpa using bw.out.keep b2)
      obtain ⟨c0, c1, c2, c3⟩ := show Box3 w2 W.heap.size (.int .i64 w) (.int .i64 d) (.int .i64 o) from by simpa using bx.out.keep b2
      go_wp2_with fail
      refine (hCr _).mono ?_
      rintro e w3 ⟨rfl, b3⟩
      obtain ⟨⟨f0, f1, f2, f3⟩, f4, f5, f6⟩ := show Box3W w3 (W.heap.size + 1) (.int .i64 0) (.int .i64 0) (.int .i64 0) from by simpa using (hbw.out).keep b3
      have hbl3 := bel_trans hbl b3
      go_wp2
      refine bodyPost_ret (v := chn 0 A1 B1) (by simp [results, Try.results86, go_sem, f0, f1, f2, f3]) rfl ⟨rfl, ?_⟩
      repeat (first | exact hbl3 | refine Below.setCell ?_ (by first | (dsimp only; omega) | simp) _)
    · skip
      have hr : mkC w d o 3 = (3, (clv 3 (w, d, o)).1, (clv 3 (w, d, o)).2) := by
        have : 1 ≤ w ∧ 1 ≤ d := by rw [hx] at hmx; simpa using hmx
        unfold mkC mkK
        rw [if_neg (by omega), if_neg (by omega)]
      rw [hr]
      have hCr := hC 3 (by omega) (by omega)
      clear hr
      generalize (clv 3 (w, d, o)).1 = A1 at *
      generalize (clv 3 (w, d, o)).2 = B1 at *
      rw [hx] at hM
      clear hmx hC
      go_enter Try.func86, Try.ntmps86
      go_wp2_with fail
      refine (hM _).mono ?_
      rintro e w2 ⟨rfl, b2⟩
      have hbl := bel_trans bl b2
      have hbw := Lib.hid (show Box3W w2 (W.heap.size + 1) (.int .i64 0) (.int .i64 0) (.int .i64 0) from by simpa using bw.out.keep b2)
      obtain ⟨c0, c1, c2, c3⟩ := show Box3 w2 W.heap.size (.int .i64 w) (.int .i64 d) (.int .i64 o) from by simpa using bx.out.keep b2
      go_wp2_with fail
      refine (hCr _).mono ?_
      rintro e w3 ⟨rfl, b3⟩
      obtain ⟨⟨f0, f1, f2, f3⟩, f4, f5, f6⟩ := show Box3W w3 (W.heap.size + 1) (.int .i64 0) (.int .i64 0) (.int .i64 0) from by simpa using (hbw.out).keep b3
      have hbl3 := bel_trans hbl b3
      go_wp2
      refine bodyPost_ret (v := chn 3 A1 B1) (by simp [results, Try.results86, go_sem, f0, f1, f2, f3]) rfl ⟨rfl, ?_⟩
      repeat (first | exact hbl3 | refine Below.setCell ?_ (by first | (dsimp only; omega) | simp) _)
  · by_cases e4 : q = 4
    · subst e4
      by_cases d0 : d = 0
      · skip
        have d0t : (d == 0) = true := by simpa using d0
        have D0 := Lib.hid d0
        clear d0
        have hr : mkC w d o 4 = (1, (clv 1 (w, d, o)).1, (clv 1 (w, d, o)).2) := by
          unfold mkC mkK
          rw [if_neg (by omega), if_pos ⟨rfl, D0.out⟩]
        rw [hr]
        have hCr := hC 1 (by omega) (by omega)
        clear hr
        generalize (clv 1 (w, d, o)).1 = A1 at *
        generalize (clv 1 (w, d, o)).2 = B1 at *
        clear hmx hC
        go_enter Try.func86, Try.ntmps86
        go_wp2_with fail
        refine (hCr _).mono ?_
        rintro e w3 ⟨rfl, b3⟩
        obtain ⟨⟨f0, f1, f2, f3⟩, f4, f5, f6⟩ := show Box3W w3 (W.heap.size + 1) (.int .i64 0) (.int .i64 0) (.int .i64 0) from by simpa using (bw.out).keep b3
        have hbl3 := bel_trans bl b3
        go_wp2
        refine bodyPost_ret (v := chn 1 A1 B1) (by simp [results, Try.results86, go_sem, f0, f1, f2, f3]) rfl ⟨rfl, ?_⟩
        repeat (first | exact hbl3 | refine Below.setCell ?_ (by first | (dsimp only; omega) | simp) _)
      · skip
        have d0f : (d == 0) = false := by simpa using d0
        have hr : mkC w d o 4 = (4, (clv 4 (w, d, o)).1, (clv 4 (w, d, o)).2) := by
          unfold mkC mkK
          rw [if_neg (by omega), if_neg (by omega)]
        rw [hr]
        have hCr := hC 4 (by omega) (by omega)
        clear hr
        generalize (clv 4 (w, d, o)).1 = A1 at *
        generalize (clv 4 (w, d, o)).2 = B1 at *
        clear hmx hC
        go_enter Try.func86, Try.ntmps86
        go_wp2_with fail
        refine (hCr _).mono ?_
        rintro e w3 ⟨rfl, b3⟩
        obtain ⟨⟨f0, f1, f2, f3⟩, f4, f5, f6⟩ := show Box3W w3 (W.heap.size + 1) (.int .i64 0) (.int .i64 0) (.int .i64 0) from by simpa using (bw.out).keep b3
        have hbl3 := bel_trans bl b3
        go_wp2
        refine bodyPost_ret (v := chn 4 A1 B1) (by simp [results, Try.results86, go_sem, f0, f1, f2, f3]) rfl ⟨rfl, ?_⟩
        repeat (first | exact hbl3 | refine Below.setCell ?_ (by first | (dsimp only; omega) | simp) _)
    · skip
      have e3f : (q == 3) = false := by simpa using e3
      have e4f : (q == 4) = false := by simpa using e4
      have hr : mkC w d o q = (q, (clv q (w, d, o)).1, (clv q (w, d, o)).2) := by
        unfold mkC mkK
        rw [if_neg (by omega), if_neg (by omega)]
      rw [hr]
      have hCr := hC q (by omega) (by omega)
      clear hr
      generalize (clv q (w, d, o)).1 = A1 at *
      generalize (clv q (w, d, o)).2 = B1 at *
      clear hmx hC
      go_enter Try.func86, Try.ntmps86
      go_wp2_with fail
      refine (hCr _).mono ?_
      rintro e w3 ⟨rfl, b3⟩
      obtain ⟨⟨f0, f1, f2, f3⟩, f4, f5, f6⟩ := show Box3W w3 (W.heap.size + 1) (.int .i64 0) (.int .i64 0) (.int .i64 0) from by simpa using (bw.out).keep b3
      have hbl3 := bel_trans bl b3
      go_wp2
      refine bodyPost_ret (v := chn q A1 B1) (by simp [results, Try.results86, go_sem, f0, f1, f2, f3]) rfl ⟨rfl, ?_⟩
      repeat (first | exact hbl3 | refine Below.setCell ?_ (by first | (dsimp only; omega) | simp) _)
end Go.Proofs.Ytggflgmjncjmbaa
