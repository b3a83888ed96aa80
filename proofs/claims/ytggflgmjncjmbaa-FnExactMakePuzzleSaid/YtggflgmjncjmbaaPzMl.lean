/- Made puzzles: the model's clue. -/
import Derived.Test.YtggflgmjncjmbaaPzMk
namespace Go.Proofs.Ytggflgmjncjmbaa
set_option linter.unusedSimpArgs false
open Go.ChangeShapes Go.WideShapes Go.ChangeAt Go.RowKit
set_option linter.unusedVariables false
set_option maxRecDepth 100000 in
set_option maxHeartbeats 6400000 in
theorem pzMake_any (k : Nat) (w d o : Int) (W : World) (h : hidG (w, d, o) = true) (hk : k < 6) :
    Calls Try.prog 84 #[.int .i64 (k : Int), chn w d o] W fun e w' => e = .returned (chn (mkC w d o (k : Int)).1 (mkC w d o (k : Int)).2.1 (mkC w d o (k : Int)).2.2) ∧ Below W.heap.size W w' := by
  obtain ⟨r1, r2, r3, r4, r5, r6⟩ := inR_of (hid_good h).1
  obtain ⟨q, hq⟩ : ∃ q : Int, (k : Int) = q := ⟨_, rfl⟩
  rw [hq]
  have q0 : 0 ≤ q := by omega
  have q5 : q ≤ 5 := by omega
  clear hq hk
  have hC := fun (q : Int) (q0 : 0 ≤ q) (q5 : q ≤ 5) W => value_any q w d o W h q0 q5
  unfold valV at hC
  have bx := Lib.hid (show Box3 ((W.alloc (.cells #[.int .i64 w, .int .i64 d, .int .i64 o] 41)).alloc (.cells #[.int .i64 0, .int .i64 0, .int .i64 0] 39)) W.heap.size (.int .i64 w) (.int .i64 d) (.int .i64 o) from (Box3.new W (.int .i64 w) (.int .i64 d) (.int .i64 o) 41).keep (bel_alloc (Below.refl _ _) _))
  have bw := Lib.hid (Box3W.new (W.alloc (.cells #[.int .i64 w, .int .i64 d, .int .i64 o] 41)) (.int .i64 0) (.int .i64 0) (.int .i64 0) 39)
  have bl := bel_alloc (bel_alloc (Below.refl _ W) (.cells #[.int .i64 w, .int .i64 d, .int .i64 o] 41)) (.cells #[.int .i64 0, .int .i64 0, .int .i64 0] 39)

  by_cases e3 : q = 3
  · subst e3
    by_cases w0 : w = 0
    · skip
      have w0t : (w == 0) = true := by simpa using w0
      have W0 := Lib.hid w0
      clear w0
      have hr : mkC w d o 3 = (0, (clv 0 (w, d, o)).1, (clv 0 (w, d, o)).2) := by
        unfold mkC mkK
        rw [if_pos ⟨rfl, by have := W0.out; omega⟩]
      rw [hr]
      have hCr := hC 0 (by omega) (by omega)
      clear hr hC r1 r2 r3 r4 r5 r6
      generalize (clv 0 (w, d, o)).1 = A1 at *
      generalize (clv 0 (w, d, o)).2 = B1 at *
      generalize clo 0 (w, d, o) = C1 at *
      go_enter Try.func84, Try.ntmps84
      go_wp2_with fail
      refine (hCr _).mono ?_
      rintro e w3 ⟨rfl, b3⟩
      obtain ⟨⟨f0, f1, f2, f3⟩, f4, f5, f6⟩ := show Box3W w3 (W.heap.size + 1) (.int .i64 0) (.int .i64 0) (.int .i64 0) from by simpa using (bw.out).keep b3
      have hbl3 := bel_trans bl b3
      go_wp2
      refine bodyPost_ret (v := chn 0 A1 B1) (by simp [results, Try.results84, go_sem, f0, f1, f2, f3]) rfl ⟨rfl, ?_⟩
      repeat (first | exact hbl3 | refine Below.setCell ?_ (by first | (dsimp only; omega) | simp) _)
    · by_cases d0 : d = 0
      · skip
        have w0t : (w == 0) = false := by simpa using w0
        have d0t : (d == 0) = true := by simpa using d0
        have W0 := Lib.hid d0
        clear d0
        have hr : mkC w d o 3 = (0, (clv 0 (w, d, o)).1, (clv 0 (w, d, o)).2) := by
          unfold mkC mkK
          rw [if_pos ⟨rfl, by have := W0.out; omega⟩]
        rw [hr]
        have hCr := hC 0 (by omega) (by omega)
        clear hr hC r1 r2 r3 r4 r5 r6
        generalize (clv 0 (w, d, o)).1 = A1 at *
        generalize (clv 0 (w, d, o)).2 = B1 at *
        generalize clo 0 (w, d, o) = C1 at *
        go_enter Try.func84, Try.ntmps84
        go_wp2_with fail
        refine (hCr _).mono ?_
        rintro e w3 ⟨rfl, b3⟩
        obtain ⟨⟨f0, f1, f2, f3⟩, f4, f5, f6⟩ := show Box3W w3 (W.heap.size + 1) (.int .i64 0) (.int .i64 0) (.int .i64 0) from by simpa using (bw.out).keep b3
        have hbl3 := bel_trans bl b3
        go_wp2
        refine bodyPost_ret (v := chn 0 A1 B1) (by simp [results, Try.results84, go_sem, f0, f1, f2, f3]) rfl ⟨rfl, ?_⟩
        repeat (first | exact hbl3 | refine Below.setCell ?_ (by first | (dsimp only; omega) | simp) _)
      · skip
        have w0t : (w == 0) = false := by simpa using w0
        have d0t : (d == 0) = false := by simpa using d0
        have hr : mkC w d o 3 = (3, (clv 3 (w, d, o)).1, (clv 3 (w, d, o)).2) := by
          unfold mkC mkK
          rw [if_neg (by omega), if_neg (by omega)]
        rw [hr]
        have hCr := hC 3 (by omega) (by omega)
        clear hr hC r1 r2 r3 r4 r5 r6
        generalize (clv 3 (w, d, o)).1 = A1 at *
        generalize (clv 3 (w, d, o)).2 = B1 at *
        generalize clo 3 (w, d, o) = C1 at *
        go_enter Try.func84, Try.ntmps84
        go_wp2_with fail
        refine (hCr _).mono ?_
        rintro e w3 ⟨rfl, b3⟩
        obtain ⟨⟨f0, f1, f2, f3⟩, f4, f5, f6⟩ := show Box3W w3 (W.heap.size + 1) (.int .i64 0) (.int .i64 0) (.int .i64 0) from by simpa using (bw.out).keep b3
        have hbl3 := bel_trans bl b3
        go_wp2
        refine bodyPost_ret (v := chn 3 A1 B1) (by simp [results, Try.results84, go_sem, f0, f1, f2, f3]) rfl ⟨rfl, ?_⟩
        repeat (first | exact hbl3 | refine Below.setCell ?_ (by first | (dsimp only; omega) | simp) _)
  · by_cases e4 : q = 4
    · subst e4
      by_cases d0 : d = 0
      · skip
        have d0t : (d == 0) = true := by simpa using d0
        have W0 := Lib.hid d0
        clear d0
        have hr : mkC w d o 4 = (1, (clv 1 (w, d, o)).1, (clv 1 (w, d, o)).2) := by
          unfold mkC mkK
          rw [if_neg (by omega), if_pos ⟨rfl, W0.out⟩]
        rw [hr]
        have hCr := hC 1 (by omega) (by omega)
        clear hr hC r1 r2 r3 r4 r5 r6
        generalize (clv 1 (w, d, o)).1 = A1 at *
        generalize (clv 1 (w, d, o)).2 = B1 at *
        generalize clo 1 (w, d, o) = C1 at *
        go_enter Try.func84, Try.ntmps84
        go_wp2_with fail
        refine (hCr _).mono ?_
        rintro e w3 ⟨rfl, b3⟩
        obtain ⟨⟨f0, f1, f2, f3⟩, f4, f5, f6⟩ := show Box3W w3 (W.heap.size + 1) (.int .i64 0) (.int .i64 0) (.int .i64 0) from by simpa using (bw.out).keep b3
        have hbl3 := bel_trans bl b3
        go_wp2
        refine bodyPost_ret (v := chn 1 A1 B1) (by simp [results, Try.results84, go_sem, f0, f1, f2, f3]) rfl ⟨rfl, ?_⟩
        repeat (first | exact hbl3 | refine Below.setCell ?_ (by first | (dsimp only; omega) | simp) _)
      · skip
        have d0t : (d == 0) = false := by simpa using d0
        have hr : mkC w d o 4 = (4, (clv 4 (w, d, o)).1, (clv 4 (w, d, o)).2) := by
          unfold mkC mkK
          rw [if_neg (by omega), if_neg (by omega)]
        rw [hr]
        have hCr := hC 4 (by omega) (by omega)
        clear hr hC r1 r2 r3 r4 r5 r6
        generalize (clv 4 (w, d, o)).1 = A1 at *
        generalize (clv 4 (w, d, o)).2 = B1 at *
        generalize clo 4 (w, d, o) = C1 at *
        go_enter Try.func84, Try.ntmps84
        go_wp2_with fail
        refine (hCr _).mono ?_
        rintro e w3 ⟨rfl, b3⟩
        obtain ⟨⟨f0, f1, f2, f3⟩, f4, f5, f6⟩ := show Box3W w3 (W.heap.size + 1) (.int .i64 0) (.int .i64 0) (.int .i64 0) from by simpa using (bw.out).keep b3
        have hbl3 := bel_trans bl b3
        go_wp2
        refine bodyPost_ret (v := chn 4 A1 B1) (by simp [results, Try.results84, go_sem, f0, f1, f2, f3]) rfl ⟨rfl, ?_⟩
        repeat (first | exact hbl3 | refine Below.setCell ?_ (by first | (dsimp only; omega) | simp) _)
    · skip
      have e3f : (q == 3) = false := by simpa using e3
      have e4f : (q == 4) = false := by simpa using e4
      have hr : mkC w d o q = (q, (clv q (w, d, o)).1, (clv q (w, d, o)).2) := by
        unfold mkC mkK
        rw [if_neg (by omega), if_neg (by omega)]
      rw [hr]
      have hCr := hC q (by omega) (by omega)
      clear hr hC r1 r2 r3 r4 r5 r6
      generalize (clv q (w, d, o)).1 = A1 at *
      generalize (clv q (w, d, o)).2 = B1 at *
      generalize clo q (w, d, o) = C1 at *
      go_enter Try.func84, Try.ntmps84
      go_wp2_with fail
      refine (hCr _).mono ?_
      rintro e w3 ⟨rfl, b3⟩
      obtain ⟨⟨f0, f1, f2, f3⟩, f4, f5, f6⟩ := show Box3W w3 (W.heap.size + 1) (.int .i64 0) (.int .i64 0) (.int .i64 0) from by simpa using (bw.out).keep b3
      have hbl3 := bel_trans bl b3
      go_wp2
      refine bodyPost_ret (v := chn q A1 B1) (by simp [results, Try.results84, go_sem, f0, f1, f2, f3]) rfl ⟨rfl, ?_⟩
      repeat (first | exact hbl3 | refine Below.setCell ?_ (by first | (dsimp only; omega) | simp) _)
end Go.Proofs.Ytggflgmjncjmbaa
