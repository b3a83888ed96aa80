/- The clue that is read: the program's contract. -/
import Derived.Test.YthmdkbeccohjkaaDoorSsq
import Derived.Test.YthmdkbeccohjkaaDoorSent
import Derived.Test.YthmdkbeccohjkaaDoorBox3W
namespace Go.Proofs.YthmdkbeccohjkaaDoor
set_option linter.unusedSimpArgs false
open Go.ChangeShapes Go.WideShapes Go.ChangeAt Go.RowKit
set_option linter.unusedVariables false

theorem cutA_len (l : List UInt8) : (cutA l).length ≤ l.length ∧ (cutZ l).length ≤ l.length := cut_len l 46
theorem baL_size (l : List UInt8) : (baL l).size = l.length := by show l.toArray.size = _; simp
set_option maxRecDepth 100000 in
set_option maxHeartbeats 3200000 in
theorem clueIn_any (l : List UInt8) (w : World) (hS : Sent w) (hs : l.length ≤ 2000000) :
    Calls Tryd.prog 67 #[.string (baL l)] w fun e w' => e = .returned (chn (clR l).1 (clR l).2.1 (clR l).2.2) ∧ Below w.heap.size w w' := by
  have bl0 := bel_alloc (Below.refl _ w) (.cells #[.int .i64 0, .int .i64 0, .int .i64 0] 83)
  have bx0 := Lib.hid (Box3W.new w (.int .i64 0) (.int .i64 0) (.int .i64 0) 83)
  have hl1 := cutA_len l
  have hl2 := cutA_len (cutZ l)
  have C1 : Hid (∀ W, Calls Tryd.prog 64 #[.string (baL l), .string ⟨#[46]⟩] W fun e w' => e = .returned (.tuple #[.string (baL (cutA l)), .string (baL (cutZ l)), .bool (Lib.cut l [46]).2.2]) ∧ ∃ n, w' = W.drewN n) := Lib.hid fun W => by
    have := cut_any (baL l) 46 W (by rw [baL_size]; omega)
    rw [baL_toList] at this
    exact this
  have C2 : Hid (∀ W, Calls Tryd.prog 64 #[.string (baL (cutZ l)), .string ⟨#[46]⟩] W fun e w' => e = .returned (.tuple #[.string (baL (cutA (cutZ l))), .string (baL (cutZ (cutZ l))), .bool (Lib.cut (cutZ l) [46]).2.2]) ∧ ∃ n, w' = W.drewN n) := Lib.hid fun W => by
    have := cut_any (baL (cutZ l)) 46 W (by rw [baL_size]; omega)
    rw [baL_toList] at this
    exact this
  have N1 : Hid (∀ W, Sent W → Calls Tryd.prog 65 #[.string (baL (cutA l))] W fun e w' => e = .returned (.int .i64 (clR l).1) ∧ Below W.heap.size W w') := Lib.hid fun W h => by
    have := numberIn_any (baL (cutA l)) W h (by rw [baL_size]; omega)
    rw [baL_toList] at this
    exact this
  have N2 : Hid (∀ W, Sent W → Calls Tryd.prog 65 #[.string (baL (cutA (cutZ l)))] W fun e w' => e = .returned (.int .i64 (clR l).2.1) ∧ Below W.heap.size W w') := Lib.hid fun W h => by
    have := numberIn_any (baL (cutA (cutZ l))) W h (by rw [baL_size]; omega)
    rw [baL_toList] at this
    exact this
  have N3 : Hid (∀ W, Sent W → Calls Tryd.prog 65 #[.string (baL (cutZ (cutZ l)))] W fun e w' => e = .returned (.int .i64 (clR l).2.2) ∧ Below W.heap.size W w') := Lib.hid fun W h => by
    have := numberIn_any (baL (cutZ (cutZ l))) W h (by rw [baL_size]; omega)
    rw [baL_toList] at this
    exact this
  clear hl1 hl2
  generalize (clR l).1 = x at *
  generalize (clR l).2.1 = y at *
  generalize (clR l).2.2 = z at *
  generalize (Lib.cut (cutZ l) [46]).2.2 = q2 at *
  generalize (Lib.cut l [46]).2.2 = q1 at *
  generalize baL (cutZ (cutZ l)) = s4 at *
  generalize baL (cutA (cutZ l)) = s3 at *
  generalize baL (cutZ l) = s2 at *
  generalize baL (cutA l) = s1 at *
  generalize baL l = s at *
  go_enter Tryd.func67, Tryd.ntmps67
  go_wp2_with fail
  refine (C1.out _).mono ?_
  rintro e w1 ⟨rfl, n1, rfl⟩
  have bx1 := Lib.hid (bx0.out.drewN n1)
  have bl1 := bel_drewN bl0 n1
  go_wp2_with fail
  refine (C2.out _).mono ?_
  rintro e w1 ⟨rfl, n2, rfl⟩
  have bx2 := Lib.hid (bx0.out.drewN (n1 + n2))
  have bl2 := bel_drewN bl0 (n1 + n2)
  have s2' := hS.keep bl2
  go_wp2_with fail
  refine (N1.out _ s2').mono ?_
  rintro e w3 ⟨rfl, hb3⟩
  have bx3 := Lib.hid (bx2.out.keep hb3)
  have bl3 := bel_trans bl2 hb3
  have s3' := hS.keep bl3
  go_wp2_with fail
  refine (N2.out _ s3').mono ?_
  rintro e w4 ⟨rfl, hb4⟩
  have bx4 := Lib.hid (bx3.out.keep hb4)
  have bl4 := bel_trans bl3 hb4
  have s4' := hS.keep bl4
  go_wp2_with fail
  refine (N3.out _ s4').mono ?_
  rintro e w5 ⟨rfl, hb5⟩
  have bx5 := Lib.hid (bx4.out.keep hb5)
  have bl5 := bel_trans bl4 hb5
  obtain ⟨⟨g0, g1, g2, g3⟩, g4, g5, g6⟩ := bx5.out
  go_wp2_with fail
  have hset := Lib.hid (bx5.out.set (.int .i64 x) (.int .i64 y) (.int .i64 z))
  obtain ⟨h1, h2, h3, h4⟩ := hset.out
  refine bodyPost_ret (v := chn x y z) (by simp [results, Tryd.results67, go_sem, h1.1, h1.2.1, h1.2.2.1]) rfl ⟨rfl, ?_⟩
  exact bel_set3 bl5 (Nat.le_refl _) _ _ _
end Go.Proofs.YthmdkbeccohjkaaDoor
