/- ParsePuzzle: the model's contract, and the law's walk. -/
import Derived.Test.YthmdkbeccohjkaaDoorPpW
namespace Go.Proofs.YthmdkbeccohjkaaDoor
open Go.ChangeShapes Go.WideShapes Go.ChangeAt Go.RowKit
set_option linter.unusedVariables false
set_option linter.unusedSimpArgs false

theorem box2_kept {w w' : World} {k : Nat} {row : Option Nat} {x y : Value} (h : Box2 w k x y) (hg : w.grownBy w' row) (hr : row ≠ some k) : Box2 w' k x y := by
  have hb := hg.block k h.2.2 (fun e => hr e.symm)
  obtain ⟨h0, h1, h2⟩ := h
  refine ⟨?_, ?_, Nat.lt_of_lt_of_le h2 hg.size⟩
  · rw [← h0]; unfold World.cell?; dsimp only; rw [hb]
  · rw [← h1]; unfold World.cell?; dsimp only; rw [hb]
set_option maxRecDepth 100000 in
set_option maxHeartbeats 3200000 in
theorem specPz_any (s : ByteArray) (w : World) (hs : s.size ≤ 1048576) : Calls Tryd.prog 32 #[.string s] w (PzAns (oZ s) (tZ s) (okZ s) w) := by
  have bl0 := bel_alloc (Below.refl _ w) (.cells #[.int .i64 0, .slice none 0 0] 48)
  have bx0 := Lib.hid (BoxW.new w (.int .i64 0) (.slice none 0 0) 48)
  have hsz0 : Hid (w.heap.size ≤ (w.alloc (.cells #[.int .i64 0, .slice none 0 0] 48)).heap.size ∧ w.heap.size < (w.alloc (.cells #[.int .i64 0, .slice none 0 0] 48)).heap.size) := Lib.hid (by rw [World.size_alloc]; omega)
  go_enter Tryd.func32, Tryd.ntmps32
  go_wp2_with fail
  refine (pzParse_any s _ hs).mono ?_
  rintro e w1 ⟨o, ts, v, rfl, hr, hok, hb⟩
  rw [okY_same] at hok ⊢
  have bx1 := Lib.hid (bx0.out.keep hb)
  have bl1 := bel_trans bl0 hb
  obtain ⟨A, cap, rfl, _⟩ := hr.formS
  have bk := bel_alloc (Below.refl _ w1) (.cells #[.int .i64 o, .slice A ts.length cap] 48)
  have bx2 := Lib.hid (bx1.out.keep bk)
  have bl2 := Lib.hid (bel_trans bl1 bk)
  have hr2 := Lib.hid (hr.below bk)
  have bp2 := Lib.hid (BoxW.new w1 (.int .i64 o) (.slice A ts.length cap) 48)
  clear bk hr hb bl0 bl1
  generalize hn : ts.length = n at *
  clear hn
  obtain ⟨⟨b0, b1, b2⟩, b3, b4⟩ := bx2.out
  obtain ⟨⟨c0, c1, c2⟩, c3, c4⟩ := bp2.out
  cases hk : okZ s
  · have hoz : Hid (oZ s = 0 ∧ tZ s = [] ∧ okZ s = false) := Lib.hid ⟨by unfold oZ; rw [hk]; rfl, by unfold tZ; rw [hk]; rfl, hk⟩
    clear hok hk
    go_wp2_with fail
    have hset := Lib.hid (bx2.out.set (.int .i64 0) (.slice none 0 0))
    obtain ⟨⟨n0, n1, n2⟩, n3, n4⟩ := hset.out
    refine bodyPost_ret (v := .tuple #[pz 0 (.slice none 0 0), .bool false]) (by simp [results, Tryd.results32, go_sem, n0, n1]) rfl ?_
    rw [hoz.out.1, hoz.out.2.1, hoz.out.2.2]
    exact ⟨_, rfl, TRow.nil _ _ _, bel_set bl2.out (Nat.le_refl _) _ _⟩
  · obtain ⟨e1, e2⟩ := hok hk
    obtain ⟨_, e3, e4⟩ := okZ_Y hk
    have hoz : Hid (oZ s = o ∧ tZ s = ts ∧ okZ s = true) := Lib.hid ⟨by unfold oZ; rw [hk, e1, e3]; rfl, by unfold tZ; rw [hk, e2, e4]; rfl, hk⟩
    clear hok hk e1 e2 e3 e4
    go_wp2_with fail
    have hset := Lib.hid (bx2.out.set (.int .i64 o) (.slice A n cap))
    obtain ⟨⟨n0, n1, n2⟩, n3, n4⟩ := hset.out
    refine bodyPost_ret (v := .tuple #[pz o (.slice A n cap), .bool true]) (by simp [results, Tryd.results32, go_sem, n0, n1]) rfl ?_
    rw [hoz.out.1, hoz.out.2.1, hoz.out.2.2]
    refine ⟨_, rfl, ?_, bel_set bl2.out (Nat.le_refl _) _ _⟩
    exact ((hr2.out.setOther (p := ⟨w.heap.size, 0, none⟩) hsz0.out.2 _).setOther (p := ⟨w.heap.size, 1, none⟩) hsz0.out.2 _).mono hsz0.out.1
theorem tZ_len (s : ByteArray) : (tZ s).length ≤ 6 := by
  unfold tZ
  split
  · rename_i h
    unfold okZ at h
    rw [Bool.and_eq_true] at h
    exact (pzG_in h.1).2.2.1
  · simp
set_option maxRecDepth 100000 in
set_option maxHeartbeats 6400000 in
theorem walkExactParsePuzzle (s : ByteArray) (w : World) (hS : Sent w) (hT : PT w) (hs : s.size ≤ maxLen) :
    Calls Tryd.prog 4 #[.string s] w fun e w' => e = .returned (.bool true) ∧ Below w.heap.size w w' := by
  by_cases z : s.size ≤ 1048576
  · have hl := tZ_len s
    have hSp := Lib.hid (fun W => specPz_any s W z)
    have hIm := Lib.hid (fun W a b => implPz_any s W a b z)
    generalize oZ s = o at *
    generalize tZ s = xs at *
    generalize okZ s = ok at *
    have HT := Lib.hid hT
    have HS := Lib.hid hS
    clear hT hS
    go_enter Tryd.func4, Tryd.ntmps4
    go_wp2_with fail
    refine (hSp.out _).mono ?_
    rintro e w1 ⟨v1, rfl, r1, hb1⟩
    obtain ⟨A1, cap1, rfl, _⟩ := r1.formS
    have bk1 := bel_alloc (Below.refl _ w1) (.cells #[.int .i64 o, .slice A1 xs.length cap1] 48)
    have bx2 := Lib.hid (Box2.new w1 (.int .i64 o) (.slice A1 xs.length cap1) 48)
    have bl2 := Lib.hid (bel_trans hb1 bk1)
    have R2 := Lib.hid (r1.below bk1)
    have hz2 : Hid (w1.heap.size + 1 = (w1.alloc (.cells #[.int .i64 o, .slice A1 xs.length cap1] 48)).heap.size) := Lib.hid (World.size_alloc _ _).symm
    clear r1 bk1 hb1
    go_wp2_with fail
    refine (hIm.out _ (HS.out.keep bl2.out) (HT.out.keep bl2.out)).mono ?_
    rintro e w3 ⟨v3, rfl, r3, hb3⟩
    obtain ⟨A3, cap3, rfl, _⟩ := r3.formS
    have bk3 := bel_alloc (Below.refl _ w3) (.cells #[.int .i64 o, .slice A3 xs.length cap3] 48)
    have bx4 := Lib.hid ((bx2.out.keep hb3).keep bk3)
    have bl4 := Lib.hid (bel_trans (bel_trans bl2.out hb3) bk3)
    have by4 := Lib.hid (Box2.new w3 (.int .i64 o) (.slice A3 xs.length cap3) 48)
    have Q4 := Lib.hid ((R2.out.below hb3).below bk3)
    have R4 := Lib.hid (r3.below bk3)
    have hown : Hid (∀ k, Value.ownBlock (.slice A3 xs.length cap3) = some k → w1.heap.size + 1 ≤ k ∧ k < w3.heap.size) := Lib.hid fun k hk => by have := World.ownsRow.lt r3 k hk; have := hz2.out; omega
    have hown1 : Hid (∀ k, Value.ownBlock (.slice A1 xs.length cap1) = some k → k < w1.heap.size + 1) := Lib.hid fun k hk => by have := World.ownsRow.lt R2.out k hk; have := hz2.out; omega
    have hz3 : w1.heap.size + 1 ≤ w3.heap.size := by have := hb3.size; have := hz2.out; omega
    clear r3 bk3 hb3
    obtain ⟨b0, b1, b2⟩ := bx4.out
    obtain ⟨c0, c1, c2⟩ := by4.out
    go_wp2_with fail
    refine (eqPuzzle_same o xs (.slice A3 xs.length cap3) (.slice A1 xs.length cap1) _ _ _ R4.out.rd Q4.out.rd (Nat.le_refl _) (Nat.le_refl _)).mono ?_
    rintro e w5 ⟨rfl, hb5⟩
    have bx5 := Lib.hid (bx4.out.keep hb5)
    have by5 := Lib.hid (by4.out.keep hb5)
    have bl5 := Lib.hid (bel_trans bl4.out hb5)
    have Q5 := Lib.hid (Q4.out.below hb5)
    have R5 := Lib.hid (R4.out.below hb5)
    have hsb5 := Lib.hid (show _ ≤ w5.heap.size from hb5.size)
    clear b0 b1 b2 c0 c1 c2 hb5
    obtain ⟨c0, c1, c2⟩ := by5.out
    go_wp2_with fail
    refine (markPuzzle_any o xs _ _ 1 _ R5.out (by have := hsb5.out; have := bl5.out.size; rw [World.size_alloc] at *; omega) (by omega) (by omega)).mono ?_
    rintro e w6 ⟨rfl, r6, g6⟩
    have R6 := Lib.hid r6
    have by6 := Lib.hid (box2_kept by5.out g6 (fun e => by have := hown.out _ e; omega))
    have bx6 := Lib.hid (box2_kept bx5.out g6 (fun e => by have := hown.out _ e; omega))
    have bl6 := Lib.hid (bl5.out.grown g6 bl5.out.size (fun k e => by have := hown.out _ e; have := bl2.out.size; have := hz2.out; omega))
    have Q6 : Hid (TRow 83 w6 w.heap.size (.slice A1 xs.length cap1) xs) := Lib.hid (World.ownsRow.kept Q5.out g6 (by
      cases hv : Value.ownBlock (.slice A1 xs.length cap1) with
      | none => exact .inl rfl
      | some k => exact .inr fun e => by have := hown.out _ e.symm; have := hown1.out _ hv; omega))
    clear c0 c1 c2 r6
    obtain ⟨c0, c1, c2⟩ := by6.out
    have t1 : ¬ (1 : Int) + 3 * (xs.length : Int) < 0 := by omega
    go_wp2_with fail
    refine (heldPuzzle_any o xs _ _ 1 _ R6.out.rd (Nat.le_refl _) (by omega) (by omega)).mono ?_
    rintro e w7 ⟨rfl, hb7⟩
    have bx7 := Lib.hid (bx6.out.keep hb7)
    have by7 := Lib.hid (by6.out.keep hb7)
    have bl7 := Lib.hid (bel_trans bl6.out hb7)
    have Q7 := Lib.hid (Q6.out.below hb7)
    have R7 := Lib.hid (R6.out.below hb7)
    clear c0 c1 c2 hb7
    go_wp2_with fail
    refine (hIm.out _ (HS.out.keep bl7.out) (HT.out.keep bl7.out)).mono ?_
    rintro e w8 ⟨v8, rfl, r8, hb8⟩
    obtain ⟨A8, cap8, rfl, _⟩ := r8.formS
    have bk8 := bel_alloc (Below.refl _ w8) (.cells #[.int .i64 o, .slice A8 xs.length cap8] 48)
    have bx9 := Lib.hid ((bx7.out.keep hb8).keep bk8)
    have by9 := Lib.hid ((by7.out.keep hb8).keep bk8)
    have bl9 := Lib.hid (bel_trans (bel_trans bl7.out hb8) bk8)
    have bz9 := Lib.hid (Box2.new w8 (.int .i64 o) (.slice A8 xs.length cap8) 48)
    have Q9 := Lib.hid ((Q7.out.below hb8).below bk8)
    have R9 := Lib.hid ((R7.out.below hb8).below bk8)
    have P9 := Lib.hid (r8.below bk8)
    clear r8 bk8 hb8
    obtain ⟨b0, b1, b2⟩ := bx9.out
    obtain ⟨c0, c1, c2⟩ := by9.out
    obtain ⟨d0, d1, d2⟩ := bz9.out
    go_wp2_with fail
    refine (eqPuzzle_same o xs (.slice A8 xs.length cap8) (.slice A1 xs.length cap1) _ _ _ P9.out.rd Q9.out.rd (Nat.le_refl _) (Nat.le_refl _)).mono ?_
    rintro e w10 ⟨rfl, hb10⟩
    have by10 := Lib.hid (by9.out.keep hb10)
    have bl10 := Lib.hid (bel_trans bl9.out hb10)
    have R10 := Lib.hid (R9.out.below hb10)
    clear b0 b1 b2 c0 c1 c2 d0 d1 d2 hb10
    obtain ⟨c0, c1, c2⟩ := by10.out
    go_wp2_with fail
    refine (heldPuzzle_any o xs _ _ 1 _ R10.out.rd (Nat.le_refl _) (by omega) (by omega)).mono ?_
    rintro e w11 ⟨rfl, hb11⟩
    have bl11 := Lib.hid (bel_trans bl10.out hb11)
    clear c0 c1 c2 hb11
    go_wp2_with fail
    go_ret
    exact ⟨rfl, bl11.out⟩
  · go_enter Tryd.func4, Tryd.ntmps4
    go_wp2
    go_ret
    exact ⟨rfl, Below.refl _ _⟩
end Go.Proofs.YthmdkbeccohjkaaDoor
