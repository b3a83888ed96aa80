/- Chances of days later, of the program: the contract of later. -/
import Derived.Test.YtggflgmjncjmbaaLaterD
namespace Go.Proofs.Ytggflgmjncjmbaa
set_option linter.unusedSimpArgs false
open Go.ChangeShapes Go.WideShapes Go.ChangeAt Go.RowKit
set_option linter.unusedVariables false

theorem held44_start {w W : World} {k0 k1 : Nat} {x0_0 x0_1 x0_2 x0_3 x1_0 x1_1 x1_2 x1_3 : Value} (h0 : Box4 W k0 x0_0 x0_1 x0_2 x0_3) (h1 : Box4 W k1 x1_0 x1_1 x1_2 x1_3) (hb : Below w.heap.size w W) : let V := W.drew
    V.cell? ⟨k0, 0, none⟩ = some x0_0 ∧ V.cell? ⟨k0, 1, none⟩ = some x0_1 ∧ V.cell? ⟨k0, 2, none⟩ = some x0_2 ∧ V.cell? ⟨k0, 3, none⟩ = some x0_3 ∧ k0 < V.heap.size ∧ V.cell? ⟨k1, 0, none⟩ = some x1_0 ∧ V.cell? ⟨k1, 1, none⟩ = some x1_1 ∧ V.cell? ⟨k1, 2, none⟩ = some x1_2 ∧ V.cell? ⟨k1, 3, none⟩ = some x1_3 ∧ k1 < V.heap.size ∧ Below w.heap.size w V := ⟨h0.1, h0.2.1, h0.2.2.1, h0.2.2.2.1, h0.2.2.2.2, h1.1, h1.2.1, h1.2.2.1, h1.2.2.2.1, h1.2.2.2.2, hb.drew⟩
theorem held44_keep {w W w1 : World} {k0 k1 : Nat} {x0_0 x0_1 x0_2 x0_3 x1_0 x1_1 x1_2 x1_3 : Value} (h : W.cell? ⟨k0, 0, none⟩ = some x0_0 ∧ W.cell? ⟨k0, 1, none⟩ = some x0_1 ∧ W.cell? ⟨k0, 2, none⟩ = some x0_2 ∧ W.cell? ⟨k0, 3, none⟩ = some x0_3 ∧ k0 < W.heap.size ∧ W.cell? ⟨k1, 0, none⟩ = some x1_0 ∧ W.cell? ⟨k1, 1, none⟩ = some x1_1 ∧ W.cell? ⟨k1, 2, none⟩ = some x1_2 ∧ W.cell? ⟨k1, 3, none⟩ = some x1_3 ∧ k1 < W.heap.size ∧ Below w.heap.size w W) (hb : Below W.heap.size W w1) : w1.cell? ⟨k0, 0, none⟩ = some x0_0 ∧ w1.cell? ⟨k0, 1, none⟩ = some x0_1 ∧ w1.cell? ⟨k0, 2, none⟩ = some x0_2 ∧ w1.cell? ⟨k0, 3, none⟩ = some x0_3 ∧ k0 < w1.heap.size ∧ w1.cell? ⟨k1, 0, none⟩ = some x1_0 ∧ w1.cell? ⟨k1, 1, none⟩ = some x1_1 ∧ w1.cell? ⟨k1, 2, none⟩ = some x1_2 ∧ w1.cell? ⟨k1, 3, none⟩ = some x1_3 ∧ k1 < w1.heap.size ∧ Below w.heap.size w w1 := by
  obtain ⟨a0_0, a0_1, a0_2, a0_3, a0_4, a1_0, a1_1, a1_2, a1_3, a1_4, hl⟩ := h
  have b0 : Box4 w1 k0 x0_0 x0_1 x0_2 x0_3 := Box4.keep ⟨a0_0, a0_1, a0_2, a0_3, a0_4⟩ hb
  have b1 : Box4 w1 k1 x1_0 x1_1 x1_2 x1_3 := Box4.keep ⟨a1_0, a1_1, a1_2, a1_3, a1_4⟩ hb
  exact ⟨b0.1, b0.2.1, b0.2.2.1, b0.2.2.2.1, b0.2.2.2.2, b1.1, b1.2.1, b1.2.2.1, b1.2.2.2.1, b1.2.2.2.2, bel_trans hl hb⟩
theorem held44_drewN {w W : World} {k0 k1 : Nat} {x0_0 x0_1 x0_2 x0_3 x1_0 x1_1 x1_2 x1_3 : Value} (h : W.cell? ⟨k0, 0, none⟩ = some x0_0 ∧ W.cell? ⟨k0, 1, none⟩ = some x0_1 ∧ W.cell? ⟨k0, 2, none⟩ = some x0_2 ∧ W.cell? ⟨k0, 3, none⟩ = some x0_3 ∧ k0 < W.heap.size ∧ W.cell? ⟨k1, 0, none⟩ = some x1_0 ∧ W.cell? ⟨k1, 1, none⟩ = some x1_1 ∧ W.cell? ⟨k1, 2, none⟩ = some x1_2 ∧ W.cell? ⟨k1, 3, none⟩ = some x1_3 ∧ k1 < W.heap.size ∧ Below w.heap.size w W) (n : Nat) : let V := W.drewN n
    V.cell? ⟨k0, 0, none⟩ = some x0_0 ∧ V.cell? ⟨k0, 1, none⟩ = some x0_1 ∧ V.cell? ⟨k0, 2, none⟩ = some x0_2 ∧ V.cell? ⟨k0, 3, none⟩ = some x0_3 ∧ k0 < V.heap.size ∧ V.cell? ⟨k1, 0, none⟩ = some x1_0 ∧ V.cell? ⟨k1, 1, none⟩ = some x1_1 ∧ V.cell? ⟨k1, 2, none⟩ = some x1_2 ∧ V.cell? ⟨k1, 3, none⟩ = some x1_3 ∧ k1 < V.heap.size ∧ Below w.heap.size w V := by
  obtain ⟨a0_0, a0_1, a0_2, a0_3, a0_4, a1_0, a1_1, a1_2, a1_3, a1_4, hl⟩ := h
  exact ⟨a0_0, a0_1, a0_2, a0_3, a0_4, a1_0, a1_1, a1_2, a1_3, a1_4, bel_drewN hl n⟩
theorem held44_below {w W : World} {k0 k1 : Nat} {x0_0 x0_1 x0_2 x0_3 x1_0 x1_1 x1_2 x1_3 : Value} (h : W.cell? ⟨k0, 0, none⟩ = some x0_0 ∧ W.cell? ⟨k0, 1, none⟩ = some x0_1 ∧ W.cell? ⟨k0, 2, none⟩ = some x0_2 ∧ W.cell? ⟨k0, 3, none⟩ = some x0_3 ∧ k0 < W.heap.size ∧ W.cell? ⟨k1, 0, none⟩ = some x1_0 ∧ W.cell? ⟨k1, 1, none⟩ = some x1_1 ∧ W.cell? ⟨k1, 2, none⟩ = some x1_2 ∧ W.cell? ⟨k1, 3, none⟩ = some x1_3 ∧ k1 < W.heap.size ∧ Below w.heap.size w W) : Box4 W k0 x0_0 x0_1 x0_2 x0_3 ∧ Box4 W k1 x1_0 x1_1 x1_2 x1_3 ∧ Below w.heap.size w W := by
  obtain ⟨a0_0, a0_1, a0_2, a0_3, a0_4, a1_0, a1_1, a1_2, a1_3, a1_4, hl⟩ := h
  exact ⟨⟨a0_0, a0_1, a0_2, a0_3, a0_4⟩, ⟨a1_0, a1_1, a1_2, a1_3, a1_4⟩, hl⟩

theorem sel_step {a b c d g : Int} (hg : dayV g) (n : Nat) :
    sel g (ltr a b c d (n + 1)) = sel g (ltr a b c d n) * (c - chg a b g) + sel (219 - g) (ltr a b c d n) * chg a b (219 - g) ∧
    sel (219 - g) (ltr a b c d (n + 1)) = sel g (ltr a b c d n) * chg a b g + sel (219 - g) (ltr a b c d n) * (c - chg a b (219 - g)) := by
  have s1 : (ltr a b c d (n + 1)).1 = (ltr a b c d n).1 * (c - a) + (ltr a b c d n).2 * b := rfl
  have s2 : (ltr a b c d (n + 1)).2 = (ltr a b c d n).1 * a + (ltr a b c d n).2 * (c - b) := rfl
  rcases hg with rfl | rfl
  · simp [sel, chg, s1, s2]
  · simp [sel, chg, s1, s2]
    omega
theorem sel_le {a b c : Int} (h : inR a b c) (d g : Int) (n : Nat) (hn : n ≤ 9) : 0 ≤ sel g (ltr a b c d n) ∧ sel g (ltr a b c d n) ≤ 1000000000 := by
  obtain ⟨x, y, z, u⟩ := ltr_le h d n hn
  unfold sel
  split <;> omega
theorem sel_zero {a b c d g : Int} (hd : dayV d) (hg : dayV g) : sel g (ltr a b c d 0) = (if d = g then 1 else 0) ∧ sel (219 - g) (ltr a b c d 0) = (if d = g then 0 else 1) := by
  rcases hd with rfl | rfl <;> rcases hg with rfl | rfl <;> simp [sel, ltr]

set_option maxHeartbeats 3200000 in
theorem later_same (a b c g o : Int) (n : Nat) (w : World) (hg : dayV g) (hr : inR a b c) (hn : n ≤ 9) (Hgo : Hid (219 - g = o)) :
    Calls Try.prog 103 #[wth a b c g, wth a b c g, .int .i64 n] w fun e w' => e = .returned (.int .i64 (sel g (ltr a b c g n))) ∧ Below w.heap.size w w' := by
  have r := hr
  unfold inR at r
  obtain ⟨r1, r2, r3, r4, r5, r6⟩ := r
  have HR := Lib.hid hr
  clear hr
  obtain ⟨i1, i2⟩ := sel_zero (a := a) (b := b) (c := c) hg hg
  rw [Hgo.out] at i2
  rw [if_pos rfl] at i1 i2
  have I1 := Lib.hid i1
  have I2 := Lib.hid i2
  clear i1 i2
  have bl0 : Below w.heap.size w ((w.alloc (.cells #[.int .i64 a, .int .i64 b, .int .i64 c, .int .u8 g] 101)).alloc (.cells #[.int .i64 a, .int .i64 b, .int .i64 c, .int .u8 g] 101)) := bel_alloc (bel_alloc (Below.refl _ _) _) _
  have bg0 := Lib.hid (Box4.new (w.alloc (.cells #[.int .i64 a, .int .i64 b, .int .i64 c, .int .u8 g] 101)) (.int .i64 a) (.int .i64 b) (.int .i64 c) (.int .u8 g) 101)
  have bd0 := Lib.hid ((Box4.new w (.int .i64 a) (.int .i64 b) (.int .i64 c) (.int .u8 g) 101).keep (bel_alloc (Below.refl _ _) (.cells #[.int .i64 a, .int .i64 b, .int .i64 c, .int .u8 g] 101)))
  go_enter Try.func103, Try.ntmps103
  go_wp2_with fail
  refine (turned_any a b c g _ hg).mono ?_
  rintro e w1 ⟨rfl, hb1⟩
  rw [Hgo.out]
  have bg1 := bg0.out.keep hb1
  have bd1 := bd0.out.keep hb1
  have bl1 := bel_trans bl0 hb1
  have bg2 := Lib.hid (bg1.keep (bel_alloc (Below.refl _ w1) (.cells #[.int .i64 a, .int .i64 b, .int .i64 c, .int .u8 o] 101)))
  have bo2 := Lib.hid (Box4.new w1 (.int .i64 a) (.int .i64 b) (.int .i64 c) (.int .u8 o) 101)
  have bl2 : Below w.heap.size w (w1.alloc (.cells #[.int .i64 a, .int .i64 b, .int .i64 c, .int .u8 o] 101)) := bel_alloc bl1 _
  have szz : (w.alloc (.cells #[.int .i64 a, .int .i64 b, .int .i64 c, .int .u8 g] 101)).heap.size = w.heap.size + 1 := by simp [go_sem]
  rw [szz] at bg2 bg1
  clear szz
  obtain ⟨c0, c1, c2, c3, hk1⟩ := bg1
  obtain ⟨d0, d1, d2, d3, hk2⟩ := bd1
  go_wp2_with fail
  go_loopw [8, 9, 16] (fun x y i wr => ∃ k : Nat, k ≤ n ∧ i = .int .i64 k ∧ x = .int .i64 (sel g (ltr a b c g k)) ∧ y = .int .i64 (sel o (ltr a b c g k)) ∧ Hid (Box4 wr (w.heap.size + 1) (.int .i64 a) (.int .i64 b) (.int .i64 c) (.int .u8 g)) ∧ Hid (Box4 wr w1.heap.size (.int .i64 a) (.int .i64 b) (.int .i64 c) (.int .u8 o)) ∧ Below w.heap.size w wr) (fun _ _ i _ => n - (intOf i).toNat)
  case atStart => exact ⟨0, by omega, rfl, by rw [I1.out], by rw [I2.out], bg2.out, bo2.out, bl2⟩
  case round =>
    obtain ⟨k, hk, rfl, rfl, rfl, hbg, hbo, hbl⟩ := hrel
    obtain ⟨x0, x1⟩ := sel_le HR.out g g k (by omega)
    obtain ⟨y0, y1⟩ := sel_le HR.out g o k (by omega)
    by_cases hlt : k < n
    · obtain ⟨e1, e2⟩ := sel_step (a := a) (b := b) (c := c) (d := g) hg k
      rw [Hgo.out] at e1 e2
      have E1 := Lib.hid e1
      have E2 := Lib.hid e2
      clear e1 e2
      obtain ⟨p0, p1⟩ := chg_in HR.out g
      obtain ⟨q0, q1⟩ := chg_in HR.out o
      obtain ⟨g1, g2⟩ := mul_bd x0 x1 (show 0 ≤ c - chg a b g by omega) (show c - chg a b g ≤ 10 by omega)
      obtain ⟨g3, g4⟩ := mul_bd y0 y1 q0 (show chg a b o ≤ 10 by omega)
      obtain ⟨g5, g6⟩ := mul_bd x0 x1 p0 (show chg a b g ≤ 10 by omega)
      obtain ⟨g7, g8⟩ := mul_bd y0 y1 (show 0 ≤ c - chg a b o by omega) (show c - chg a b o ≤ 10 by omega)
      have hg' : dayV o := by rw [← Hgo.out]; exact dayV_turn hg
      generalize hX : sel g (ltr a b c g k) = X at *
      generalize hY : sel o (ltr a b c g k) = Y at *
      have w1' : IntKind.i64.wrap (X * (c - chg a b g)) = X * (c - chg a b g) := IntWalk.i64_in _ (by omega)
      have w2' : IntKind.i64.wrap (Y * chg a b o) = Y * chg a b o := IntWalk.i64_in _ (by omega)
      have w3' : IntKind.i64.wrap (X * chg a b g) = X * chg a b g := IntWalk.i64_in _ (by omega)
      have w4' : IntKind.i64.wrap (Y * (c - chg a b o)) = Y * (c - chg a b o) := IntWalk.i64_in _ (by omega)
      have w5' : IntKind.i64.wrap (X * (c - chg a b g) + Y * chg a b o) = X * (c - chg a b g) + Y * chg a b o := IntWalk.i64_in _ (by omega)
      have w6' : IntKind.i64.wrap (X * chg a b g + Y * (c - chg a b o)) = X * chg a b g + Y * (c - chg a b o) := IntWalk.i64_in _ (by omega)
      clear hX hY
      go_wp2_with fail
      go_region_held3 (fun w' => w'.cell? ⟨w.heap.size + 1, 0, none⟩ = some (.int .i64 a) ∧ w'.cell? ⟨w.heap.size + 1, 1, none⟩ = some (.int .i64 b) ∧ w'.cell? ⟨w.heap.size + 1, 2, none⟩ = some (.int .i64 c) ∧ w'.cell? ⟨w.heap.size + 1, 3, none⟩ = some (.int .u8 g) ∧ w.heap.size + 1 < w'.heap.size ∧ w'.cell? ⟨w1.heap.size, 0, none⟩ = some (.int .i64 a) ∧ w'.cell? ⟨w1.heap.size, 1, none⟩ = some (.int .i64 b) ∧ w'.cell? ⟨w1.heap.size, 2, none⟩ = some (.int .i64 c) ∧ w'.cell? ⟨w1.heap.size, 3, none⟩ = some (.int .u8 o) ∧ w1.heap.size < w'.heap.size ∧ Below w.heap.size w w')
        (first | exact held44_start hbg.out hbo.out hbl | exact held44_keep (by assumption) hb5 | exact held44_keep (by assumption) hb6 | exact held44_keep (by assumption) hb7 | exact held44_keep (by assumption) hb8 | assumption | go_keep)
        (first | (go_at_call_of 110 (Value.int IntKind.u8 g); refine (staying_any a b c g _ hg HR.out).mono ?_; rintro e w5 ⟨rfl, hb5⟩) | (go_at_call_of 110 (Value.int IntKind.u8 o); refine (staying_any a b c o _ hg' HR.out).mono ?_; rintro e w6 ⟨rfl, hb6⟩) | (go_at_call_of 108 (Value.int IntKind.u8 g); refine (changing_any a b c g _ hg).mono ?_; rintro e w7 ⟨rfl, hb7⟩) | (go_at_call_of 108 (Value.int IntKind.u8 o); refine (changing_any a b c o _ hg').mono ?_; rintro e w8 ⟨rfl, hb8⟩))
      all_goals
        obtain ⟨hb1, hb2, hbl1⟩ := held44_below (by assumption)
        have Hb1 := Lib.hid hb1
        have Hb2 := Lib.hid hb2
        clear hb1 hb2 w1' w2' w3' w4' w5' w6'
        go_wp2
        exact ⟨⟨k + 1, by omega, by go_num, by rw [E1.out], by rw [E2.out], Hb1, Hb2, hbl1⟩, by simp [intOf]; omega⟩
    · have hkn : k = n := by omega
      have Hkn := Lib.hid hkn
      clear hkn
      go_wp2
      go_ret
      exact ⟨by rw [← Hkn.out]; rfl, hbl⟩

set_option maxHeartbeats 3200000 in
theorem later_other (a b c d g o : Int) (n : Nat) (w : World) (hd : dayV d) (hg : dayV g) (hr : inR a b c) (hn : n ≤ 9) (hq : ¬ d = g) (Hgo : Hid (219 - g = o)) :
    Calls Try.prog 103 #[wth a b c d, wth a b c g, .int .i64 n] w fun e w' => e = .returned (.int .i64 (sel g (ltr a b c d n))) ∧ Below w.heap.size w w' := by
  have r := hr
  unfold inR at r
  obtain ⟨r1, r2, r3, r4, r5, r6⟩ := r
  have HR := Lib.hid hr
  clear hr
  obtain ⟨i1, i2⟩ := sel_zero (a := a) (b := b) (c := c) hd hg
  rw [Hgo.out] at i2
  rw [if_neg hq] at i1 i2
  have hne : (d == g) = false := by simpa using hq
  have I1 := Lib.hid i1
  have I2 := Lib.hid i2
  clear i1 i2
  have bl0 : Below w.heap.size w ((w.alloc (.cells #[.int .i64 a, .int .i64 b, .int .i64 c, .int .u8 d] 101)).alloc (.cells #[.int .i64 a, .int .i64 b, .int .i64 c, .int .u8 g] 101)) := bel_alloc (bel_alloc (Below.refl _ _) _) _
  have bg0 := Lib.hid (Box4.new (w.alloc (.cells #[.int .i64 a, .int .i64 b, .int .i64 c, .int .u8 d] 101)) (.int .i64 a) (.int .i64 b) (.int .i64 c) (.int .u8 g) 101)
  have bd0 := Lib.hid ((Box4.new w (.int .i64 a) (.int .i64 b) (.int .i64 c) (.int .u8 d) 101).keep (bel_alloc (Below.refl _ _) (.cells #[.int .i64 a, .int .i64 b, .int .i64 c, .int .u8 g] 101)))
  go_enter Try.func103, Try.ntmps103
  go_wp2_with fail
  refine (turned_any a b c g _ hg).mono ?_
  rintro e w1 ⟨rfl, hb1⟩
  rw [Hgo.out]
  have bg1 := bg0.out.keep hb1
  have bd1 := bd0.out.keep hb1
  have bl1 := bel_trans bl0 hb1
  have bg2 := Lib.hid (bg1.keep (bel_alloc (Below.refl _ w1) (.cells #[.int .i64 a, .int .i64 b, .int .i64 c, .int .u8 o] 101)))
  have bo2 := Lib.hid (Box4.new w1 (.int .i64 a) (.int .i64 b) (.int .i64 c) (.int .u8 o) 101)
  have bl2 : Below w.heap.size w (w1.alloc (.cells #[.int .i64 a, .int .i64 b, .int .i64 c, .int .u8 o] 101)) := bel_alloc bl1 _
  have szz : (w.alloc (.cells #[.int .i64 a, .int .i64 b, .int .i64 c, .int .u8 d] 101)).heap.size = w.heap.size + 1 := by simp [go_sem]
  rw [szz] at bg2 bg1
  clear szz
  obtain ⟨c0, c1, c2, c3, hk1⟩ := bg1
  obtain ⟨d0, d1, d2, d3, hk2⟩ := bd1
  go_wp2_with fail
  go_loopw [8, 9, 16] (fun x y i wr => ∃ k : Nat, k ≤ n ∧ i = .int .i64 k ∧ x = .int .i64 (sel g (ltr a b c d k)) ∧ y = .int .i64 (sel o (ltr a b c d k)) ∧ Hid (Box4 wr (w.heap.size + 1) (.int .i64 a) (.int .i64 b) (.int .i64 c) (.int .u8 g)) ∧ Hid (Box4 wr w1.heap.size (.int .i64 a) (.int .i64 b) (.int .i64 c) (.int .u8 o)) ∧ Below w.heap.size w wr) (fun _ _ i _ => n - (intOf i).toNat)
  case atStart => exact ⟨0, by omega, rfl, by rw [I1.out], by rw [I2.out], bg2.out, bo2.out, bl2⟩
  case round =>
    obtain ⟨k, hk, rfl, rfl, rfl, hbg, hbo, hbl⟩ := hrel
    obtain ⟨x0, x1⟩ := sel_le HR.out d g k (by omega)
    obtain ⟨y0, y1⟩ := sel_le HR.out d o k (by omega)
    by_cases hlt : k < n
    · obtain ⟨e1, e2⟩ := sel_step (a := a) (b := b) (c := c) (d := d) hg k
      rw [Hgo.out] at e1 e2
      have E1 := Lib.hid e1
      have E2 := Lib.hid e2
      clear e1 e2
      obtain ⟨p0, p1⟩ := chg_in HR.out g
      obtain ⟨q0, q1⟩ := chg_in HR.out o
      obtain ⟨g1, g2⟩ := mul_bd x0 x1 (show 0 ≤ c - chg a b g by omega) (show c - chg a b g ≤ 10 by omega)
      obtain ⟨g3, g4⟩ := mul_bd y0 y1 q0 (show chg a b o ≤ 10 by omega)
      obtain ⟨g5, g6⟩ := mul_bd x0 x1 p0 (show chg a b g ≤ 10 by omega)
      obtain ⟨g7, g8⟩ := mul_bd y0 y1 (show 0 ≤ c - chg a b o by omega) (show c - chg a b o ≤ 10 by omega)
      have hg' : dayV o := by rw [← Hgo.out]; exact dayV_turn hg
      generalize hX : sel g (ltr a b c d k) = X at *
      generalize hY : sel o (ltr a b c d k) = Y at *
      have w1' : IntKind.i64.wrap (X * (c - chg a b g)) = X * (c - chg a b g) := IntWalk.i64_in _ (by omega)
      have w2' : IntKind.i64.wrap (Y * chg a b o) = Y * chg a b o := IntWalk.i64_in _ (by omega)
      have w3' : IntKind.i64.wrap (X * chg a b g) = X * chg a b g := IntWalk.i64_in _ (by omega)
      have w4' : IntKind.i64.wrap (Y * (c - chg a b o)) = Y * (c - chg a b o) := IntWalk.i64_in _ (by omega)
      have w5' : IntKind.i64.wrap (X * (c - chg a b g) + Y * chg a b o) = X * (c - chg a b g) + Y * chg a b o := IntWalk.i64_in _ (by omega)
      have w6' : IntKind.i64.wrap (X * chg a b g + Y * (c - chg a b o)) = X * chg a b g + Y * (c - chg a b o) := IntWalk.i64_in _ (by omega)
      clear hX hY
      go_wp2_with fail
      go_region_held3 (fun w' => w'.cell? ⟨w.heap.size + 1, 0, none⟩ = some (.int .i64 a) ∧ w'.cell? ⟨w.heap.size + 1, 1, none⟩ = some (.int .i64 b) ∧ w'.cell? ⟨w.heap.size + 1, 2, none⟩ = some (.int .i64 c) ∧ w'.cell? ⟨w.heap.size + 1, 3, none⟩ = some (.int .u8 g) ∧ w.heap.size + 1 < w'.heap.size ∧ w'.cell? ⟨w1.heap.size, 0, none⟩ = some (.int .i64 a) ∧ w'.cell? ⟨w1.heap.size, 1, none⟩ = some (.int .i64 b) ∧ w'.cell? ⟨w1.heap.size, 2, none⟩ = some (.int .i64 c) ∧ w'.cell? ⟨w1.heap.size, 3, none⟩ = some (.int .u8 o) ∧ w1.heap.size < w'.heap.size ∧ Below w.heap.size w w')
        (first | exact held44_start hbg.out hbo.out hbl | exact held44_keep (by assumption) hb5 | exact held44_keep (by assumption) hb6 | exact held44_keep (by assumption) hb7 | exact held44_keep (by assumption) hb8 | assumption | go_keep)
        (first | (go_at_call_of 110 (Value.int IntKind.u8 g); refine (staying_any a b c g _ hg HR.out).mono ?_; rintro e w5 ⟨rfl, hb5⟩) | (go_at_call_of 110 (Value.int IntKind.u8 o); refine (staying_any a b c o _ hg' HR.out).mono ?_; rintro e w6 ⟨rfl, hb6⟩) | (go_at_call_of 108 (Value.int IntKind.u8 g); refine (changing_any a b c g _ hg).mono ?_; rintro e w7 ⟨rfl, hb7⟩) | (go_at_call_of 108 (Value.int IntKind.u8 o); refine (changing_any a b c o _ hg').mono ?_; rintro e w8 ⟨rfl, hb8⟩))
      all_goals
        obtain ⟨hb1, hb2, hbl1⟩ := held44_below (by assumption)
        have Hb1 := Lib.hid hb1
        have Hb2 := Lib.hid hb2
        clear hb1 hb2 w1' w2' w3' w4' w5' w6'
        go_wp2
        exact ⟨⟨k + 1, by omega, by go_num, by rw [E1.out], by rw [E2.out], Hb1, Hb2, hbl1⟩, by simp [intOf]; omega⟩
    · have hkn : k = n := by omega
      have Hkn := Lib.hid hkn
      clear hkn
      go_wp2
      go_ret
      exact ⟨by rw [← Hkn.out]; rfl, hbl⟩

theorem later_any (a b c d g : Int) (n : Nat) (w : World) (hd : dayV d) (hg : dayV g) (hr : inR a b c) (hn : n ≤ 9) :
    Calls Try.prog 103 #[wth a b c d, wth a b c g, .int .i64 n] w fun e w' => e = .returned (.int .i64 (sel g (ltr a b c d n))) ∧ Below w.heap.size w w' := by
  by_cases h : d = g
  · subst h
    exact later_same a b c d (219 - d) n w hg hr hn rfl
  · exact later_other a b c d g (219 - g) n w hd hg hr hn h rfl

end Go.Proofs.Ytggflgmjncjmbaa
