/- HardestToBeat: the contract of the program, and the walk. -/
import Derived.Test.YtmjnmemoaglkeaaHb
namespace Go.Proofs.Ytmjnmemoaglkeaa
open Go.ChangeShapes Go.WideShapes Go.ChangeAt Go.RowKit
set_option linter.unusedVariables false

theorem oddsChanceH_any (f s : Int) (w : World) (hf : 0 ≤ f) (hs : 0 ≤ s) (hf' : f ≤ 400000) (hs' : s ≤ 400000) :
    Calls Try.prog 15 #[odV f s] w fun e w' => e = .returned (.tuple #[.int .i64 f, .int .i64 (f + s)]) ∧ Below w.heap.size w w' := by
  have hw : IntKind.i64.wrap (f + s) = f + s := IntWalk.i64_in _ (by omega)
  go_enter Try.func15, Try.ntmps15
  go_wp2_with fail
  repeat (go_quiet (fail); go_wp2_with fail)
  go_ret2
  exact ⟨rfl, bel_drewN (bel_alloc (Below.refl _ _) _) _⟩

set_option maxRecDepth 100000 in
set_option maxHeartbeats 3200000 in
theorem implHB_any (h o n : Int) (w : World) :
    Calls Try.prog 6 #[cn h o, .int .i64 n] w fun e w' => e = .returned (ansHB h o n) ∧ Below w.heap.size w w' := by
  have bx0 := Lib.hid (Box2.new w (.int .i64 h) (.int .i64 o) 26)
  have bl0 : Below w.heap.size w (w.alloc (.cells #[.int .i64 h, .int .i64 o] 26)) := bel_alloc (Below.refl _ _) _
  cases h1 : rcG h o
  · rw [show ansHB h o n = .tuple #[.string ⟨#[]⟩, .int .i64 0, .int .i64 0, .bool false] from by unfold ansHB hbG; rw [h1]; rfl]
    go_enter Try.func6, Try.ntmps6
    go_wp2_with fail
    refine (isRaceCoin_any h o _).mono ?_
    rintro e w1 ⟨rfl, hb1⟩
    rw [h1]
    go_wp2_with fail
    exact bodyPost_ret (v := .tuple #[.string ⟨#[]⟩, .int .i64 0, .int .i64 0, .bool false]) (by simp [results, Try.results6, go_sem]) rfl ⟨rfl, bel_trans bl0 hb1⟩
  · cases h2 : inB n 2 5
    · rw [show ansHB h o n = .tuple #[.string ⟨#[]⟩, .int .i64 0, .int .i64 0, .bool false] from by unfold ansHB hbG; rw [h1, h2]; rfl]
      have hn : ¬ (2 ≤ n ∧ n ≤ 5) := fun q => by rw [(inB_iff _ _ _).2 q] at h2; cases h2
      by_cases hn0 : n < 2
      · have hd0 : decide (n < 2) = true := decide_eq_true hn0
        go_enter Try.func6, Try.ntmps6
        go_wp2_with fail
        refine (isRaceCoin_any h o _).mono ?_
        rintro e w1 ⟨rfl, hb1⟩
        rw [h1]
        go_wp2_with fail
        exact bodyPost_ret (v := .tuple #[.string ⟨#[]⟩, .int .i64 0, .int .i64 0, .bool false]) (by simp [results, Try.results6, go_sem]) rfl ⟨rfl, bel_trans bl0 hb1⟩
      · have hn4 : 5 < n := by omega
        have hd0 : decide (n < 2) = false := decide_eq_false hn0
        go_enter Try.func6, Try.ntmps6
        go_wp2_with fail
        refine (isRaceCoin_any h o _).mono ?_
        rintro e w1 ⟨rfl, hb1⟩
        rw [h1]
        go_wp2_with fail
        exact bodyPost_ret (v := .tuple #[.string ⟨#[]⟩, .int .i64 0, .int .i64 0, .bool false]) (by simp [results, Try.results6, go_sem]) rfl ⟨rfl, bel_trans bl0 hb1⟩
    · obtain ⟨n0, n4⟩ := (inB_iff _ _ _).1 h2
      obtain ⟨t, rfl⟩ := Int.eq_ofNat_of_zero_le (show 0 ≤ n by omega)
      rw [show ansHB h o (t : Int) = .tuple #[.string (hbst h o t).1, .int .i64 (hbst h o t).2.1, .int .i64 ((hbst h o t).2.1 + (hbst h o t).2.2), .bool true] from by unfold ansHB hbG; rw [h1, h2]; rfl]
      have HR := Lib.hid (fun W => allTosses_any t W (by omega))
      have hall : Hid ((allTx t).foldl (hbS h o) hb0 = hbst h o t) := rfl
      have hin := Lib.hid (fun (l : List ByteArray) (hl : ∀ p ∈ l, p ∈ allTx t) => hb_fold_in (n := t) h1 (by omega) (by omega) l hb0 hl hb0_in)
      have hinA := Lib.hid (hb_fold_in (n := t) h1 (by omega) (by omega) (allTx t) hb0 (fun p hp => hp) hb0_in)
      have hrc := Lib.hid (fun (p : ByteArray) (hp : p ∈ allTx t) => tx_rac (by omega) (by omega) hp)
      have hft := Lib.hid (fun k hk => fold_take (hbS h o) (allTx t) noS k hk hb0)
      have hpos := tx_pos t
      have hlen : (allTx t).length ≤ 4096 := by have := pow12 t (by omega); rw [allTx_len]; exact this
      have hq1 : decide ((t : Int) < 2) = false := decide_eq_false (by omega)
      have hq2 : ¬ (5 : Int) < (t : Int) := by omega
      go_enter Try.func6, Try.ntmps6
      go_wp2_with fail
      refine (isRaceCoin_any h o _).mono ?_
      rintro e w1 ⟨rfl, hb1⟩
      rw [h1]
      have fb9 := Lib.hid (FBox.new w1 (.int .i64 1) (.int .i64 0) 36)
      have bx1 := Lib.hid ((bx0.out.keep hb1).keep (bel_alloc (Below.refl _ _) (.cells #[.int .i64 1, .int .i64 0] 36)))
      have bl1 := bel_alloc (bel_trans bl0 hb1) (.cells #[.int .i64 1, .int .i64 0] 36)
      have hs1 : w.heap.size < w1.heap.size := by have := hb1.size; simp at this; omega
      obtain ⟨k9, hk9⟩ : ∃ k, k = w1.heap.size := ⟨_, rfl⟩
      have hwk : w.heap.size < k9 := by omega
      rw [← hk9] at fb9
      obtain ⟨W0, hW0⟩ : ∃ W0, W0 = w1.alloc (.cells #[.int .i64 1, .int .i64 0] 36) := ⟨_, rfl⟩
      have sz0 : k9 < W0.heap.size := by rw [hW0, hk9]; simp
      have HW0 := Lib.hid hW0
      have HK9 := Lib.hid hk9
      rw [← hW0] at fb9 bx1 bl1
      clear hb1 hs1 hk9 hW0
      go_wp2_with fail
      rw [← HW0.out, ← HK9.out]
      clear hq1 hq2
      refine (HR.out _).mono ?_
      rintro e w3 ⟨v, rfl, r3, hb3⟩
      obtain ⟨A, cap, rfl, hA⟩ := sl_formH r3
      have bx3 := Lib.hid (bx1.out.keep hb3)
      have fb3 := Lib.hid (fb9.out.keep hb3)
      have bl3 := bel_trans bl1 hb3
      have R3 := Lib.hid r3
      have HAA := Lib.hid hA
      clear r3 hA hb3
      rw [hall.out] at hinA
      generalize allTx t = xs at *
      generalize hN : xs.length = N at *
      have HN := Lib.hid hN
      clear hN
      go_wp2_with fail
      go_loopw [8, 31] (fun b i wr => ∃ k : Nat, k ≤ N ∧ i = .int .i64 k ∧ b = .string ((xs.take k).foldl (hbS h o) hb0).1 ∧ Hid (FBox wr k9 (.int .i64 ((xs.take k).foldl (hbS h o) hb0).2.1) (.int .i64 ((xs.take k).foldl (hbS h o) hb0).2.2)) ∧ Hid (Box2 wr w.heap.size (.int .i64 h) (.int .i64 o)) ∧ Hid (SRow wr W0.heap.size (.slice A N cap) xs) ∧ Below w.heap.size w wr) (fun _ i _ => N - (intOf i).toNat)
      case atStart => exact ⟨0, by omega, rfl, rfl, fb3.out, bx3.out, R3.out, bl3⟩
      case round =>
        obtain ⟨k, hk, rfl, rfl, h7, hc, hR, hb⟩ := hrel
        obtain ⟨wa, rfl⟩ : ∃ wa : World, wa = wr := ⟨_, rfl⟩
        have hsa := hb.size
        by_cases hlt : k < N
        · obtain ⟨gg, rfl, hgg⟩ := HAA.out (by omega)
          have hrow := hR.out
          rw [← HN.out] at hrow
          have c0 := hrow.at_ k (by rw [HN.out]; exact hlt)
          have hfk := Lib.hid (hft.out k hlt)
          have hpm := hrc.out _ (getD_mem (k := k) (by rw [HN.out]; exact hlt))
          obtain ⟨i1, i2, i3, i4, i5⟩ := hin.out (xs.take k) (fun p hp => List.mem_of_mem_take hp)
          obtain ⟨d0, d1, d2⟩ := hc.out
          clear hrow
          generalize (xs.take k).foldl (hbS h o) hb0 = st at *
          obtain ⟨bb, f, s⟩ := st
          dsimp only at i1 i2 i3 i4 i5 h7 ⊢
          generalize xs.getD k noS = p at *
          obtain ⟨j1, j2, j3, j4, j5⟩ := bst_in0 h1 hpm
          have HC := Lib.hid (fun W => bestAnswer_any h o p W h1 hpm)
          have hyes := Lib.hid (fun q => hbS_yes (h := h) (o := o) (st := (bb, f, s)) (p := p) q)
          have hno := Lib.hid (fun q => hbS_no (h := h) (o := o) (st := (bb, f, s)) (p := p) q)
          dsimp only at hyes hno
          clear hpm
          generalize (bst h o p).1 = B at *
          generalize (bst h o p).2.1 = F at *
          generalize (bst h o p).2.2 = O at *
          go_wp2_with fail
          refine (HC.out _).mono ?_
          rintro e w2 ⟨rfl, hb2⟩
          have fb10 := Lib.hid (Box2.new w2 (.int .i64 F) (.int .i64 O) 36)
          have b23 := hb2.trans ((bel_alloc (Below.refl _ w2) (.cells #[.int .i64 F, .int .i64 O] 36)).mono hb2.size)
          have h73 := Lib.hid (h7.out.keep b23)
          obtain ⟨q0, q1, q2⟩ := h73.out.1
          obtain ⟨z0, z1, z2⟩ := fb10.out
          obtain ⟨W3, hW3⟩ : ∃ W3, W3 = w2.alloc (.cells #[.int .i64 F, .int .i64 O] 36) := ⟨_, rfl⟩
          have HW3 := Lib.hid hW3
          rw [← hW3] at b23 h73 fb10
          clear hW3
          go_wp2_with fail
          rw [← HW3.out]
          refine (areAbove_any F O f s _ ⟨j1, j2⟩ ⟨j3, j4⟩ ⟨i1, i2⟩ ⟨i3, i4⟩).mono ?_
          rintro e w4 ⟨rfl, hb4⟩
          have b24 := b23.trans (hb4.mono b23.size)
          have h74 := Lib.hid (h7.out.keep b24)
          have hc4 := Lib.hid (hc.out.keep b24)
          have hR4 := Lib.hid (hR.out.below b24)
          have hb4w := bel_trans hb b24
          have z4 := fb10.out.keep hb4
          clear q0 q1 q2 z0 z1 z2 d0 d1 d2 c0
          obtain ⟨y0, y1, y2⟩ := z4
          obtain ⟨⟨q0, q1, q2⟩, q3, q4⟩ := h74.out
          have hs7 := Lib.hid (h74.out.set2 (.int .i64 F) (.int .i64 O))
          have hsc := Lib.hid (hc4.out.set2_other (l := k9) (u := .int .i64 F) (v := .int .i64 O) (by omega))
          have hsR : Hid (SRow ((w4.setCell ⟨k9, 0, none⟩ (.int .i64 F)).setCell ⟨k9, 1, none⟩ (.int .i64 O)) W0.heap.size (.slice (some ⟨gg, 0, none⟩) N cap) xs) := Lib.hid (ownsRow_setCell_below (ownsRow_setCell_below hR4.out (by show _ < _; omega) _) (by show _ < _; omega) _)
          have hsb : Below w.heap.size w ((w4.setCell ⟨k9, 0, none⟩ (.int .i64 F)).setCell ⟨k9, 1, none⟩ (.int .i64 O)) := (hb4w.setCell (by show w.heap.size ≤ k9; omega) _).setCell (by show w.heap.size ≤ k9; omega) _
          by_cases hc2 : F * s < f * O
          · have hS := Lib.hid (hyes.out hc2)
            rw [decide_eq_true hc2]
            go_wp2_with fail
            go_region
            all_goals (go_wp2_with fail)
            all_goals exact ⟨⟨k + 1, by omega, by go_num, by rw [hfk.out, hS.out], by rw [hfk.out, hS.out]; exact hs7, hsc, hsR, hsb.drew⟩, by simp [intOf]; omega⟩
          · have hS := Lib.hid (hno.out (Int.not_lt.mp hc2))
            rw [decide_eq_false hc2]
            go_wp2_with fail
            exact ⟨⟨k + 1, by omega, by go_num, by rw [hfk.out, hS.out], by rw [hfk.out, hS.out]; exact h74, hc4, hR4, hb4w⟩, by simp [intOf]; omega⟩
        · obtain rfl : k = N := by omega
          rw [List.take_of_length_le (by rw [HN.out]; exact Nat.le_refl _), hall.out] at h7 ⊢
          obtain ⟨⟨q0, q1, q2⟩, q3, q4⟩ := h7.out
          obtain ⟨i1, i2, i3, i4, i5⟩ := hinA.out
          go_wp2_with fail
          refine (oddsChanceH_any (hbst h o t).2.1 (hbst h o t).2.2 _ i1 i3 i2 i4).mono ?_
          rintro e w5 ⟨rfl, hb5⟩
          have hbf := bel_trans hb hb5
          go_wp2_with fail
          exact bodyPost_ret (v := .tuple #[.string (hbst h o t).1, .int .i64 (hbst h o t).2.1, .int .i64 ((hbst h o t).2.1 + (hbst h o t).2.2), .bool true]) (by simp [results, Try.results6, go_sem]) rfl ⟨rfl, hbf⟩

set_option maxHeartbeats 1600000 in
theorem walkExactHardestToBeat (h o n : Int) (w : World) (ha : (Lit.int .i64 h).wf = true) (hb : (Lit.int .i64 o).wf = true) (hn : (Lit.int .i64 n).wf = true) :
    Calls Try.prog 3 #[cn h o, .int .i64 n] w fun e w' => e = .returned (.bool true) ∧ Below w.heap.size w w' := by
  clear ha hb hn
  obtain ⟨b, x, y, ok, hv⟩ := ansHB_form h o n
  have Hv := Lib.hid hv
  clear hv
  have bx0 := Lib.hid (Box2.new w (.int .i64 h) (.int .i64 o) 23)
  have bl0 : Below w.heap.size w (w.alloc (.cells #[.int .i64 h, .int .i64 o] 23)) := bel_alloc (Below.refl _ _) _
  go_enter Try.func3, Try.ntmps3
  go_wp2_with fail
  refine (toCoin_any _ _ _).mono ?_
  rintro e w1 ⟨rfl, hb1⟩
  have bx1 := Lib.hid (bx0.out.keep hb1)
  have bl1 := bel_trans bl0 hb1
  obtain ⟨c0_1, c1_1, hk1⟩ := bx1.out
  go_wp2_with fail
  refine (specHB_any h o n _).mono ?_
  rintro e w2 ⟨rfl, hb2⟩
  rw [Hv.out]
  have bx2 := Lib.hid (bx1.out.keep hb2)
  have bl2 := bel_trans bl1 hb2
  obtain ⟨c0_2, c1_2, hk2⟩ := bx2.out
  go_wp2_with fail
  refine (toCoin_any _ _ _).mono ?_
  rintro e w3 ⟨rfl, hb3⟩
  have bl3 := bel_trans bl2 hb3
  go_wp2_with fail
  refine (implHB_any h o n _).mono ?_
  rintro e w4 ⟨rfl, hb4⟩
  rw [Hv.out]
  have bl4 := bel_trans bl3 hb4
  go_wp2_with fail
  go_ret
  exact ⟨rfl, bl4⟩
end Go.Proofs.Ytmjnmemoaglkeaa
