/- The period of a state: the program's contract. -/
import Derived.Test.YtbcngdamligpbaaPerC
namespace Go.Proofs.Ytbcngdamligpbaa
set_option linter.unusedSimpArgs false
open Go.ChangeShapes Go.WideShapes Go.ChangeAt Go.RowKit
set_option linter.unusedVariables false

set_option maxRecDepth 100000 in
set_option maxHeartbeats 3200000 in
theorem implPer_any (lim : Int) (m : List (List Int)) (v : Value) (B : Nat) (f : Int) (w : World) (h : RdM w B v m) (hB : B ≤ w.heap.size) :
    Calls Try.prog 30 #[sts lim v, .int .i64 f] w fun e w' => e = .returned (ansPer lim m f) ∧ Below w.heap.size w w' := by
  obtain ⟨A, cap, rfl, l0, m0⟩ := h.form
  have hbl := bel_alloc (bel_alloc (Below.refl _ w) (.cells #[.int .i64 lim, .slice A m.length cap] 27)) (.cells #[.int .i64 f] 3)
  have H := Lib.hid (h.below hbl hB)
  have hBs := Nat.le_trans hB hbl.size
  have hR := Lib.hid (rdI_one (w.alloc (.cells #[.int .i64 lim, .slice A m.length cap] 27)) f _ (size1 w _))
  have hq := Lib.hid (ask1_ask2 lim m f)
  obtain ⟨a, b, g, hm, hy⟩ := mvOf_form lim m
  have Hm := Lib.hid hm
  clear h hm
  cases h1 : ask2 lim m f f with
  | false =>
    rw [show ansPer lim m f = .tuple #[.int .i64 0, .bool false] from by simp [ansPer, h1]]
    have H1 := Lib.hid h1
    clear h1 hy
    go_enter Try.func30, Try.ntmps30
    go_wp2_with fail
    refine (movesAt_any lim m _ _ [f] _ _ _ H.out hBs hR.out (Nat.le_refl _)).mono ?_
    unfold MvAtAns
    rw [hq.out, H1.out, Hm.out]
    rintro e w1 ⟨rfl, b1⟩
    go_wp2_with (first
      | (refine wpList_alloc_row rfl 66 rfl (mvC 0 0 zer) (mv_zero _) ?_)
      | (refine wpList_store_new (k := w1.heap.size) (c' := mvC a b g) rfl 66 (.tmp 6) (.tmp 16) rfl rfl ?_ ?_ mv_info rfl (mvC_one _ _ _) ?_; (· simp [Act.put, Act.eval]); (· simp [Act.put, Act.eval])))
    go_ret2
    exact ⟨rfl, bel_alloc (bel_trans hbl b1) _⟩
  | true =>
    rw [show ansPer lim m f = .tuple #[.int .i64 (perA m f.toNat (3 * m.length) : Int), .bool (decide (0 < perA m f.toNat (3 * m.length)))] from by simp [ansPer, h1]]
    have H1 := Lib.hid h1
    have hs : saG lim m = true := by simp only [ask2, Bool.and_eq_true] at h1; exact h1.1
    obtain ⟨rfl, rfl, rfl⟩ := hy hs
    obtain ⟨hg, i, j, rfl, hij, hi, hj⟩ := ask2_good h1
    clear hij hj j
    have HG := Lib.hid hg
    have n5 := hg.five
    have hF := Lib.hid (rowF_cnt hg)
    clear h1 hg hs hy
    rw [show (i : Int).toNat = i from rfl]
    have k2 : (i : Int) < 5 := by omega
    go_enter Try.func30, Try.ntmps30
    go_wp2_with fail
    refine (movesAt_any a m _ _ [(i : Int)] _ _ _ H.out hBs hR.out (Nat.le_refl _)).mono ?_
    unfold MvAtAns
    rw [hq.out, H1.out, Hm.out]
    rintro e w1 ⟨rfl, b1⟩
    go_wp2_with (first
      | (refine wpList_alloc_row rfl 66 rfl (mvC 0 0 zer) (mv_zero _) ?_)
      | (refine wpList_store_new (k := w1.heap.size) (c' := mvC a m.length (gridM m)) rfl 66 (.tmp 6) (.tmp 16) rfl rfl ?_ ?_ mv_info rfl (mvC_one _ _ _) ?_; (· simp [Act.put, Act.eval]); (· simp [Act.put, Act.eval]))
      | (refine wpList_load_row rfl 66 (.tmp 6) rfl w1.heap.size (by simp [Act.put, Act.eval]) _ (mvC a m.length (gridM m)) _ _ (heap_alloc_new _ _) Try.underlying66 rfl mv_info ?_))
    refine (counted_any a m.length (gridM m) _ n5 (grid_col HG.out) (grid_row HG.out)).mono ?_
    rintro e w2 ⟨rfl, b2⟩
    have g1 : (mvC a m.length (gridM m))[1]? = some (.int .i64 m.length) := rfl
    have hK1 := Lib.hid (bel_block b2 (by rw [← size1]; omega) (heap_alloc_new w1 (.cells (mvC a m.length (gridM m)) 66)))
    have hlt1 : w1.heap.size < w2.heap.size := by have := b2.size; rw [← size1] at this; omega
    have hb2 := bel_trans (bel_alloc (bel_trans hbl b1) _) b2
    clear b1 b2
    go_wp2_with (first
      | (refine wpList_alloc_row rfl 66 rfl (mvC 0 0 zer) (mv_zero _) ?_)
      | (refine wpList_store_new (k := w2.heap.size) (c' := mvC a m.length (cntG (gridM m))) rfl 66 (.tmp 8) (.tmp 21) rfl rfl ?_ ?_ mv_info rfl (mvC_one _ _ _) ?_; (· simp [Act.put, Act.eval]); (· simp [Act.put, Act.eval])))
    obtain ⟨W2, hW2⟩ : ∃ W, W = w2.alloc (.cells (mvC a m.length (cntG (gridM m))) 66) := ⟨_, rfl⟩
    have hE1 : Hid (W2.heap[w1.heap.size]? = some (.cells (mvC a m.length (gridM m)) 66)) := Lib.hid (by rw [hW2]; exact (heap_alloc_old _ _ hlt1).trans hK1.out)
    have hE2 : Hid (W2.heap[w2.heap.size]? = some (.cells (mvC a m.length (cntG (gridM m))) 66)) := Lib.hid (by rw [hW2]; exact heap_alloc_new w2 (.cells (mvC a m.length (cntG (gridM m))) 66))
    have hs2 : w2.heap.size < W2.heap.size := by rw [hW2, ← size1]; omega
    have hbW : Below w.heap.size w W2 := by rw [hW2]; exact bel_alloc hb2 _
    rw [← hW2]
    clear hW2 hb2
    go_loopw [9, 10] (fun x y wr => ∃ k : Nat, k ≤ 3 * m.length ∧ x = .int .i64 (perA m i k : Nat) ∧ y = .int .i64 ((k + 1 : Nat) : Int) ∧ Below W2.heap.size W2 wr) (fun _ y _ => 3 * m.length + 1 - (intOf y).toNat)
    case atStart => exact ⟨0, by omega, rfl, rfl, Below.refl _ _⟩
    case round =>
      obtain ⟨k, hk, rfl, rfl, hb⟩ := hrel
      obtain ⟨wa, rfl⟩ : ∃ wa : World, wa = wr := ⟨_, rfl⟩
      have hA1 := Lib.hid ((hb.block w1.heap.size (by omega)).trans hE1.out)
      have hA2 := Lib.hid ((hb.block w2.heap.size hs2).trans hE2.out)
      have e1 := (cell_of_row wa w1.heap.size 1 _ _ _ hA1.out).trans g1
      by_cases hlt : k < 3 * m.length
      · have hK : k + 1 ≤ 15 := by omega
        have hple := perA_le m i k
        have e2 := fun w => idx_row (aft (wayM true m) m.length i (k + 1)) w i (by omega)
        have hdec : decide (((k + 1 : Nat) : Int) ≤ 3 * (m.length : Int)) = true := by simp; omega
        have HW := Lib.hid (way_aft15 HG.out i (k + 1) hK)
        have HU : Hid (perA m i (k + 1) = if 0 < aft (wayM true m) m.length i (k + 1) i then Nat.gcd (perA m i k) (k + 1) else perA m i k) := Lib.hid rfl
        by_cases hz : 0 < aft (wayM true m) m.length i (k + 1) i
        · have HN := HU.out
          rw [if_pos hz] at HN
          have HN2 := Lib.hid HN
          have hzz : decide (0 < aft (wayM true m) m.length i (k + 1) i) = true := by simpa using hz
          clear hz HN HU
          go_wp2_with (first
            | (refine wpList_load_row rfl 66 (.tmp 8) rfl w2.heap.size (by simp [Act.put, Act.eval]) _ (mvC a m.length (cntG (gridM m))) _ _ hA2.out Try.underlying66 rfl mv_info ?_))
          refine (after_any a m.length (cntG (gridM m)) i (k + 1) _ n5 (by rw [hF.out]; exact wayM_in HG.out true) (by rw [hF.out]; exact way_out HG.out true) hi (by omega) (by rw [hF.out]; exact HW.out)).mono ?_
          rw [hF.out]
          rintro e w3 ⟨rfl, b3⟩
          go_wp2_with fail
          refine (commonDivisor_any ((perA m i k : Nat) : Int) ((k + 1 : Nat) : Int) _ (by omega) (by omega)).mono ?_
          rintro e w4 ⟨rfl, n4, rfl⟩
          go_wp2_with fail
          exact ⟨⟨k + 1, by omega, by rw [HN2.out]; rfl, by go_num, bel_drewF (hb.trans (b3.mono hb.size)) n4⟩, by simp [intOf]; omega⟩
        · have HN := HU.out
          rw [if_neg hz] at HN
          have HN2 := Lib.hid HN
          have hzz : decide (0 < aft (wayM true m) m.length i (k + 1) i) = false := by simpa using hz
          clear hz HN HU
          go_wp2_with (first
            | (refine wpList_load_row rfl 66 (.tmp 8) rfl w2.heap.size (by simp [Act.put, Act.eval]) _ (mvC a m.length (cntG (gridM m))) _ _ hA2.out Try.underlying66 rfl mv_info ?_))
          refine (after_any a m.length (cntG (gridM m)) i (k + 1) _ n5 (by rw [hF.out]; exact wayM_in HG.out true) (by rw [hF.out]; exact way_out HG.out true) hi (by omega) (by rw [hF.out]; exact HW.out)).mono ?_
          rw [hF.out]
          rintro e w3 ⟨rfl, b3⟩
          go_wp2_with fail
          exact ⟨⟨k + 1, by omega, by rw [HN2.out], by go_num, hb.trans (b3.mono hb.size)⟩, by simp [intOf]; omega⟩
      · obtain rfl : k = 3 * m.length := by omega
        have hdec : decide (((3 * m.length + 1 : Nat) : Int) ≤ 3 * (m.length : Int)) = false := by simp; omega
        have hpd : decide ((0 : Int) < ((perA m i (3 * m.length) : Nat) : Int)) = decide (0 < perA m i (3 * m.length)) := by rw [decide_eq_decide]; omega
        go_wp2_with fail
        go_ret2
        exact ⟨by rw [← hpd]; rfl, bel_trans hbW hb⟩
end Go.Proofs.Ytbcngdamligpbaa
