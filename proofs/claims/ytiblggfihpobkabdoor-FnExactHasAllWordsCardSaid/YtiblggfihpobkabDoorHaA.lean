/- HasAllWords: the program's arrays of marks. -/
import Derived.Test.YtiblggfihpobkabDoorHaP
import Derived.Test.YtiblggfihpobkabDoorArg
import Derived.Test.YtiblggfihpobkabDoorWoRa
import Derived.Test.YtiblggfihpobkabDoorShelf
namespace Go.Proofs.YtiblggfihpobkabDoor
set_option linter.unusedSimpArgs false
open Go.ChangeShapes Go.WideShapes Go.ChangeAt Go.RowKit
set_option linter.unusedVariables false

set_option maxRecDepth 100000 in
theorem boo_z (w : World) : (zeroValue 52).run Tryd.prog w = .ok (.agg (bC noW)) w := by
  rw [← bC_zero]
  exact Tryd.zeroValue52 w
theorem boo_info2 (r : Nat → Bool) : (Tryd.prog.info? 52).map (·.size) = some (bC r).size := by rw [boo_info, bC_size]
/-- The marks of all words. -/
theorem ranksUpTo_any (q : Nat) (w : World) (hq : q ≤ 300) :
    Calls Tryd.prog 37 #[.int .i64 q] w fun e w' => e = .returned (.agg (bC (ltW q))) ∧ Below w.heap.size w w' := by
  go_enter Tryd.func37, Tryd.ntmps37
  go_wp2_with (refine wpList_alloc_row rfl 52 rfl (bC noW) (boo_z _) ?_)
  go_loopw [6] (fun x wr => ∃ k : Nat, k ≤ q ∧ x = .int .i64 k ∧ Hid (wr.heap[w.heap.size]? = some (.cells (bC noW) 52)) ∧ Hid (wr.heap[w.heap.size + 1]? = some (.cells (bC (ltW k)) 52)) ∧ Below w.heap.size w wr) (fun x _ => q - (intOf x).toNat)
  case atStart =>
    refine ⟨0, by omega, rfl, ?_, ?_, bel_alloc (bel_alloc (Below.refl _ _) _) _⟩
    · exact Lib.hid (heap_alloc2_old w _ _)
    · exact Lib.hid (by rw [ltW_zero]; exact heap_alloc2_new w _ _)
  case round =>
    obtain ⟨k, hk, rfl, h0, h1, hb⟩ := hrel
    obtain ⟨wa, rfl⟩ : ∃ wa : World, wa = wr := ⟨_, rfl⟩
    by_cases hlt : k < q
    · have k1 : (k : Int) < 300 := by omega
      have c1 := cell_heap h1.out (bC_get (ltW k) k (by omega))
      have f1 := froz_heap (q := k) h1.out
      have s1 := Lib.hid (set_heap (q := k) h1.out (.bool true))
      rw [bC_set _ _ _ (by omega), ltW_succ] at s1
      have s0 : Hid ((wa.setCell ⟨w.heap.size + 1, k, none⟩ (.bool true)).heap[w.heap.size]? = some (.cells (bC noW) 52)) := Lib.hid ((Below.heap_setCell _ _ _ _ (by simp)).trans h0.out)
      have hb1 : Below w.heap.size w (wa.setCell ⟨w.heap.size + 1, k, none⟩ (.bool true)) := hb.setCell (by show w.heap.size ≤ w.heap.size + 1; omega) _
      generalize ltW k k = z at *
      go_wp2_with fail
      exact ⟨⟨k + 1, by omega, by go_num, s0, s1, hb1⟩, by simp [intOf]; omega⟩
    · obtain rfl : k = q := by omega
      go_wp2_with (first
        | (refine wpList_load_row rfl 52 (.tmp 3) rfl (w.heap.size + 1) (by simp [Act.put, Act.eval]) _ (bC (ltW k)) _ _ h1.out Tryd.underlying52 rfl (boo_info2 _) ?_)
        | (refine wpList_store_row rfl 52 (.tmp 2) (.tmp 12) rfl w.heap.size (bC (ltW k)) (by simp [Act.put, Act.eval]) (by simp [Act.put, Act.eval]) _ _ h0.out (boo_info2 _) (by rw [bC_size, bC_size]) (bC_one _) ?_))
      refine bodyPost_ret (results_cell_row rfl _ _ w.heap.size _ (bC (ltW k)) _ _ (by simp [Act.put, Act.eval]) (setRow_heap _ _ _ _ _ _ h0.out) Tryd.underlying52 rfl (boo_info2 _)) rfl ⟨rfl, ?_⟩
      exact bel_setRow hb (Nat.le_refl _) _
theorem hb0 {W : World} {b : Nat} {o : Obj} (h : W.heap[b]? = some o) : b < W.heap.size := (Array.getElem?_eq_some_iff.1 h).1
theorem repeat_any (s : ByteArray) (c : Nat) (w : World) (hs : s.size ≤ 300) (hc : c ≤ 9) :
    Calls Tryd.prog 51 #[.string s, .int .i64 c] w fun e w' => (∃ A : ByteArray, e = .returned (.string A) ∧ A.data.toList = Lib.repeatL s.data.toList c) ∧ Below w.heap.size w w' := by
  refine (Tryd.strings_Repeat s c w (by omega) (Nat.le_trans (Nat.mul_le_mul hs hc) (by omega))).mono ?_
  rintro e w' ⟨rfl, hb⟩
  exact ⟨⟨_, rfl, rfl⟩, hb⟩
set_option maxRecDepth 100000 in
set_option maxHeartbeats 1600000 in
/-- The marks of the words around a ring. -/
theorem ranksAround_any (n L : Nat) (s : ByteArray) (w : World) (n1 : 1 ≤ n) (n2 : n ≤ 26) (l1 : 1 ≤ L) (l2 : L ≤ 8) (hq1 : 1 ≤ s.size) (hq : s.size ≤ 300) (hqq : s.size = n ^ L) (ha : allN n s = true) :
    Calls Tryd.prog 36 #[.int .i64 n, .int .i64 L, .string s] w fun e w' => e = .returned (.agg (bC (thK (rkN n s L) s.size))) ∧ Below w.heap.size w w' := by
  have HA := Lib.hid ha
  have Hqq := Lib.hid hqq
  clear ha hqq
  obtain ⟨f, hf⟩ : ∃ f, f = rkN n s L := ⟨_, rfl⟩
  rw [← hf]
  have Hf := Lib.hid hf
  clear hf
  have hw1 : IntKind.i64.wrap ((L : Int) + 1) = (L : Int) + 1 := IntWalk.i64_in _ (by omega)
  have hL1 : Hid ((L : Int) + 1 = ((L + 1 : Nat) : Int)) := Lib.hid (by omega)
  go_enter Tryd.func36, Tryd.ntmps36
  go_wp2_with (refine wpList_alloc_row rfl 52 rfl (bC noW) (boo_z _) ?_)
  rw [hL1.out]
  refine (repeat_any s (L + 1) _ hq (by omega)).mono ?_
  rintro e w2 ⟨⟨A, rfl, hA⟩, hb2⟩
  have HAl := Lib.hid hA
  have hAz : A.size = (L + 1) * s.size := by rw [← len_list, hA, Lib.repeatL_length, len_list]
  have HAz := Lib.hid hAz
  clear hA hL1 hw1 hAz
  have g0 := Lib.hid ((hb2.block w.heap.size (by simp)).trans (heap_alloc_new w (.cells (bC noW) 52)))
  have hbw := bel_trans (bel_alloc (Below.refl _ w) (.cells (bC noW) 52)) hb2
  have hsz := hbw.size
  have hlt0 : w.heap.size < w2.heap.size := Nat.lt_of_lt_of_le (by simp) hb2.size
  clear hb2
  go_wp2_with (refine wpList_alloc_row rfl 52 rfl (bC noW) (boo_z _) ?_)
  go_loopw [16] (fun x wr => ∃ k : Nat, k ≤ s.size ∧ x = .int .i64 k ∧ Hid (wr.heap[w.heap.size]? = some (.cells (bC noW) 52)) ∧ Hid (wr.heap[w2.heap.size]? = some (.cells (bC (thK f k)) 52)) ∧ Below w.heap.size w wr) (fun x _ => s.size - (intOf x).toNat)
  case atStart =>
    refine ⟨0, by omega, rfl, ?_, ?_, bel_alloc hbw _⟩
    · exact Lib.hid ((heap_alloc_old w2 _ hlt0).trans g0.out)
    · exact Lib.hid (by rw [thK_zero]; exact heap_alloc_new w2 _)
  case round =>
    obtain ⟨k, hk, rfl, h0, h1, hb⟩ := hrel
    obtain ⟨wa, rfl⟩ : ∃ wa : World, wa = wr := ⟨_, rfl⟩
    by_cases hlt : k < s.size
    · obtain ⟨r1, r2⟩ := rkN_in HA.out hq1 L k
      rw [← Hf.out, ← Hqq.out] at r2
      have hkL : k + L ≤ A.size := by
        rw [HAz.out, Nat.succ_mul]
        have : L * 1 ≤ L * s.size := Nat.mul_le_mul_left L hq1
        omega
      have hext := arW_ext s A (L + 1) L k HAl.out (by rw [← HAz.out]; exact hkL)
      have har := arW_size s L k
      have hal := arW_all HA.out hq1 L k
      have hwk : IntKind.i64.wrap ((k : Int) + (L : Int)) = (k : Int) + (L : Int) := IntWalk.i64_in _ (by omega)
      have hki : (k : Int) + (L : Int) ≤ (A.size : Int) := by omega
      have hkz : (0 : Int) ≤ (k : Int) + (L : Int) := by omega
      have hkt : ((k : Int) + (L : Int)).toNat = k + L := by omega
      have hkm : (k : Int) ≤ (k : Int) + (L : Int) := by omega
      have hrv : Hid (rkK n (arW s L k) (arW s L k).size = (f k : Int)) := Lib.hid (by rw [har, r1, Hf.out])
      obtain ⟨m, hm⟩ : ∃ m, m = f k := ⟨_, rfl⟩
      have hts := thK_succ f k
      rw [← hm] at hts hrv r2
      have k1 : (m : Int) < 300 := by omega
      have m3 : m < 300 := by omega
      have Hext := Lib.hid hext
      have Har := Lib.hid har
      have Hal := Lib.hid hal
      have Hts := Lib.hid hts
      clear hext har hal hts r1 r2 hm
      go_wp2_with fail
      rw [Hext.out]
      refine (implRank_any n (arW s L k) wa n1 n2 (by rw [Har.out]; exact l1) (by rw [Har.out]; exact l2) Hal.out).mono ?_
      rintro e w5 ⟨rfl, b5⟩
      rw [hrv.out]
      have h0b := Lib.hid ((b5.block w.heap.size (hb0 h0.out)).trans h0.out)
      have h1b := Lib.hid ((b5.block w2.heap.size (hb0 h1.out)).trans h1.out)
      have hb5 := bel_trans hb b5
      have c1 := cell_heap h1b.out (bC_get (thK f k) m m3)
      have f1 := froz_heap (q := m) h1b.out
      have s1 := Lib.hid (set_heap (q := m) h1b.out (.bool true))
      rw [bC_set _ _ _ m3, Hts.out] at s1
      have s0 : Hid ((w5.setCell ⟨w2.heap.size, m, none⟩ (.bool true)).heap[w.heap.size]? = some (.cells (bC noW) 52)) := Lib.hid ((Below.heap_setCell _ _ _ _ (by show w.heap.size ≠ w2.heap.size; omega)).trans h0b.out)
      have hb6 : Below w.heap.size w (w5.setCell ⟨w2.heap.size, m, none⟩ (.bool true)) := hb5.setCell (by show w.heap.size ≤ w2.heap.size; omega) _
      generalize thK f k m = z at *
      clear h0b h1b hb5 b5
      go_wp2_with fail
      exact ⟨⟨k + 1, by omega, by go_num, s0, s1, hb6⟩, by simp [intOf]; omega⟩
    · obtain rfl : k = s.size := by omega
      go_wp2_with (first
        | (refine wpList_load_row rfl 52 (.tmp 8) rfl w2.heap.size (by simp [Act.put, Act.eval]) _ (bC (thK f s.size)) _ _ h1.out Tryd.underlying52 rfl (boo_info2 _) ?_)
        | (refine wpList_store_row rfl 52 (.tmp 6) (.tmp 29) rfl w.heap.size (bC (thK f s.size)) (by simp [Act.put, Act.eval]) (by simp [Act.put, Act.eval]) _ _ h0.out (boo_info2 _) (by rw [bC_size, bC_size]) (bC_one _) ?_))
      refine bodyPost_ret (results_cell_row rfl _ _ w.heap.size _ (bC (thK f s.size)) _ _ (by simp [Act.put, Act.eval]) (setRow_heap _ _ _ _ _ _ h0.out) Tryd.underlying52 rfl (boo_info2 _)) rfl ⟨rfl, ?_⟩
      exact bel_setRow hb (Nat.le_refl _) _
end Go.Proofs.YtiblggfihpobkabDoor
