/- So many steps of moves: the program's contract; moves that count ways. -/
import Derived.Test.YtbcngdamligpbaaStep
namespace Go.Proofs.Ytbcngdamligpbaa
set_option linter.unusedSimpArgs false
open Go.ChangeShapes Go.WideShapes Go.ChangeAt Go.RowKit
set_option linter.unusedVariables false

theorem bel_block {w W : World} (h : Below w.heap.size w W) {k : Nat} (hk : k < w.heap.size) {o : Obj} (ho : w.heap[k]? = some o) : W.heap[k]? = some o := (h.block k hk).trans ho
theorem rowC_aft0 (f : Nat → Nat → Int) (n frm : Nat) (h : frm < 5) : (rowC zer).setIfInBounds frm (.int .i64 1) = rowC (aft f n frm 0) := by
  rw [rowC_set _ _ frm h]
  apply rowC_ext
  intro q _
  simp [upd, aft, zer]

set_option maxRecDepth 100000 in
set_option maxHeartbeats 3200000 in
theorem after_any (a : Int) (N : Nat) (g : Nat → Int) (frm long : Nat) (w : World) (hN : N ≤ 5) (hg : ∀ i j, 0 ≤ rowF g i j ∧ rowF g i j ≤ 10) (hz : ∀ i j, N ≤ j → rowF g i j = 0) (hf : frm < N) (hl : long ≤ 100)
    (hb : ∀ k j, k ≤ long → 0 ≤ aft (rowF g) N frm k j ∧ aft (rowF g) N frm k j ≤ 10000000000000000) :
    Calls Try.prog 51 #[.agg (mvC a N g), .int .i64 frm, .int .i64 long] w fun e w' => e = .returned (.agg (rowC (aft (rowF g) N frm long))) ∧ Below w.heap.size w w' := by
  have HG := Lib.hid hg
  have HZ := Lib.hid hz
  have HB := Lib.hid hb
  clear hg hz hb
  have e4 := rowC_aft0 (rowF g) N frm (by omega)
  have e5 := rowC_get zer frm (by omega)
  have k1 : (frm : Int) < 5 := by omega
  generalize hz0 : zer frm = z0 at *
  clear hz0
  go_enter Try.func51, Try.ntmps51
  go_wp2_with (first
    | (refine wpList_alloc_row rfl 62 rfl (rowC zer) (row_zero _) ?_))
  clear e4 e5 k1
  go_loopw [11] (fun x wr => ∃ k : Nat, k ≤ long ∧ x = .int .i64 k ∧ Hid (wr.heap[w.heap.size]? = some (.cells (mvC a N g) 66 (0, 0)) ∧ wr.heap[w.heap.size + 1]? = some (.cells (rowC zer) 62 (0, 0)) ∧ wr.heap[w.heap.size + 1 + 1]? = some (.cells (rowC (aft (rowF g) N frm k)) 62 (0, 0))) ∧ w.heap.size + 1 + 1 < wr.heap.size ∧ Below w.heap.size w wr) (fun x _ => long - (intOf x).toNat)
  case atStart =>
    refine ⟨0, by omega, rfl, Lib.hid ⟨?_, ?_, ?_⟩, ?_, bel_alloc (bel_alloc (bel_alloc (Below.refl _ w) _) _) _⟩
    · rw [heap_alloc_old _ _ (by rw [← size2]; omega)]; exact heap_alloc2_old w _ _
    · exact heap_alloc3_second w _ _ _
    · exact heap_alloc3_new w _ _ _
    · rw [← size3]; omega
  case round =>
    obtain ⟨k, hk, rfl, hh, hs, hbl⟩ := hrel
    by_cases hlt : k < long
    · go_wp2_with (first
        | (refine wpList_load_row rfl 66 (.tmp 3) rfl w.heap.size (by simp [Act.put, Act.eval]) _ (mvC a N g) _ _ hh.out.1 Try.underlying66 rfl mv_info ?_)
        | (refine wpList_load_row rfl 62 (.tmp 7) rfl (w.heap.size + 1 + 1) (by simp [Act.put, Act.eval]) _ (rowC (aft (rowF g) N frm k)) _ _ hh.out.2.2 Try.underlying62 rfl row_info ?_))
      refine (stepFrom_any a N g (aft (rowF g) N frm k) _ hN HG.out HZ.out (fun i => HB.out k i (by omega))).mono ?_
      rintro e w1 ⟨rfl, b1⟩
      have q0 := Lib.hid (bel_block b1 (by omega) hh.out.1)
      have q1 := Lib.hid (bel_block b1 (by omega) hh.out.2.1)
      have q2 := Lib.hid (bel_block b1 hs hh.out.2.2)
      have hs1 : w.heap.size + 1 + 1 < w1.heap.size := Nat.lt_of_lt_of_le hs b1.size
      have hbl1 := bel_trans hbl b1
      go_wp2_with (first
        | (refine wpList_store_row rfl 62 (.tmp 7) (.tmp 15) rfl (w.heap.size + 1 + 1) (rowC (aft (rowF g) N frm (k + 1))) (by simp [Act.put, Act.eval]) (by simp [Act.put, Act.eval]; rfl) _ _ q2.out row_info rfl (rowC_one _) ?_))
      refine ⟨⟨k + 1, by omega, by go_num, Lib.hid ⟨?_, ?_, ?_⟩, ?_, ?_⟩, by simp [intOf]; omega⟩
      · rw [setRow_other _ _ _ _ (by omega)]; exact q0.out
      · rw [setRow_other _ _ _ _ (by omega)]; exact q1.out
      · exact setRow_heap _ _ _ _ _ _ q2.out
      · simpa using hs1
      · exact bel_setRow hbl1 (by omega) _
    · obtain rfl : k = long := by omega
      go_wp2_with (first
        | (refine wpList_load_row rfl 62 (.tmp 7) rfl (w.heap.size + 1 + 1) (by simp [Act.put, Act.eval]) _ (rowC (aft (rowF g) N frm k)) _ _ hh.out.2.2 Try.underlying62 rfl row_info ?_)
        | (refine wpList_store_row rfl 62 (.tmp 6) (.tmp 17) rfl (w.heap.size + 1) (rowC (aft (rowF g) N frm k)) (by simp [Act.put, Act.eval]) (by simp [Act.put, Act.eval]) _ _ hh.out.2.1 row_info rfl (rowC_one _) ?_))
      refine bodyPost_ret (results_cell_row rfl _ _ (w.heap.size + 1) _ (rowC (aft (rowF g) N frm k)) _ _ (by simp [Act.put, Act.eval]) (setRow_heap _ _ _ _ _ _ hh.out.2.1) Try.underlying62 rfl row_info) rfl ⟨rfl, ?_⟩
      exact bel_setRow hbl (by omega) _

def one (x : Int) : Int := if 1 < x then 1 else x
/-- The moves with 1 for each chance that is not 0, those ahead of row i, and of row i those ahead of j. -/
def partC (g : Nat → Int) (i j : Nat) : Nat → Int := fun q => if q / 5 < i ∨ (q / 5 = i ∧ q % 5 < j) then one (g q) else g q
theorem partC_zero (g : Nat → Int) : partC g 0 0 = g := by funext q; unfold partC; rw [if_neg (by omega)]
theorem partC_at (g : Nat → Int) (i j : Nat) (hj : j < 5) : partC g i j (i * 5 + j) = g (i * 5 + j) := by unfold partC; rw [if_neg (by omega)]
theorem partC_next (g : Nat → Int) (i j : Nat) (hj : j < 5) : upd (partC g i j) (i * 5 + j) (one (g (i * 5 + j))) = partC g i (j + 1) := by
  funext q
  unfold upd partC
  by_cases e : q = i * 5 + j
  · subst e; rw [if_pos rfl, if_pos (by omega)]
  · rw [if_neg e]
    by_cases h : q / 5 < i ∨ (q / 5 = i ∧ q % 5 < j)
    · rw [if_pos h, if_pos (by omega)]
    · rw [if_neg h, if_neg (by omega)]
theorem partC_row (g : Nat → Int) (i n : Nat) (hz : ∀ q, n ≤ q % 5 → g q = 0) : partC g i n = partC g (i + 1) 0 := by
  funext q
  unfold partC
  by_cases h : q / 5 < i ∨ (q / 5 = i ∧ q % 5 < n)
  · rw [if_pos h, if_pos (by omega)]
  · rw [if_neg h]
    by_cases h2 : q / 5 < i + 1 ∨ (q / 5 = i + 1 ∧ q % 5 < 0)
    · rw [if_pos h2, hz q (by omega)]; rfl
    · rw [if_neg h2]
def cntG (g : Nat → Int) : Nat → Int := fun q => one (g q)
theorem partC_all (g : Nat → Int) (n : Nat) (hz : ∀ q, n ≤ q / 5 → g q = 0) : partC g n 0 = cntG g := by
  funext q
  unfold partC cntG
  by_cases h : q / 5 < n ∨ (q / 5 = n ∧ q % 5 < 0)
  · rw [if_pos h]
  · rw [if_neg h, hz q (by omega)]; rfl
theorem set2 (w : World) (c c' : Array Value) (t : TypeId) (D : Obj) (n i : Nat) (v : Value) (h : c.setIfInBounds i v = c') :
    ((((w.alloc (.cells c t)).alloc D).drewN n).setCell ⟨w.heap.size, i, none⟩ v) = ((w.alloc (.cells c' t)).alloc D).drewN n := by
  show ((((w.alloc (.cells c t)).alloc D)).setCell ⟨w.heap.size, i, none⟩ v).drewN n = _
  rw [World.setCell_alloc_past _ _ _ _ (by rw [← size1]; omega), World.setCell_alloc_at _ _ _ _ _ rfl, h]

set_option maxRecDepth 100000 in
set_option maxHeartbeats 3200000 in
theorem counted_any (a : Int) (N : Nat) (g : Nat → Int) (w : World) (hN : N ≤ 5) (hz : ∀ q, N ≤ q % 5 → g q = 0) (hz2 : ∀ q, N ≤ q / 5 → g q = 0) :
    Calls Try.prog 50 #[.agg (mvC a N g)] w fun e w' => e = .returned (.agg (mvC a N (cntG g))) ∧ Below w.heap.size w w' := by
  have HZ := Lib.hid hz
  have HA : Hid (partC g N 0 = cntG g) := partC_all g N hz2
  clear hz hz2
  have g1 : ∀ g, (mvC a N g)[1]? = some (.int .i64 N) := fun g => rfl
  have h0 : Hid (((w.alloc (.cells (mvC a N g) 66)).alloc (.cells (mvC 0 0 zer) 66)) = ((w.alloc (.cells (mvC a N (partC g 0 0)) 66)).alloc (.cells (mvC 0 0 zer) 66)).drewN 0) := by
    refine Lib.hid ?_
    rw [partC_zero]; rfl
  go_enter Try.func50, Try.ntmps50
  go_wp2_with (first
    | (refine wpList_alloc_row rfl 66 rfl (mvC 0 0 zer) (mv_zero _) ?_))
  go_loopw [7] (fun x wr => ∃ i : Nat, i ≤ N ∧ x = .int .i64 i ∧ ∃ n, wr = ((w.alloc (.cells (mvC a N (partC g i 0)) 66)).alloc (.cells (mvC 0 0 zer) 66)).drewN n) (fun x _ => N - (intOf x).toNat)
  case atStart => exact ⟨0, by omega, rfl, 0, h0.out⟩
  case round =>
    obtain ⟨i, hi, rfl, n, rfl⟩ := hrel
    by_cases hlt : i < N
    · go_wp2_with fail
      go_loopw [12] (fun x wr => ∃ j : Nat, j ≤ N ∧ x = .int .i64 j ∧ ∃ n, wr = ((w.alloc (.cells (mvC a N (partC g i j)) 66)).alloc (.cells (mvC 0 0 zer) 66)).drewN n) (fun x _ => N - (intOf x).toNat)
      case atStart => exact ⟨0, by omega, rfl, n, rfl⟩
      case round =>
        obtain ⟨j, hj, rfl, n2, rfl⟩ := hrel
        by_cases hlj : j < N
        · have e3 := mvC_get a (N : Int) (partC g i j) (i * 5 + j) (by omega)
          have e4 := mvC_set a (N : Int) (partC g i j) (one (g (i * 5 + j))) (i * 5 + j) (by omega)
          rw [partC_next _ _ _ (by omega)] at e4
          rw [partC_at _ _ _ (by omega)] at e3
          rw [← Nat.add_assoc] at e3 e4
          have k1 : (i : Int) < 5 := by omega
          have k2 : (j : Int) < 5 := by omega
          generalize g (i * 5 + j) = z at *
          go_wp2_with fail
          go_region
          go_wp2_with fail
          exact ⟨⟨j + 1, by omega, by go_num, _, set2 _ _ _ _ _ _ _ _ e4⟩, by simp [intOf]; omega⟩
        · obtain rfl : j = N := by omega
          have hr := Lib.hid (partC_row g i j HZ.out)
          go_wp2_with fail
          exact ⟨⟨i + 1, by omega, by go_num, n2, by rw [hr.out]⟩, by simp [intOf]; omega⟩
    · obtain rfl : i = N := by omega
      go_wp2_with (first
        | (refine wpList_load_row rfl 66 (.tmp 1) rfl w.heap.size (by simp [Act.put, Act.eval]) _ (mvC a i (partC g i 0)) _ _ (heap_alloc2_old w _ _) Try.underlying66 rfl mv_info ?_)
        | (refine wpList_store_row rfl 66 (.tmp 2) (.tmp 29) rfl (w.heap.size + 1) (mvC a i (partC g i 0)) (by simp [Act.put, Act.eval]) (by simp [Act.put, Act.eval]) _ _ (heap_alloc2_new w _ _) mv_info rfl (mvC_one _ _ _) ?_))
      refine bodyPost_ret (results_cell_row rfl _ _ (w.heap.size + 1) _ (mvC a i (partC g i 0)) _ _ (by simp [Act.put, Act.eval]) (setRow_heap _ _ _ _ _ _ (heap_alloc2_new w _ _)) Try.underlying66 rfl mv_info) rfl ⟨by rw [HA.out], ?_⟩
      exact bel_setRow (bel_drewN (bel_alloc (bel_alloc (Below.refl _ w) _) _) _) (by omega) _
end Go.Proofs.Ytbcngdamligpbaa
