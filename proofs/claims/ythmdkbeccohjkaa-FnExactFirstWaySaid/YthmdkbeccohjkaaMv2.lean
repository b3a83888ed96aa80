/- Moves: the contract of the program's test of states, where its loops run. -/
import Derived.Test.YthmdkbeccohjkaaMv
namespace Go.Proofs.Ythmdkbeccohjkaa
set_option linter.unusedSimpArgs false
open Go.ChangeShapes Go.WideShapes Go.ChangeAt Go.RowKit
set_option linter.unusedVariables false

theorem setRow_alloc_second (W : World) (c c' : Array Value) (t : TypeId) (o : Obj) : ((W.alloc (.cells c t)).alloc o).setRow W.heap.size c' = (W.alloc (.cells c' t)).alloc o := by
  rw [← World.setRow_alloc_new W c c' t]
  simp only [World.setRow, World.alloc]
  congr 1
  apply Array.ext_getElem?
  intro i
  simp only [Array.getElem?_modify, Array.getElem?_push, Array.size_push, Array.size_modify]
  by_cases h : W.heap.size = i
  · subst h; simp
  · by_cases h2 : i = W.heap.size + 1
    · subst h2; simp
    · simp [h, h2]
section
variable {P : Program} {ops : Array Oper} {rest : List Oper} {o : Oper} {a : Act} {w : World} {Q : Exit → Act → World → Prop}
/-- Into the block that was made last but one. -/
theorem wpList_store_second {c c' : Array Value} {W : World} {ob : Obj} {k : Nat} (hgd : o.guard = none) (ty : TypeId) (x y : Operand) (ho : o.op = .store ty x y)
    (hk : k = W.heap.size) (hx : a.eval x = .pointer (some ⟨k, 0, none⟩)) (hy : a.eval y = .agg c') (hi : (P.info? ty).map (·.size) = some c'.size) (hs : c.size = c'.size) (h1 : c'.all (·.oneCell') = true)
    (h : wpList P ops Q rest (a.put o.dst undef) ((W.alloc (.cells c' ty)).alloc ob)) : wpList P ops Q (o :: rest) a ((W.alloc (.cells c ty)).alloc ob) := by
  subst hk
  exact wpList_store_row (w := (W.alloc (.cells c ty)).alloc ob) hgd ty x y ho W.heap.size c' hx hy ty c ((heap_alloc_old _ _ (by simp)).trans (heap_alloc_new W _)) hi hs h1 (by rw [setRow_alloc_second]; exact h)
end

theorem size2 (w : World) (a b : Obj) : w.heap.size + 2 = ((w.alloc a).alloc b).heap.size := by
  show _ = ((w.heap.push a).push b).size
  simp
theorem heap_alloc3_new (w : World) (A B C : Obj) : (((w.alloc A).alloc B).alloc C).heap[w.heap.size + 1 + 1]? = some C := by
  have h := heap_alloc_new ((w.alloc A).alloc B) C
  rwa [← size2] at h
theorem heap_alloc3_second (w : World) (A B C : Obj) : (((w.alloc A).alloc B).alloc C).heap[w.heap.size + 1]? = some B := by
  rw [heap_alloc_old _ _ (by show _ < ((w.heap.push A).push B).size; simp)]
  exact heap_alloc2_new w A B
theorem size1 (w : World) (a : Obj) : w.heap.size + 1 = (w.alloc a).heap.size := by
  show _ = (w.heap.push a).size
  simp

set_option maxRecDepth 100000 in
set_option maxHeartbeats 1600000 in
theorem movesOf_body (lim : Int) (m : List (List Int)) (v : Value) (B : Nat) (w : World) (h : RdM w B v m) (hB : B ≤ w.heap.size) (h1 : inB lim 1 10 = true) (h2 : inB (m.length : Int) 1 5 = true) :
    Calls Try.prog 25 #[sts lim v] w (MvAns lim m w) := by
  obtain ⟨A, cap, rfl, l0, m0⟩ := h.form
  unfold maxLen at m0
  obtain ⟨hl1, hl10⟩ := (inB_iff _ _ _).1 h1
  have hlen := (inB_iff _ _ _).1 h2
  have hbl : ∀ g, Below w.heap.size w (((w.alloc (.cells #[.int .i64 lim, .slice A m.length cap] 29)).alloc (.cells (mvC 0 0 zer) 45)).alloc (.cells (mvC lim m.length g) 45)) := fun g => bel_alloc (bel_alloc (bel_alloc (Below.refl _ w) _) _) _
  have HB := Lib.hid hbl
  have H := Lib.hid (fun g => h.below (hbl g) hB)
  clear h hbl
  have HE : Hid (preB lim m m.length → saG lim m = true) := fun hp => pre_all h1 h2 hp
  have hrow : ∀ k, k < m.length → ((rowB lim m.length (m.getD k []) = false → saG lim m = false) ∧ (preB lim m k → rowB lim m.length (m.getD k []) = true → preB lim m (k + 1))) := fun k hk => ⟨pre_no hk, pre_next⟩
  have HR := Lib.hid hrow
  clear hrow h1 h2
  have hN1 : 1 ≤ m.length := by omega
  have hN5 : m.length ≤ 5 := by omega
  clear hlen
  unfold MvAns
  have Hno := Lib.hid (@mvOf_no lim m)
  have Hyes := Lib.hid (@mvOf_yes lim m)
  have Hfill := Lib.hid (fillG_all m)
  have HfR := Lib.hid (fillG_row m)
  generalize hN : m.length = N at *
  have HN := Lib.hid hN
  clear hN
  have d1 : decide (lim < 1) = false := by simp; omega
  have d2 : decide (10 < lim) = false := by simp; omega
  have d3 : decide (5 < N) = false := by simp; omega
  have d4 : ¬ N = 0 := by omega
  have hZ : Hid (fillG m 0 0 = zer) := fillG_zero m
  go_enter Try.func25, Try.ntmps25
  go_wp2_with (first
    | (refine wpList_alloc_row rfl 45 rfl (mvC 0 0 zer) (mv_zero _) ?_)
    | (refine wpList_built rfl 45 _ rfl (mvC lim N zer) (by simp; exact mv_built lim N) ?_)
    | (refine wpList_store_new (k := w.heap.size + 1 + 1) (c' := mvC lim N zer) rfl 45 (.tmp 4) (.tmp 36) rfl ?_ ?_ ?_ mv_info rfl (mvC_one _ _ _) ?_; (· exact size2 _ _ _); (· simp [Act.put, Act.eval]); (· simp [Act.put, Act.eval])))
  have g1 : ∀ g, (mvC lim (N : Int) g)[1]? = some (.int .i64 (N : Int)) := fun g => rfl
  have hZ2 : Hid (mvC lim N zer = mvC lim N (fillG m 0 0)) := by rw [hZ.out]; exact rfl
  rw [hZ2.out]
  go_loopw [40] (fun i wr => ∃ k : Nat, k ≤ N ∧ i = .int .i64 k ∧ Hid (preB lim m k) ∧ wr = (((w.alloc (.cells #[.int .i64 lim, .slice A N cap] 29)).alloc (.cells (mvC 0 0 zer) 45)).alloc (.cells (mvC lim N (fillG m k 0)) 45))) (fun i _ => N - (intOf i).toNat)
  case atStart => exact ⟨0, by omega, rfl, fun j hj => by omega, rfl⟩
  case round =>
    obtain ⟨k, hk, rfl, hpre, rfl⟩ := hrel
    by_cases hlt : k < N
    · obtain ⟨ad, A', cap', rfl, _, e0, r0, hl0, hm0⟩ := (H.out (fillG m k 0)).at_ (by rw [HN.out]; exact hlt)
      have R0 := Lib.hid (r0.keep (w' := w) fun p hp => ((HB.out (fillG m k 0)).cell (Nat.lt_of_lt_of_le hp hB)).symm)
      obtain ⟨hno, hyes⟩ := HR.out k hlt
      have Hno2 := Lib.hid hno
      have Hyes2 := Lib.hid (hyes hpre.out)
      unfold maxLen at hm0
      have HF := Lib.hid (HfR.out k)
      have HA := Lib.hid (fun j hj => fillG_next m k j hj)
      have HG := Lib.hid (fun j => show atM m k j = (m.getD k []).getD j 0 from rfl)
      clear r0 hno hyes
      generalize hxs : m.getD k [] = xs at *
      clear hxs
      by_cases hlen : xs.length = N
      · clear HR HN HE
        subst hlen
        have Hs0 : Hid (sumK xs 0 = 0) := rfl
        go_wp2_with fail
        rw [← Hs0.out]
        go_loopw [7, 53] (fun x i wr => ∃ j : Nat, j ≤ xs.length ∧ i = .int .i64 j ∧ x = .int .i64 (sumK xs j) ∧ Hid (∀ q, q < j → inB (xs.getD q 0) 0 lim = true) ∧ wr = (((w.alloc (.cells #[.int .i64 lim, .slice (some ad) xs.length cap] 29)).alloc (.cells (mvC 0 0 zer) 45)).alloc (.cells (mvC lim xs.length (fillG m k j)) 45))) (fun _ i _ => xs.length - (intOf i).toNat)
        case atStart => exact ⟨0, by omega, rfl, rfl, fun q hq => by omega, rfl⟩
        case round =>
          obtain ⟨j, hj, rfl, rfl, hall, rfl⟩ := hrel
          obtain ⟨s0, s1⟩ := sumK_in xs lim (by omega) j hall.out
          have s2 : (j : Int) * lim ≤ 50 := Int.le_trans (Int.mul_le_mul (show (j : Int) ≤ 5 by omega) hl10 (by omega) (by omega)) (by omega)
          by_cases hjl : j < xs.length
          · obtain ⟨ad2, rfl, _, e2⟩ := (R0.out.below (HB.out (fillG m k j)) hB).at_ hjl
            have hS : Hid (sumK xs j + xs.getD j 0 = sumK xs (j + 1)) := rfl
            have hall2 : Hid (inB (xs.getD j 0) 0 lim = true → ∀ q, q < j + 1 → inB (xs.getD q 0) 0 lim = true) := fun hx q hq => by
              rcases Nat.lt_or_ge q j with h1 | h1
              · exact hall.out q h1
              · obtain rfl : q = j := by omega
                exact hx
            have hno : Hid (inB (xs.getD j 0) 0 lim = false → saG lim m = false) := fun hx => Hno2.out (by simp [rowB, all_no (p := fun x => inB x 0 lim) hjl hx])
            have HAj := Lib.hid (HA.out j (by omega))
            have HGj := Lib.hid (HG.out j)
            generalize hxj : xs.getD j 0 = x at *
            clear hxj
            generalize sumK xs j = y at *
            have s3 : y ≤ 50 := by omega
            clear s1 s2
            by_cases hx0 : x < 0
            · have HF0 : Hid (saG lim m = false) := hno.out (by simp [inB]; omega)
              have hd : decide (x < 0) = true := by simpa using hx0
              go_wp2_with (first | (refine wpList_built rfl 45 _ rfl (mvC 0 0 zer) (by simpa using mv_built0) ?_) | (refine wpList_store_second (k := w.heap.size + 1) (c' := mvC 0 0 zer) rfl 45 (.tmp 2) (.tmp 66) rfl ?_ ?_ ?_ mv_info rfl (mvC_one _ _ _) ?_; (· exact size1 _ _); (· simp [Act.put, Act.eval]); (· simp [Act.put, Act.eval])))
              exact bodyPost_ret (results_cell_tmp2 rfl _ _ (w.heap.size + 1) _ (mvC 0 0 zer) _ _ rfl (heap_alloc3_second w _ _ _) Try.underlying45 rfl mv_info) rfl ⟨by rw [HF0.out, Hno.out HF0.out]; rfl, HB.out _⟩
            · by_cases hx1 : lim < x
              · have HF0 : Hid (saG lim m = false) := hno.out (by simp [inB]; omega)
                have hd : decide (x < 0) = false := by simpa using hx0
                have hd1 : decide (lim < x) = true := by simpa using hx1
                go_wp2_with (first | (refine wpList_built rfl 45 _ rfl (mvC 0 0 zer) (by simpa using mv_built0) ?_) | (refine wpList_store_second (k := w.heap.size + 1) (c' := mvC 0 0 zer) rfl 45 (.tmp 2) (.tmp 66) rfl ?_ ?_ ?_ mv_info rfl (mvC_one _ _ _) ?_; (· exact size1 _ _); (· simp [Act.put, Act.eval]); (· simp [Act.put, Act.eval])))
                exact bodyPost_ret (results_cell_tmp2 rfl _ _ (w.heap.size + 1) _ (mvC 0 0 zer) _ _ rfl (heap_alloc3_second w _ _ _) Try.underlying45 rfl mv_info) rfl ⟨by rw [HF0.out, Hno.out HF0.out]; rfl, HB.out _⟩
              · have hd : decide (x < 0) = false := by simpa using hx0
                have hd1 : decide (lim < x) = false := by simpa using hx1
                have hy : Hid (∀ q, q < j + 1 → inB (xs.getD q 0) 0 lim = true) := hall2.out ((inB_iff _ _ _).2 ⟨by omega, by omega⟩)
                have hg := mvC_get lim (xs.length : Int) (fillG m k j) (k * 5 + j) (by omega)
                have hs := mvC_set lim (xs.length : Int) (fillG m k j) x (k * 5 + j) (by omega)
                have hu : upd (fillG m k j) (k * 5 + j) x = fillG m k (j + 1) := by rw [← HAj.out, HGj.out]
                rw [hu] at hs
                rw [← Nat.add_assoc] at hg hs
                generalize fillG m k j (k * 5 + j) = z at *
                clear hu
                go_wp2_with fail
                exact ⟨⟨j + 1, by omega, by go_num, by rw [hS.out], hy, rfl⟩, by simp [intOf]; omega⟩
          · obtain rfl : j = xs.length := by omega
            have hR : Hid (sumK xs xs.length = lim → rowB lim xs.length xs = true) := fun e => by
              have : xs.all (fun x => inB x 0 lim) = true := all_getD.2 hall.out
              simp [rowB, this, ← sumK_all, e]
            have hR0 : Hid (sumK xs xs.length ≠ lim → rowB lim xs.length xs = false) := fun e => by simp [rowB, ← sumK_all, e]
            have HFr := Lib.hid (HF.out hN5)
            by_cases he : sumK xs xs.length = lim
            · have HP := Lib.hid (Hyes2.out (hR.out he))
              generalize sumK xs xs.length = y at *
              subst he
              clear s0 s1 s2
              go_wp2_with fail
              exact ⟨⟨k + 1, by omega, by go_num, HP, by rw [HFr.out]⟩, by simp [intOf]; omega⟩
            · have HF0 : Hid (saG lim m = false) := Hno2.out (hR0.out he)
              generalize sumK xs xs.length = y at *
              clear s0 s1 s2
              go_wp2_with (first | (refine wpList_built rfl 45 _ rfl (mvC 0 0 zer) (by simpa using mv_built0) ?_) | (refine wpList_store_second (k := w.heap.size + 1) (c' := mvC 0 0 zer) rfl 45 (.tmp 2) (.tmp 81) rfl ?_ ?_ ?_ mv_info rfl (mvC_one _ _ _) ?_; (· exact size1 _ _); (· simp [Act.put, Act.eval]); (· simp [Act.put, Act.eval])))
              exact bodyPost_ret (results_cell_tmp2 rfl _ _ (w.heap.size + 1) _ (mvC 0 0 zer) _ _ rfl (heap_alloc3_second w _ _ _) Try.underlying45 rfl mv_info) rfl ⟨by rw [HF0.out, Hno.out HF0.out]; rfl, HB.out _⟩
      · have HF0 : Hid (saG lim m = false) := Hno2.out (by simp [rowB, hlen])
        have hlenI : ¬ ((xs.length : Int) = (N : Int)) := by omega
        go_wp2_with (first | (refine wpList_built rfl 45 _ rfl (mvC 0 0 zer) (by simpa using mv_built0) ?_) | (refine wpList_store_second (k := w.heap.size + 1) (c' := mvC 0 0 zer) rfl 45 (.tmp 2) (.tmp 50) rfl ?_ ?_ ?_ mv_info rfl (mvC_one _ _ _) ?_; (· exact size1 _ _); (· simp [Act.put, Act.eval]); (· simp [Act.put, Act.eval])))
        exact bodyPost_ret (results_cell_tmp2 rfl _ _ (w.heap.size + 1) _ (mvC 0 0 zer) _ _ rfl (heap_alloc3_second w _ _ _) Try.underlying45 rfl mv_info) rfl ⟨by rw [HF0.out, Hno.out HF0.out]; rfl, HB.out _⟩
    · have hkn : k = N := by omega
      have HF0 : Hid (saG lim m = true) := HE.out (hkn ▸ hpre.out)
      have HFl : Hid (fillG m k 0 = gridM m) := hkn ▸ Hfill.out
      clear hkn
      go_wp2_with (first | (refine wpList_load_row rfl 45 (.tmp 4) rfl (w.heap.size + 1 + 1) (by simp [Act.put, Act.eval]) _ (mvC lim N (fillG m k 0)) _ _ (heap_alloc3_new w _ _ _) Try.underlying45 rfl mv_info ?_) | (refine wpList_store_second (k := w.heap.size + 1) (c' := mvC lim N (fillG m k 0)) rfl 45 (.tmp 2) (.tmp 83) rfl ?_ ?_ ?_ mv_info rfl (mvC_one _ _ _) ?_; (· exact size1 _ _); (· simp [Act.put, Act.eval]); (· simp [Act.put, Act.eval])))
      refine bodyPost_ret (results_cell_tmp2 rfl _ _ (w.heap.size + 1) _ (mvC lim N (fillG m k 0)) _ _ rfl (heap_alloc3_second w _ _ _) Try.underlying45 rfl mv_info) rfl ⟨by rw [HF0.out, Hyes.out HF0.out, HFl.out]; rfl, ?_⟩
      exact bel_alloc (bel_alloc (bel_alloc (Below.refl _ w) _) _) _
end Go.Proofs.Ythmdkbeccohjkaa
