/- States told by other names: the contract of the program. -/
import Derived.Test.YtcfafgdgmkiibaaRnP
import Derived.RegionTactic
import Derived.ChangeAlike
namespace Go.Proofs.Ytcfafgdgmkiibaa
set_option linter.unusedSimpArgs false
open Go.ChangeShapes Go.WideShapes Go.ChangeAt Go.RowKit
set_option linter.unusedVariables false

theorem rowM_get (h : Nat → Bool) : ∀ q, q < 5 → (rowM h)[q]? = some (.bool (h q)) := by apply cases5 <;> rfl
theorem rowM_set (h h' : Nat → Bool) (q : Nat) (hq : q < 5) (x : Bool) (hx : h' q = x) (ho : ∀ i, i ≠ q → h' i = h i) : (rowM h).setIfInBounds q (.bool x) = rowM h' := by
  have e : h' = updB h q x := by
    funext i
    unfold updB
    by_cases c : i = q
    · subst c; rw [if_pos rfl, hx]
    · rw [if_neg c, ho i c]
  rw [e]
  revert q
  intro q hq hx ho e
  clear hx ho e
  exact (by apply cases5 <;> rfl : ∀ q, q < 5 → (rowM h).setIfInBounds q (.bool x) = rowM (updB h q x)) q hq
theorem marks_info : (Try.prog.info? 80).map (·.size) = some 5 := by kernel_rfl
theorem marks_zero (w : World) : (zeroValue 80).run Try.prog w = .ok (.agg (rowM noB)) w := Try.zeroValue80 w
theorem nwB_mono (xs : List Int) {j : Nat} (h : nwB xs j = false) : ∀ k, j ≤ k → nwB xs k = false
  | 0, hk => by
    obtain rfl : j = 0 := by omega
    exact h
  | k + 1, hk => by
    by_cases e : j = k + 1
    · subst e; exact h
    · unfold nwB
      rw [nwB_mono xs h k (by omega), Bool.false_and]
def RnAns (l : Int) (rs : List (List Int)) (ok : Bool) (w : World) (e : Ending) (w' : World) : Prop := ∃ v, e = .returned (.tuple #[sts l v, .bool ok]) ∧ OwnM w' w.heap.size w'.heap.size v rs ∧ Below w.heap.size w w'
/-- The names that the first loop has used. -/
structure RnU (w1 : World) (lim : Int) (n : Nat) (g : Nat → Int) (u : Nat → Bool) (wr : World) : Prop where
  mv : wr.heap[w1.heap.size]? = some (.cells (mvC lim n g) 76)
  us : wr.heap[w1.heap.size + 1]? = some (.cells (rowM u) 80)
  big : w1.heap.size + 1 < wr.heap.size
  bel : Below w1.heap.size w1 wr
structure RnG (w1 : World) (R : Nat) (lim : Int) (n : Nat) (g : Nat → Int) (F : Nat → Nat → Int) (wr : World) : Prop where
  mv : wr.heap[w1.heap.size]? = some (.cells (mvC lim n g) 76)
  rn : wr.heap[R]? = some (.cells (mvC lim n (gridF F)) 76)
  big : R < wr.heap.size
  low : w1.heap.size < R
  bel : Below w1.heap.size w1 wr
theorem RnU.set {w1 : World} {lim : Int} {n : Nat} {g : Nat → Int} {u u' : Nat → Bool} {wr : World} (h : RnU w1 lim n g u wr) (q : Nat) (hq : q < 5) (hx : u' q = true) (ho : ∀ i, i ≠ q → u' i = u i) : RnU w1 lim n g u' (wr.setCell ⟨w1.heap.size + 1, q, none⟩ (.bool true)) := by
  refine ⟨?_, by rw [set_heap h.us, rowM_set u u' q hq true hx ho], by simpa using h.big, h.bel.setCell (by show w1.heap.size ≤ w1.heap.size + 1; omega) _⟩
  have := h.mv
  simp only [World.setCell, Array.getElem?_modify]
  rw [if_neg (by omega)]
  exact this
theorem RnG.set {w1 : World} {R : Nat} {lim : Int} {n : Nat} {g : Nat → Int} {F : Nat → Nat → Int} {wr : World} (h : RnG w1 R lim n g F wr) (a b : Nat) (ha : a < 5) (hb : b < 5) (x : Int) : RnG w1 R lim n g (upd2 F a b x) (wr.setCell ⟨R, 2 + (a * 5 + b), none⟩ (.int .i64 x)) := by
  have hl := h.low
  refine ⟨?_, by rw [set_heap h.rn, mvC_set lim n (gridF F) x (a * 5 + b) (by omega), gridF_upd F a b x hb], by simpa using h.big, hl, h.bel.setCell (by show w1.heap.size ≤ R; omega) _⟩
  have := h.mv
  simp only [World.setCell, Array.getElem?_modify]
  rw [if_neg (by omega)]
  exact this
theorem RnG.drewN {w1 : World} {R : Nat} {lim : Int} {n : Nat} {g : Nat → Int} {F : Nat → Nat → Int} {wr : World} (h : RnG w1 R lim n g F wr) (q : Nat) : RnG w1 R lim n g F (wr.drewN q) := ⟨h.mv, h.rn, h.big, h.low, bel_drewN h.bel q⟩

set_option maxRecDepth 100000 in
set_option maxHeartbeats 6400000 in
theorem implRn_any (lim : Int) (m : List (List Int)) (v : Value) (B : Nat) (xs : List Int) (u : Value) (B' : Nat) (w : World) (h : RdM w B v m) (hB : B ≤ w.heap.size) (hx : RdI w B' u xs) (hB' : B' ≤ w.heap.size) (hl : xs.length ≤ 1048576) :
    Calls Try.prog 16 #[sts lim v, u] w (RnAns (limRn lim m xs) (ansRn lim m xs) (okRn lim m xs) w) := by
  obtain ⟨A, cap, rfl, l0, m0⟩ := h.form
  obtain ⟨A2, cap2, rfl, l2, m2⟩ := hx.form
  unfold maxLen at m2
  have hbl := Lib.hid (bel_alloc (bel_alloc (Below.refl _ w) (.cells #[.int .i64 lim, .slice A m.length cap] 47)) (.cells #[.int .i64 0, nilS] 47))
  have H := Lib.hid (h.below hbl.out hB)
  have HX := Lib.hid (hx.below hbl.out hB')
  have hsz := hbl.out.size
  have hres : Hid (((w.alloc (.cells #[.int .i64 lim, .slice A m.length cap] 47)).alloc (.cells #[.int .i64 0, nilS] 47)).heap[w.heap.size + 1]? = some (.cells #[.int .i64 0, nilS] 47)) := Lib.hid (heap_alloc2_new w _ _)
  have hs2 : w.heap.size + 1 < ((w.alloc (.cells #[.int .i64 lim, .slice A m.length cap] 47)).alloc (.cells #[.int .i64 0, nilS] 47)).heap.size := by show _ < ((w.heap.push _).push _).size; simp
  obtain ⟨a, b, g, hm, hy⟩ := mvOf_form lim m
  have Hm := Lib.hid hm
  clear hm h hx
  unfold RnAns
  cases h1 : saG lim m && askB m.length xs with
  | false =>
    have ho : okRn lim m xs = false := by
      unfold okRn
      rw [Bool.and_eq_false_iff] at h1
      rcases h1 with h1 | h1 <;> simp [h1]
    rw [show limRn lim m xs = 0 from by simp [limRn, ho], show ansRn lim m xs = [] from by simp [ansRn, ho], ho]
    have H1 := Lib.hid h1
    clear h1 ho hy
    go_enter Try.func16, Try.ntmps16
    go_wp2_with fail
    refine (movesAt_any lim m _ _ xs _ _ _ H.out (Nat.le_trans hB hsz) HX.out (Nat.le_trans hB' hsz)).mono ?_
    unfold MvAtAns
    rw [Hm.out, H1.out]
    rintro e w1 ⟨rfl, b1⟩
    have hr1 := Lib.hid ((b1.block (w.heap.size + 1) hs2).trans hres.out)
    have hbb := Lib.hid (bel_trans hbl.out b1)
    have hs3 := Nat.lt_of_lt_of_le hs2 b1.size
    clear b1
    have r0 : w1.cell? ⟨w.heap.size + 1, 0, none⟩ = some (.int .i64 0) := cell_heap hr1.out rfl
    have r1 : w1.cell? ⟨w.heap.size + 1, 1, none⟩ = some nilS := cell_heap hr1.out rfl
    have f0 : w1.frozen? ⟨w.heap.size + 1, 0, none⟩ = false := froz_heap hr1.out
    have f1 : w1.frozen? ⟨w.heap.size + 1, 1, none⟩ = false := froz_heap hr1.out
    go_wp2_with (first
      | (refine wpList_alloc_row rfl 76 rfl (mvC 0 0 zer) (mv_zero _) ?_)
      | (refine wpList_store_new (k := w1.heap.size) (c' := mvC a b g) rfl 76 (.tmp 6) (.tmp 20) rfl rfl ?_ ?_ mv_info rfl (mvC_one _ _ _) ?_; (· simp [Act.put, Act.eval]); (· simp [Act.put, Act.eval])))
    refine bodyPost_ret (v := .tuple #[sts 0 nilS, .bool false]) (by simp [results, Try.results16, go_sem, r0, r1, f0, f1, hs3]) rfl ⟨_, rfl, OwnM.empty _ (Nat.le_refl _), ?_⟩
    first
      | exact bel_alloc ((hbb.out.setCell (Nat.le_succ _) _).setCell (Nat.le_succ _) _) _
      | exact ((bel_alloc hbb.out _).setCell (Nat.le_succ _) _).setCell (Nat.le_succ _) _
  | true =>
    rw [Bool.and_eq_true] at h1
    obtain ⟨hs, ha⟩ := h1
    obtain ⟨rfl, rfl, rfl⟩ := hy hs
    have hg := good_of hs
    have n1 := hg.one
    have n5 := hg.five
    clear hy
    have H1 : Hid ((saG a m && askB m.length xs) = true) := Lib.hid (by rw [hs, ha]; rfl)
    have HA := Lib.hid (fun i hi => nm_at ha i hi)
    by_cases hll : xs.length = m.length
    · obtain ⟨n, hn⟩ : ∃ n, n = m.length := ⟨_, rfl⟩
      have hok : okRn a m xs = nwB xs m.length := by unfold okRn; rw [hs, ha, hll]; simp
      rw [hll] at HX l2 ⊢
      have Hok := Lib.hid hok
      have hbig : Hid (∀ k, k ≤ m.length → nwB xs k = false → okRn a m xs = false) := Lib.hid (fun k hk hf => by rw [hok]; exact nwB_mono xs hf _ hk)
      have ha5 : (m.length : Int) ≤ 5 := by omega
      have HG := Lib.hid hg
      clear hs ha hg hok
      go_enter Try.func16, Try.ntmps16
      go_wp2_with fail
      refine (movesAt_any a m _ _ xs _ _ _ H.out (Nat.le_trans hB hsz) HX.out (Nat.le_trans hB' hsz)).mono ?_
      unfold MvAtAns
      rw [Hm.out, H1.out]
      rintro e w1 ⟨rfl, b1⟩
      have hr1 := Lib.hid ((b1.block (w.heap.size + 1) hs2).trans hres.out)
      have hbb := Lib.hid (bel_trans hbl.out b1)
      have hs3 := Nat.lt_of_lt_of_le hs2 b1.size
      have HX1 := Lib.hid (HX.out.below b1 (Nat.le_trans hB' hsz))
      have g1 : (mvC a m.length (gridM m))[1]? = some (.int .i64 m.length) := rfl
      have g0 : (mvC a m.length (gridM m))[0]? = some (.int .i64 a) := rfl
      have hst : Hid (RnU w1 a m.length (gridM m) (fun q => hasB xs q 0) ((w1.alloc (.cells (mvC a m.length (gridM m)) 76)).alloc (.cells (rowM noB) 80))) :=
        Lib.hid ⟨(heap_alloc_old _ _ (by rw [← size1]; omega)).trans (heap_alloc_new w1 _), heap_alloc2_new w1 _ _, by show _ < ((w1.heap.push _).push _).size; simp, bel_alloc (bel_alloc (Below.refl _ w1) _) _⟩
      clear b1
      go_wp2_with (first
        | (refine wpList_alloc_row rfl 76 rfl (mvC 0 0 zer) (mv_zero _) ?_)
        | (refine wpList_alloc_row rfl 80 rfl (rowM noB) (marks_zero _) ?_)
        | (refine wpList_store_new (k := w1.heap.size) (c' := mvC a m.length (gridM m)) rfl 76 (.tmp 6) (.tmp 20) rfl rfl ?_ ?_ mv_info rfl (mvC_one _ _ _) ?_; (· simp [Act.put, Act.eval]); (· simp [Act.put, Act.eval])))
      go_loopw [34] (fun x wr => ∃ k : Nat, k ≤ m.length ∧ x = .int .i64 k ∧ Hid (nwB xs k = true) ∧ Hid (RnU w1 a m.length (gridM m) (fun q => hasB xs q k) wr)) (fun x _ => m.length - (intOf x).toNat)
      case atStart => exact ⟨0, by omega, rfl, Lib.hid rfl, hst⟩
      case round =>
        obtain ⟨k, hk, rfl, hnw, hU⟩ := hrel
        obtain ⟨wa, rfl⟩ : ∃ wa : World, wa = wr := ⟨_, rfl⟩
        by_cases hlt : k < m.length
        · obtain ⟨ad, hA2, hab, e0⟩ := (HX1.out.below hU.out.bel (by omega)).at_ (by rw [hll]; exact hlt)
          subst hA2
          obtain ⟨x0, x1⟩ := HA.out k (by rw [hll]; exact hlt)
          rw [x0] at e0
          have x5 : ((nmN xs k : Nat) : Int) < 5 := by omega
          have c0 : wa.cell? ⟨w1.heap.size + 1, nmN xs k, none⟩ = some (.bool (hasB xs (nmN xs k) k)) := cell_heap hU.out.us (rowM_get _ _ (by omega))
          have c1 : wa.frozen? ⟨w1.heap.size + 1, nmN xs k, none⟩ = false := froz_heap hU.out.us
          clear x0
          cases hq : hasB xs (nmN xs k) k with
          | true =>
            have hno := hbig.out (k + 1) (by omega) (by unfold nwB; rw [hq]; simp)
            have hE : Hid (limRn a m xs = 0 ∧ ansRn a m xs = [] ∧ okRn a m xs = false) := Lib.hid ⟨by simp [limRn, hno], by simp [ansRn, hno], hno⟩
            have hrw := Lib.hid ((hU.out.bel.block (w.heap.size + 1) hs3).trans hr1.out)
            have hbw := Lib.hid (bel_trans hbb.out hU.out.bel)
            have r0 : wa.cell? ⟨w.heap.size + 1, 0, none⟩ = some (.int .i64 0) := cell_heap hrw.out rfl
            have r1 : wa.cell? ⟨w.heap.size + 1, 1, none⟩ = some nilS := cell_heap hrw.out rfl
            have f0 : wa.frozen? ⟨w.heap.size + 1, 0, none⟩ = false := froz_heap hrw.out
            have f1 : wa.frozen? ⟨w.heap.size + 1, 1, none⟩ = false := froz_heap hrw.out
            rw [hq] at c0
            clear hno hq
            generalize nmN xs k = x at *
            go_wp2_with fail
            refine bodyPost_ret (v := .tuple #[sts 0 nilS, .bool false]) (by simp [results, Try.results16, go_sem, r0, r1, f0, f1]) rfl ⟨nilS, by rw [hE.out.1, hE.out.2.2], by rw [hE.out.2.1]; exact OwnM.empty _ (Nat.le_refl _), ?_⟩
            exact (hbw.out.setCell (Nat.le_succ _) _).setCell (Nat.le_succ _) _
          | false =>
            have hnx : Hid (nwB xs (k + 1) = true) := Lib.hid (by unfold nwB; rw [hnw.out, hq]; rfl)
            have hU2 : Hid (RnU w1 a m.length (gridM m) (fun q => hasB xs q (k + 1)) (wa.setCell ⟨w1.heap.size + 1, nmN xs k, none⟩ (.bool true))) := Lib.hid (hU.out.set (nmN xs k) (by omega) (by show hasB xs (nmN xs k) (k + 1) = true; unfold hasB; simp) (fun i hi => by show (hasB xs i k || nmN xs k == i) = hasB xs i k; rw [show (nmN xs k == i) = false from by simpa using fun e => hi e.symm, Bool.or_false]))
            rw [hq] at c0
            generalize nmN xs k = x at *
            go_wp2_with fail
            exact ⟨⟨k + 1, by omega, by go_num, hnx, hU2⟩, by simp [intOf]; omega⟩
        · obtain rfl : k = m.length := by omega
          have hyes : okRn a m xs = true := by rw [Hok.out]; exact hnw.out
          have hE : Hid (limRn a m xs = a ∧ ansRn a m xs = rowsR m.length (rnO m xs m.length m.length) ∧ okRn a m xs = true) := Lib.hid ⟨by simp [limRn, hyes], by simp [ansRn, hyes], hyes⟩
          have k0 : wa.cell? ⟨w1.heap.size, 0, none⟩ = some (.int .i64 a) := cell_heap hU.out.mv g0
          have k1 : wa.cell? ⟨w1.heap.size, 1, none⟩ = some (.int .i64 m.length) := cell_heap hU.out.mv g1
          have hz : gridF (fun _ _ => 0) = zer := rfl
          have hG0 : Hid (RnG w1 wa.heap.size a m.length (gridM m) (rnO m xs m.length 0) (wa.alloc (.cells (mvC a m.length zer) 76))) :=
            Lib.hid ⟨(heap_alloc_old _ _ (by have := hU.out.big; omega)).trans hU.out.mv, heap_alloc_new wa _, by rw [← size1]; omega, by have := hU.out.big; omega, bel_trans hU.out.bel (bel_alloc (Below.refl _ wa) _)⟩
          clear hyes hz
          go_wp2_with (first
            | (refine wpList_built rfl 76 _ rfl (mvC a m.length zer) (by simp; exact mv_built a m.length) ?_)
            | (refine wpList_alloc_row rfl 76 rfl (mvC 0 0 zer) (mv_zero _) ?_)
            | (refine wpList_store_new (k := wa.heap.size) (c' := mvC a m.length zer) rfl 76 (.tmp 11) (.tmp 49) rfl rfl ?_ ?_ mv_info rfl (mvC_one _ _ _) ?_; (· simp [Act.put, Act.eval]); (· simp [Act.put, Act.eval])))
          generalize hRe : wa.heap.size = R at *
          generalize wa.alloc (.cells (mvC a m.length zer) 76) = w3 at *
          clear k0 k1
          go_loopw [52] (fun x wr => ∃ i : Nat, i ≤ m.length ∧ x = .int .i64 i ∧ Hid (RnG w1 R a m.length (gridM m) (rnO m xs m.length i) wr)) (fun x _ => m.length - (intOf x).toNat)
          case atStart => exact ⟨0, by omega, rfl, hG0⟩
          case round =>
            obtain ⟨i, hi, rfl, hG⟩ := hrel
            obtain ⟨wb, rfl⟩ : ∃ wb : World, wb = wr := ⟨_, rfl⟩
            by_cases hil : i < m.length
            · have hXi := HX1.out.below hG.out.bel (by omega)
              obtain ⟨ad, hA2, hab, e0⟩ := hXi.at_ (by rw [hll]; exact hil)
              subst hA2
              obtain ⟨x0, x1⟩ := HA.out i (by rw [hll]; exact hil)
              rw [x0] at e0
              clear hXi x0
              go_wp2_with fail
              go_loopw [59] (fun x wr => ∃ j : Nat, j ≤ m.length ∧ x = .int .i64 j ∧ Hid (RnG w1 R a m.length (gridM m) (rnI m xs i (rnO m xs m.length i) j) wr)) (fun x _ => m.length - (intOf x).toNat)
              case atStart => exact ⟨0, by omega, rfl, hG⟩
              case round =>
                obtain ⟨j, hj, rfl, hJ⟩ := hrel
                obtain ⟨wc, rfl⟩ : ∃ wc : World, wc = wr := ⟨_, rfl⟩
                by_cases hjl : j < m.length
                · have hXj := HX1.out.below hJ.out.bel (by omega)
                  obtain ⟨ad2, hA3, hab2, e2⟩ := hXj.at_ (by rw [hll]; exact hjl)
                  injection hA3 with hA3
                  subst hA3
                  obtain ⟨y0, y1⟩ := HA.out j (by rw [hll]; exact hjl)
                  rw [y0] at e2
                  have c0 : wc.cell? ⟨w1.heap.size, 2 + i * 5 + j, none⟩ = some (.int .i64 (atM m i j)) := by
                    have q := cell_heap hJ.out.mv (mvC_get a m.length (gridM m) (i * 5 + j) (by omega))
                    rw [← Nat.add_assoc] at q
                    rw [q]
                    unfold gridM
                    rw [show (i * 5 + j) / 5 = i from by omega, show (i * 5 + j) % 5 = j from by omega]
                  have c1 := cell_heap hJ.out.rn (mvC_get a m.length (gridF (rnI m xs i (rnO m xs m.length i) j)) (nmN xs i * 5 + nmN xs j) (by omega))
                  rw [← Nat.add_assoc] at c1
                  have c2 : wc.frozen? ⟨R, 2 + nmN xs i * 5 + nmN xs j, none⟩ = false := froz_heap hJ.out.rn
                  have hset : Hid (RnG w1 R a m.length (gridM m) (rnI m xs i (rnO m xs m.length i) (j + 1)) (wc.setCell ⟨R, 2 + nmN xs i * 5 + nmN xs j, none⟩ (.int .i64 (atM m i j)))) := Lib.hid (by
                    rw [Nat.add_assoc]
                    exact hJ.out.set (nmN xs i) (nmN xs j) (by omega) (by omega) (atM m i j))
                  have z1 : (i : Int) < 5 := by omega
                  have z2 : (j : Int) < 5 := by omega
                  have z3 : ((nmN xs i : Nat) : Int) < 5 := by omega
                  have z4 : ((nmN xs j : Nat) : Int) < 5 := by omega
                  clear hXj y0 e0
                  generalize nmN xs j = y at *
                  generalize nmN xs i = x at *
                  generalize atM m i j = q at *
                  go_wp2_with fail
                  go_region
                  go_wp2_with fail
                  exact ⟨⟨j + 1, by omega, by go_num, Lib.hid (hset.out.drewN 1)⟩, by simp [intOf]; omega⟩
                · obtain rfl : j = m.length := by omega
                  go_wp2_with fail
                  exact ⟨⟨i + 1, by omega, by go_num, hJ⟩, by simp [intOf]; omega⟩
            · obtain rfl : i = m.length := by omega
              have hrg := Lib.hid (rows_grid m.length (rnO m xs m.length m.length) n5)
              generalize rnO m xs m.length m.length = F at *
              go_wp2_with (first
                | (refine wpList_load_row rfl 76 (.tmp 11) rfl R (by simp [Act.put, Act.eval]) _ (mvC a m.length (gridF F)) _ _ hG.out.rn Try.underlying76 rfl mv_info ?_))
              refine (states_any a m.length (gridF F) _ n1 n5).mono ?_
              rw [hrg.out]
              rintro e w5 ⟨v5, rfl, ho5, hb5⟩
              have hrw := Lib.hid ((hb5.block (w.heap.size + 1) (by have := hG.out.bel.size; omega)).trans ((hG.out.bel.block (w.heap.size + 1) hs3).trans hr1.out))
              have hbw := Lib.hid (bel_trans (bel_trans hbb.out hG.out.bel) hb5)
              have hlo : w.heap.size + 1 < wb.heap.size := by have := hG.out.bel.size; omega
              have r0 : w5.cell? ⟨w.heap.size + 1, 0, none⟩ = some (.int .i64 0) := cell_heap hrw.out rfl
              have r1 : w5.cell? ⟨w.heap.size + 1, 1, none⟩ = some nilS := cell_heap hrw.out rfl
              have f0 : w5.frozen? ⟨w.heap.size + 1, 0, none⟩ = false := froz_heap hrw.out
              have f1 : w5.frozen? ⟨w.heap.size + 1, 1, none⟩ = false := froz_heap hrw.out
              obtain ⟨A5, cap5, rfl, _⟩ := ho5.formS
              have HO := Lib.hid ho5
              clear ho5 hb5
              go_wp2_with fail
              refine bodyPost_ret (v := .tuple #[sts a (.slice A5 (rowsR m.length F).length cap5), .bool true]) (by simp [results, Try.results16, go_sem, r0, r1, f0, f1]) rfl ⟨_, by rw [hE.out.1, hE.out.2.2], ?_, ?_⟩
              · rw [hE.out.2.1]
                refine OwnM.low (lo := wb.heap.size) ?_ (by omega)
                exact OwnM.more (OwnM.set_ (OwnM.set_ HO.out (by first | (dsimp only; omega) | (simp; omega)) _) (by first | (dsimp only; omega) | (simp; omega)) _) (by simp [World.setCell]) (Nat.le_refl _)
              · exact (hbw.out.setCell (Nat.le_succ _) _).setCell (Nat.le_succ _) _
    · have ho : okRn a m xs = false := by unfold okRn; simp [hll]
      rw [show limRn a m xs = 0 from by simp [limRn, ho], show ansRn a m xs = [] from by simp [ansRn, ho], ho]
      have hli : ¬ ((xs.length : Nat) : Int) = (m.length : Int) := by omega
      clear ho hs ha hg HA hll
      go_enter Try.func16, Try.ntmps16
      go_wp2_with fail
      refine (movesAt_any a m _ _ xs _ _ _ H.out (Nat.le_trans hB hsz) HX.out (Nat.le_trans hB' hsz)).mono ?_
      unfold MvAtAns
      rw [Hm.out, H1.out]
      rintro e w1 ⟨rfl, b1⟩
      have hr1 := Lib.hid ((b1.block (w.heap.size + 1) hs2).trans hres.out)
      have hbb := Lib.hid (bel_trans hbl.out b1)
      have hs3 := Nat.lt_of_lt_of_le hs2 b1.size
      have g1 : (mvC a m.length (gridM m))[1]? = some (.int .i64 m.length) := rfl
      clear b1
      have r0 : w1.cell? ⟨w.heap.size + 1, 0, none⟩ = some (.int .i64 0) := cell_heap hr1.out rfl
      have r1 : w1.cell? ⟨w.heap.size + 1, 1, none⟩ = some nilS := cell_heap hr1.out rfl
      have f0 : w1.frozen? ⟨w.heap.size + 1, 0, none⟩ = false := froz_heap hr1.out
      have f1 : w1.frozen? ⟨w.heap.size + 1, 1, none⟩ = false := froz_heap hr1.out
      go_wp2_with (first
        | (refine wpList_alloc_row rfl 76 rfl (mvC 0 0 zer) (mv_zero _) ?_)
        | (refine wpList_store_new (k := w1.heap.size) (c' := mvC a m.length (gridM m)) rfl 76 (.tmp 6) (.tmp 20) rfl rfl ?_ ?_ mv_info rfl (mvC_one _ _ _) ?_; (· simp [Act.put, Act.eval]); (· simp [Act.put, Act.eval])))
      refine bodyPost_ret (v := .tuple #[sts 0 nilS, .bool false]) (by simp [results, Try.results16, go_sem, r0, r1, f0, f1, hs3]) rfl ⟨_, rfl, OwnM.empty _ (Nat.le_refl _), ?_⟩
      first
        | exact bel_alloc ((hbb.out.setCell (Nat.le_succ _) _).setCell (Nat.le_succ _) _) _
        | exact ((bel_alloc hbb.out _).setCell (Nat.le_succ _) _).setCell (Nat.le_succ _) _
end Go.Proofs.Ytcfafgdgmkiibaa
