/- States told by other names: the contract of the model. -/
import Derived.Test.YtcfafgdgmkiibaaRnI
namespace Go.Proofs.Ytcfafgdgmkiibaa
open Go.ChangeShapes Go.WideShapes Go.ChangeAt Go.RowKit
set_option linter.unusedVariables false
set_option linter.unusedSimpArgs false

theorem rep_succ (k n : Nat) : List.replicate k (List.replicate n (0 : Int)) ++ [List.replicate n 0] = List.replicate (k + 1) (List.replicate n 0) := by
  rw [List.replicate_succ']
theorem rep_form {k n : Nat} {w : World} {lo hi : Nat} {v : Value} (h : OwnM w lo hi v (List.replicate k (List.replicate n (0 : Int)))) : ∃ A cap, v = .slice A k cap := by
  obtain ⟨A, cap, e, _⟩ := h.formS
  rw [List.length_replicate] at e
  exact ⟨A, cap, e⟩
theorem alB_mono (xs : List Int) (n : Nat) {j : Nat} (h : alB xs n j = false) : ∀ k, j ≤ k → alB xs n k = false
  | 0, hk => by
    obtain rfl : j = 0 := by omega
    exact h
  | k + 1, hk => by
    by_cases e : j = k + 1
    · subst e; exact h
    · unfold alB
      rw [alB_mono xs n h k (by omega), Bool.false_and]
theorem rowsR_zero (n : Nat) : List.replicate n (List.replicate n (0 : Int)) = rowsR n (fun _ _ => 0) := by
  unfold rowsR
  apply List.ext_getElem
  · simp
  · intro j h1 h2
    simp only [List.getElem_replicate, List.getElem_map]
    exact (rowL_zer n).symm
/-- What the first loop knows of the blocks of the call. -/
def RnF (w w1 wr : World) (lim : Int) (m : List (List Int)) (A : Option Addr) (cap k : Nat) : Prop := ∃ Ao capo, wr.cell? ⟨w1.heap.size, 0, none⟩ = some (.int .i64 lim) ∧ wr.cell? ⟨w1.heap.size, 1, none⟩ = some (.slice Ao k capo) ∧ wr.frozen? ⟨w1.heap.size, 1, none⟩ = false ∧
  OwnM wr (w1.heap.size + 1) wr.heap.size (.slice Ao k capo) (List.replicate k (List.replicate m.length 0)) ∧ Below w1.heap.size w1 wr ∧ w1.heap.size < wr.heap.size

set_option maxRecDepth 100000 in
set_option maxHeartbeats 6400000 in
theorem specRn_yes (lim : Int) (m : List (List Int)) (A : Option Addr) (cap : Nat) (B : Nat) (xs : List Int) (A2 : Option Addr) (cap2 : Nat) (B' : Nat) (w : World) (h : RdM w B (.slice A m.length cap) m) (hB : B ≤ w.heap.size) (hx : RdI w B' (.slice A2 xs.length cap2) xs) (hB' : B' ≤ w.heap.size) (l2 : xs.length ≤ cap2) (m2 : cap2 ≤ maxLen)
    (hs : saG lim m = true) (ha : askB m.length xs = true) (hll : xs.length = m.length) :
    Calls Try.prog 13 #[sts lim (.slice A m.length cap), .slice A2 xs.length cap2] w (RnAns (limRn lim m xs) (ansRn lim m xs) (okRn lim m xs) w) := by
  unfold maxLen at m2
  have hbl := Lib.hid (bel_alloc (bel_alloc (Below.refl _ w) (.cells #[.int .i64 lim, .slice A m.length cap] 47)) (.cells #[.int .i64 0, nilS] 47))
  have H := Lib.hid (h.below hbl.out hB)
  have hx2 := hx.below hbl.out hB'
  rw [hll] at hx2 ⊢
  have HX := Lib.hid hx2
  clear hx2
  have hsz := hbl.out.size
  have hres : Hid (((w.alloc (.cells #[.int .i64 lim, .slice A m.length cap] 47)).alloc (.cells #[.int .i64 0, nilS] 47)).heap[w.heap.size + 1]? = some (.cells #[.int .i64 0, nilS] 47)) := Lib.hid (heap_alloc2_new w _ _)
  have hbox : Hid (((w.alloc (.cells #[.int .i64 lim, .slice A m.length cap] 47)).alloc (.cells #[.int .i64 0, nilS] 47)).heap[w.heap.size]? = some (.cells #[.int .i64 lim, .slice A m.length cap] 47)) := Lib.hid ((heap_alloc_old _ _ (by rw [← size1]; omega)).trans (heap_alloc_new w _))
  have hs2 : w.heap.size + 1 < ((w.alloc (.cells #[.int .i64 lim, .slice A m.length cap] 47)).alloc (.cells #[.int .i64 0, nilS] 47)).heap.size := by show _ < ((w.heap.push _).push _).size; simp
  have hg := good_of hs
  have n1 := hg.one
  have n5 := hg.five
  have hok : okRn lim m xs = alB xs m.length m.length := by unfold okRn; rw [hs, ha, hll, pig ha hll n5]; simp
  have Hok := Lib.hid hok
  have HS := Lib.hid hs
  have HAl : Hid (xs.all (fun x => inB x 0 ((m.length : Int) - 1)) = true) := Lib.hid ha
  have HA := Lib.hid (fun i hi => nm_at ha i hi)
  have Hask := Lib.hid ha
  have HG := Lib.hid hg
  have hli : ((xs.length : Nat) : Int) = (m.length : Int) := by omega
  have hmk : ∀ W : World, (Instr.makeSlice 45 (.int .i64 (m.length : Int)) (.int .i64 (m.length : Int))).run Try.prog W = .ok (.slice (some ⟨W.heap.size, 0, none⟩) m.length m.length) (W.alloc (.cells (Array.replicate m.length (.int .i64 0)) 3)) := fun W => mk_ints m.length (by omega) W
  clear hok hs ha h hx hg
  unfold RnAns
  have b0 : ((w.alloc (.cells #[.int .i64 lim, .slice A m.length cap] 47)).alloc (.cells #[.int .i64 0, nilS] 47)).cell? ⟨w.heap.size, 1, none⟩ = some (.slice A m.length cap) := cell_heap hbox.out rfl
  go_enter Try.func13, Try.ntmps13
  go_wp2_with fail
  refine (saGood_any lim m _ _ _ H.out (Nat.le_trans hB hsz)).mono ?_
  rw [HS.out]
  rintro e w1 ⟨rfl, b1⟩
  have hbx1 := Lib.hid ((b1.block w.heap.size (by omega)).trans hbox.out)
  have hr1 := Lib.hid ((b1.block (w.heap.size + 1) hs2).trans hres.out)
  have hbb := Lib.hid (bel_trans hbl.out b1)
  have hs3 := Nat.lt_of_lt_of_le hs2 b1.size
  have HX1 := Lib.hid (HX.out.below b1 (Nat.le_trans hB' hsz))
  have HM1 := Lib.hid (H.out.below b1 (Nat.le_trans hB hsz))
  have p0 : w1.cell? ⟨w.heap.size, 0, none⟩ = some (.int .i64 lim) := cell_heap hbx1.out rfl
  have p1 : w1.cell? ⟨w.heap.size, 1, none⟩ = some (.slice A m.length cap) := cell_heap hbx1.out rfl
  have hlt0 : w.heap.size < w1.heap.size := by omega
  clear b1 b0
  go_wp2_with fail
  refine (l1All_any xs _ B' _ _ _ HX1.out).mono ?_
  rw [HAl.out]
  rintro e w' ⟨rfl, rfl⟩
  go_wp2_with fail
  go_loopw [40] (fun x wr => ∃ k : Nat, k ≤ m.length ∧ x = .int .i64 k ∧ Hid (alB xs m.length k = true) ∧ Hid (RnF w w1 wr lim m A cap k)) (fun x _ => m.length - (intOf x).toNat)
  case atStart =>
    refine ⟨0, by omega, rfl, Lib.hid rfl, Lib.hid ⟨none, 0, ?_, ?_, ?_, OwnM.empty _ (Nat.le_refl _), bel_alloc (Below.refl _ _) _, by rw [← size1]; omega⟩⟩
    · simp [go_sem]
    · simp [go_sem]
    · simp [go_sem]
  case round =>
    obtain ⟨k, hk, rfl, hal, hF⟩ := hrel
    obtain ⟨Ao, capo, k0, k1, kf, ho, hb, hlt⟩ := hF.out
    have q1 : wr.cell? ⟨w.heap.size, 1, none⟩ = some (.slice A m.length cap) := (hb.cell (p := ⟨w.heap.size, 1, none⟩) hlt0).trans p1
    by_cases hkn : k < m.length
    · have hhas := Lib.hid (l1Has_any m.length xs _ B' k wr (HX1.out.below hb (by omega)) Hask.out)
      cases hq : hasB xs k xs.length with
      | false =>
        have hno : okRn lim m xs = false := by rw [Hok.out]; exact alB_mono xs m.length (j := k + 1) (by unfold alB; rw [← hll, hq, Bool.and_false]) _ (by omega)
        have hE : Hid (limRn lim m xs = 0 ∧ ansRn lim m xs = [] ∧ okRn lim m xs = false) := Lib.hid ⟨by simp [limRn, hno], by simp [ansRn, hno], hno⟩
        have hrw := Lib.hid ((hb.block (w.heap.size + 1) hs3).trans hr1.out)
        have hbw := Lib.hid (bel_trans hbb.out hb)
        have r0 : wr.cell? ⟨w.heap.size + 1, 0, none⟩ = some (.int .i64 0) := cell_heap hrw.out rfl
        have r1 : wr.cell? ⟨w.heap.size + 1, 1, none⟩ = some nilS := cell_heap hrw.out rfl
        have f0 : wr.frozen? ⟨w.heap.size + 1, 0, none⟩ = false := froz_heap hrw.out
        have f1 : wr.frozen? ⟨w.heap.size + 1, 1, none⟩ = false := froz_heap hrw.out
        rw [hq] at hhas
        clear hno hq ho hb
        go_wp2_with fail
        refine hhas.out.mono ?_
        rintro e w2 ⟨rfl, rfl⟩
        go_wp2_with fail
        refine bodyPost_ret (v := .tuple #[sts 0 nilS, .bool false]) (by simp [results, Try.results13, go_sem, r0, r1, f0, f1]) rfl ⟨nilS, by rw [hE.out.1, hE.out.2.2], by rw [hE.out.2.1]; exact OwnM.empty _ (Nat.le_refl _), ?_⟩
        exact (hbw.out.setCell (Nat.le_succ _) _).setCell (Nat.le_succ _) _
      | true =>
          have hnx : Hid (alB xs m.length (k + 1) = true) := Lib.hid (by unfold alB; rw [hal.out, ← hll, hq]; rfl)
          have HO := Lib.hid ho
          have HB := Lib.hid hb
          rw [hq] at hhas
          clear ho hb hq
          go_wp2_with fail
          refine hhas.out.mono ?_
          rintro e w2 ⟨rfl, rfl⟩
          go_wp2_with fail
          refine wp_region_held_drew (S := fun w' => w'.cell? ⟨w.heap.size, 1, none⟩ = some (.slice A m.length cap)) (by kernel_rfl) (by first | assumption | exact q1 | exact stt_below (by assumption) (bel_alloc (Below.refl _ _) _) (by first | (show w.heap.size < wr.heap.size; omega) | omega | (simp; omega)) | exact stt_blk (by assumption) (hk2 _ (by show w.heap.size < (wr.heap.push _).size; rw [Array.size_push]; omega) (.inl (by omega))) | exact stt_set (by assumption) _ _ _ (by omega)) (fun hHeld => ?_)
          refine wpAnyH_take (i := 0) (oi := _) (v := ?v0_1) rfl (by kernel_rfl) (by kernel_rfl) (by kernel_rfl) (fun _ _ _ h => h) (Or.inl ⟨by rfl, ?y0_1⟩) (by assumption) ?r0_1
          case y0_1 => (intro w hSw; (try dsimp only at hSw); go_simp; try with_reducible rfl)
          try simp only [Act.put, List.setIfInBounds_toArray, List.set_cons_zero, List.set_cons_succ]
          refine wpAnyH_take (i := 2) (oi := _) (v := ?v2_2) rfl (by kernel_rfl) (by kernel_rfl) (by kernel_rfl) (fun _ _ _ h => h) (Or.inl ⟨by rfl, ?y2_2⟩) (by assumption) ?r2_2
          case y2_2 => (intro w hSw; (try dsimp only at hSw); go_simp; try with_reducible rfl)
          try simp only [Act.put, List.setIfInBounds_toArray, List.set_cons_zero, List.set_cons_succ]
          refine wpAnyH_take (i := 3) (oi := _) (v := ?v3_3) rfl (by kernel_rfl) (by kernel_rfl) (by kernel_rfl) (fun _ _ _ h => h) (Or.inl ⟨by rfl, ?y3_3⟩) (by assumption) ?r3_3
          case y3_3 => (intro w hSw; (try dsimp only at hSw); go_simp; try with_reducible rfl)
          try simp only [Act.put, List.setIfInBounds_toArray, List.set_cons_zero, List.set_cons_succ]
          refine wpAnyH_take (i := 4) (oi := _) (v := ?v4_4) rfl (by kernel_rfl) (by kernel_rfl) (by kernel_rfl) (fun _ _ _ h => h) (Or.inl ⟨by rfl, ?y4_4⟩) (by assumption) ?r4_4
          case y4_4 => (intro w hSw; (try dsimp only at hSw); go_simp; try with_reducible rfl)
          try simp only [Act.put, List.setIfInBounds_toArray, List.set_cons_zero, List.set_cons_succ]
          refine wpAnyH_ready (rs := [1, 5]) (by kernel_rfl) (by simp) ?_
          refine AllReadyH.cons (o := _) rfl (fun K hK => ?_) ?_
          · (go_simp)
            refine hK.out _ _ ?_ (fun hHeld => ?_)
            · (try dsimp only); first | assumption | exact q1 | exact stt_below (by assumption) (bel_alloc (Below.refl _ _) _) (by first | (show w.heap.size < wr.heap.size; omega) | omega | (simp; omega)) | exact stt_blk (by assumption) (hk2 _ (by show w.heap.size < (wr.heap.push _).size; rw [Array.size_push]; omega) (.inl (by omega))) | exact stt_set (by assumption) _ _ _ (by omega)
            clear hK K
            try simp only [Act.put, List.setIfInBounds_toArray, List.set_cons_zero, List.set_cons_succ]
            refine wpAnyH_ready (rs := [5]) (by kernel_rfl) (by simp) ?_
            refine AllReadyH.cons (o := _) rfl (fun K hK => ?_) ?_
            · (go_simp)
              refine hK.out _ _ ?_ (fun hHeld => ?_)
              · (try dsimp only); first | assumption | exact q1 | exact stt_below (by assumption) (bel_alloc (Below.refl _ _) _) (by first | (show w.heap.size < wr.heap.size; omega) | omega | (simp; omega)) | exact stt_blk (by assumption) (hk2 _ (by show w.heap.size < (wr.heap.push _).size; rw [Array.size_push]; omega) (.inl (by omega))) | exact stt_set (by assumption) _ _ _ (by omega)
              clear hK K
              try simp only [Act.put, List.setIfInBounds_toArray, List.set_cons_zero, List.set_cons_succ]
              refine wpAnyH_ready (rs := [6]) (by kernel_rfl) (by simp) ?_
              refine AllReadyH.cons (o := _) rfl (fun K hK => ?_) ?_
              · (go_simp)
                refine hK.out _ _ ?_ (fun hHeld => ?_)
                · (try dsimp only); first | assumption | exact q1 | exact stt_below (by assumption) (bel_alloc (Below.refl _ _) _) (by first | (show w.heap.size < wr.heap.size; omega) | omega | (simp; omega)) | exact stt_blk (by assumption) (hk2 _ (by show w.heap.size < (wr.heap.push _).size; rw [Array.size_push]; omega) (.inl (by omega))) | exact stt_set (by assumption) _ _ _ (by omega)
                clear hK K
                try simp only [Act.put, List.setIfInBounds_toArray, List.set_cons_zero, List.set_cons_succ]
                refine wpAnyH_ready (rs := [7]) (by kernel_rfl) (by simp) ?_
                refine AllReadyH.cons (o := _) rfl (fun K hK => ?_) ?_
                · (refine step_pushV (W := (wr.drew).alloc (.cells (Array.replicate m.length (.int .i64 0)) 3)) rfl (.tmp 49) (.tmp 54) rfl (w1.heap.size + 1) wr.heap.size (.slice Ao k capo) (List.replicate k (List.replicate m.length 0)) (HO.out.below (bel_alloc ((Below.refl _ wr).drew) _) (Nat.le_refl _)) (by omega) (by rw [List.length_replicate]; omega) (.slice (some ⟨wr.heap.size, 0, none⟩) m.length m.length) (List.replicate m.length 0) (IRow.made wr.drew m.length (by omega)) rfl (wr.heap.size + 1) (by show _ = (wr.heap.push _).size; simp) (by simp [Act.eval, Act.put]) (by simp [Act.eval, Act.put]) ?_; intro v4 w4 ho4 hb4 hk2; rw [rep_succ] at ho4; obtain ⟨A4, cap4, hv4⟩ := rep_form ho4; subst hv4; have hsW : w1.heap.size < ((wr.drew).alloc (.cells (Array.replicate m.length (.int .i64 0)) 3)).heap.size := (by show _ < (wr.heap.push _).size; rw [Array.size_push]; omega); have G2 := Lib.hid (bel_alloc ((Below.refl _ wr).drew) (.cells (Array.replicate m.length (.int .i64 0)) 3)); have c4 := ((blk2 (hk2 w1.heap.size hsW (.inl (by omega)))).1 1).trans ((G2.out.cell (p := ⟨w1.heap.size, 1, none⟩) hlt).trans k1); have f4 : w4.frozen? ⟨w1.heap.size, 1, none⟩ = false := ((blk2 (hk2 w1.heap.size hsW (.inl (by omega)))).2 1).trans ((G2.out.frozen (p := ⟨w1.heap.size, 1, none⟩) hlt).trans kf))
                  refine hK.out _ _ ?_ (fun hHeld => ?_)
                  · (try dsimp only); first | assumption | exact q1 | exact stt_below (by assumption) (bel_alloc (Below.refl _ _) _) (by first | (show w.heap.size < wr.heap.size; omega) | omega | (simp; omega)) | exact stt_blk (by assumption) (hk2 _ (by show w.heap.size < (wr.heap.push _).size; rw [Array.size_push]; omega) (.inl (by omega))) | exact stt_set (by assumption) _ _ _ (by omega)
                  clear hK K
                  try simp only [Act.put, List.setIfInBounds_toArray, List.set_cons_zero, List.set_cons_succ]
                  refine wpAnyH_take (i := 8) (oi := _) (v := ?v8_5) rfl (by kernel_rfl) (by kernel_rfl) (by kernel_rfl) (fun _ _ _ h => h) (Or.inl ⟨by rfl, ?y8_5⟩) (by assumption) ?r8_5
                  case y8_5 => (intro w hSw; (try dsimp only at hSw); go_simp; try with_reducible rfl)
                  try simp only [Act.put, List.setIfInBounds_toArray, List.set_cons_zero, List.set_cons_succ]
                  refine wpAnyH_ready (rs := [9]) (by kernel_rfl) (by simp) ?_
                  refine AllReadyH.cons (o := _) rfl (fun K hK => ?_) ?_
                  · (go_simp)
                    refine hK.out _ _ ?_ (fun hHeld => ?_)
                    · (try dsimp only); first | assumption | exact q1 | exact stt_below (by assumption) (bel_alloc (Below.refl _ _) _) (by first | (show w.heap.size < wr.heap.size; omega) | omega | (simp; omega)) | exact stt_blk (by assumption) (hk2 _ (by show w.heap.size < (wr.heap.push _).size; rw [Array.size_push]; omega) (.inl (by omega))) | exact stt_set (by assumption) _ _ _ (by omega)
                    clear hK K
                    try simp only [Act.put, List.setIfInBounds_toArray, List.set_cons_zero, List.set_cons_succ]
                    refine wpAnyH_done (by kernel_rfl) ?_ _
                    have hz := hb4.size
                    have b2 := G2.out.size
                    have e0 : (w4.setCell ⟨w1.heap.size, 1, none⟩ (.slice A4 (k + 1) cap4)).cell? ⟨w1.heap.size, 0, none⟩ = some (.int .i64 lim) := by
                      have q : w4.cell? ⟨w1.heap.size, 0, none⟩ = some (.int .i64 lim) := ((blk2 (hk2 w1.heap.size hsW (.inl (by omega)))).1 0).trans ((G2.out.cell (p := ⟨w1.heap.size, 0, none⟩) hlt).trans k0)
                      simp [go_sem, q]
                    have e1 : (w4.setCell ⟨w1.heap.size, 1, none⟩ (.slice A4 (k + 1) cap4)).cell? ⟨w1.heap.size, 1, none⟩ = some (.slice A4 (k + 1) cap4) := by
                      simp [go_sem, c4]
                    have e2 : (w4.setCell ⟨w1.heap.size, 1, none⟩ (.slice A4 (k + 1) cap4)).frozen? ⟨w1.heap.size, 1, none⟩ = false := by
                      simpa using f4
                    have e3 : OwnM (w4.setCell ⟨w1.heap.size, 1, none⟩ (.slice A4 (k + 1) cap4)) (w1.heap.size + 1) (w4.setCell ⟨w1.heap.size, 1, none⟩ (.slice A4 (k + 1) cap4)).heap.size (.slice A4 (k + 1) cap4) (List.replicate (k + 1) (List.replicate m.length 0)) := by
                      refine OwnM.more (OwnM.set_ ho4 (by show w1.heap.size < w1.heap.size + 1; omega) _) (by simp [World.setCell]) (Nat.le_refl _)
                    have e6 : Below w1.heap.size w1 (w4.setCell ⟨w1.heap.size, 1, none⟩ (.slice A4 (k + 1) cap4)) := Below.setCell ((bel_trans HB.out G2.out).trans (hb4.mono (by omega))) (Nat.le_refl _) _
                    have e7 : w1.heap.size < (w4.setCell ⟨w1.heap.size, 1, none⟩ (.slice A4 (k + 1) cap4)).heap.size := by
                      show _ < (w4.heap.modify _ _).size
                      rw [Array.size_modify]
                      omega
                    have hE : Hid (RnF w w1 (w4.setCell ⟨w1.heap.size, 1, none⟩ (.slice A4 (k + 1) cap4)) lim m A cap (k + 1)) := Lib.hid ⟨A4, cap4, e0, e1, e2, e3, e6, e7⟩
                    clear e0 e1 e2 e3 e6 e7 hk2 ho4 hb4 c4 f4
                    go_wp2_with fail
                    exact ⟨⟨k + 1, by omega, by go_num, hnx, hE⟩, by simp [intOf]; omega⟩
                  exact AllReadyH.nil
                exact AllReadyH.nil
              exact AllReadyH.nil
            exact AllReadyH.nil
          refine AllReadyH.cons (o := _) rfl (fun K hK => ?_) ?_
          · (go_simp)
            refine hK.out _ _ ?_ (fun hHeld => ?_)
            · (try dsimp only); first | assumption | exact q1 | exact stt_below (by assumption) (bel_alloc (Below.refl _ _) _) (by first | (show w.heap.size < wr.heap.size; omega) | omega | (simp; omega)) | exact stt_blk (by assumption) (hk2 _ (by show w.heap.size < (wr.heap.push _).size; rw [Array.size_push]; omega) (.inl (by omega))) | exact stt_set (by assumption) _ _ _ (by omega)
            clear hK K
            try simp only [Act.put, List.setIfInBounds_toArray, List.set_cons_zero, List.set_cons_succ]
            refine wpAnyH_ready (rs := [1, 6]) (by kernel_rfl) (by simp) ?_
            refine AllReadyH.cons (o := _) rfl (fun K hK => ?_) ?_
            · (go_simp)
              refine hK.out _ _ ?_ (fun hHeld => ?_)
              · (try dsimp only); first | assumption | exact q1 | exact stt_below (by assumption) (bel_alloc (Below.refl _ _) _) (by first | (show w.heap.size < wr.heap.size; omega) | omega | (simp; omega)) | exact stt_blk (by assumption) (hk2 _ (by show w.heap.size < (wr.heap.push _).size; rw [Array.size_push]; omega) (.inl (by omega))) | exact stt_set (by assumption) _ _ _ (by omega)
              clear hK K
              try simp only [Act.put, List.setIfInBounds_toArray, List.set_cons_zero, List.set_cons_succ]
              refine wpAnyH_ready (rs := [6]) (by kernel_rfl) (by simp) ?_
              refine AllReadyH.cons (o := _) rfl (fun K hK => ?_) ?_
              · (go_simp)
                refine hK.out _ _ ?_ (fun hHeld => ?_)
                · (try dsimp only); first | assumption | exact q1 | exact stt_below (by assumption) (bel_alloc (Below.refl _ _) _) (by first | (show w.heap.size < wr.heap.size; omega) | omega | (simp; omega)) | exact stt_blk (by assumption) (hk2 _ (by show w.heap.size < (wr.heap.push _).size; rw [Array.size_push]; omega) (.inl (by omega))) | exact stt_set (by assumption) _ _ _ (by omega)
                clear hK K
                try simp only [Act.put, List.setIfInBounds_toArray, List.set_cons_zero, List.set_cons_succ]
                refine wpAnyH_ready (rs := [7]) (by kernel_rfl) (by simp) ?_
                refine AllReadyH.cons (o := _) rfl (fun K hK => ?_) ?_
                · (refine step_pushV (W := (wr.drew).alloc (.cells (Array.replicate m.length (.int .i64 0)) 3)) rfl (.tmp 49) (.tmp 54) rfl (w1.heap.size + 1) wr.heap.size (.slice Ao k capo) (List.replicate k (List.replicate m.length 0)) (HO.out.below (bel_alloc ((Below.refl _ wr).drew) _) (Nat.le_refl _)) (by omega) (by rw [List.length_replicate]; omega) (.slice (some ⟨wr.heap.size, 0, none⟩) m.length m.length) (List.replicate m.length 0) (IRow.made wr.drew m.length (by omega)) rfl (wr.heap.size + 1) (by show _ = (wr.heap.push _).size; simp) (by simp [Act.eval, Act.put]) (by simp [Act.eval, Act.put]) ?_; intro v4 w4 ho4 hb4 hk2; rw [rep_succ] at ho4; obtain ⟨A4, cap4, hv4⟩ := rep_form ho4; subst hv4; have hsW : w1.heap.size < ((wr.drew).alloc (.cells (Array.replicate m.length (.int .i64 0)) 3)).heap.size := (by show _ < (wr.heap.push _).size; rw [Array.size_push]; omega); have G2 := Lib.hid (bel_alloc ((Below.refl _ wr).drew) (.cells (Array.replicate m.length (.int .i64 0)) 3)); have c4 := ((blk2 (hk2 w1.heap.size hsW (.inl (by omega)))).1 1).trans ((G2.out.cell (p := ⟨w1.heap.size, 1, none⟩) hlt).trans k1); have f4 : w4.frozen? ⟨w1.heap.size, 1, none⟩ = false := ((blk2 (hk2 w1.heap.size hsW (.inl (by omega)))).2 1).trans ((G2.out.frozen (p := ⟨w1.heap.size, 1, none⟩) hlt).trans kf))
                  refine hK.out _ _ ?_ (fun hHeld => ?_)
                  · (try dsimp only); first | assumption | exact q1 | exact stt_below (by assumption) (bel_alloc (Below.refl _ _) _) (by first | (show w.heap.size < wr.heap.size; omega) | omega | (simp; omega)) | exact stt_blk (by assumption) (hk2 _ (by show w.heap.size < (wr.heap.push _).size; rw [Array.size_push]; omega) (.inl (by omega))) | exact stt_set (by assumption) _ _ _ (by omega)
                  clear hK K
                  try simp only [Act.put, List.setIfInBounds_toArray, List.set_cons_zero, List.set_cons_succ]
                  refine wpAnyH_take (i := 8) (oi := _) (v := ?v8_6) rfl (by kernel_rfl) (by kernel_rfl) (by kernel_rfl) (fun _ _ _ h => h) (Or.inl ⟨by rfl, ?y8_6⟩) (by assumption) ?r8_6
                  case y8_6 => (intro w hSw; (try dsimp only at hSw); go_simp; try with_reducible rfl)
                  try simp only [Act.put, List.setIfInBounds_toArray, List.set_cons_zero, List.set_cons_succ]
                  refine wpAnyH_ready (rs := [9]) (by kernel_rfl) (by simp) ?_
                  refine AllReadyH.cons (o := _) rfl (fun K hK => ?_) ?_
                  · (go_simp)
                    refine hK.out _ _ ?_ (fun hHeld => ?_)
                    · (try dsimp only); first | assumption | exact q1 | exact stt_below (by assumption) (bel_alloc (Below.refl _ _) _) (by first | (show w.heap.size < wr.heap.size; omega) | omega | (simp; omega)) | exact stt_blk (by assumption) (hk2 _ (by show w.heap.size < (wr.heap.push _).size; rw [Array.size_push]; omega) (.inl (by omega))) | exact stt_set (by assumption) _ _ _ (by omega)
                    clear hK K
                    try simp only [Act.put, List.setIfInBounds_toArray, List.set_cons_zero, List.set_cons_succ]
                    refine wpAnyH_done (by kernel_rfl) ?_ _
                    have hz := hb4.size
                    have b2 := G2.out.size
                    have e0 : (w4.setCell ⟨w1.heap.size, 1, none⟩ (.slice A4 (k + 1) cap4)).cell? ⟨w1.heap.size, 0, none⟩ = some (.int .i64 lim) := by
                      have q : w4.cell? ⟨w1.heap.size, 0, none⟩ = some (.int .i64 lim) := ((blk2 (hk2 w1.heap.size hsW (.inl (by omega)))).1 0).trans ((G2.out.cell (p := ⟨w1.heap.size, 0, none⟩) hlt).trans k0)
                      simp [go_sem, q]
                    have e1 : (w4.setCell ⟨w1.heap.size, 1, none⟩ (.slice A4 (k + 1) cap4)).cell? ⟨w1.heap.size, 1, none⟩ = some (.slice A4 (k + 1) cap4) := by
                      simp [go_sem, c4]
                    have e2 : (w4.setCell ⟨w1.heap.size, 1, none⟩ (.slice A4 (k + 1) cap4)).frozen? ⟨w1.heap.size, 1, none⟩ = false := by
                      simpa using f4
                    have e3 : OwnM (w4.setCell ⟨w1.heap.size, 1, none⟩ (.slice A4 (k + 1) cap4)) (w1.heap.size + 1) (w4.setCell ⟨w1.heap.size, 1, none⟩ (.slice A4 (k + 1) cap4)).heap.size (.slice A4 (k + 1) cap4) (List.replicate (k + 1) (List.replicate m.length 0)) := by
                      refine OwnM.more (OwnM.set_ ho4 (by show w1.heap.size < w1.heap.size + 1; omega) _) (by simp [World.setCell]) (Nat.le_refl _)
                    have e6 : Below w1.heap.size w1 (w4.setCell ⟨w1.heap.size, 1, none⟩ (.slice A4 (k + 1) cap4)) := Below.setCell ((bel_trans HB.out G2.out).trans (hb4.mono (by omega))) (Nat.le_refl _) _
                    have e7 : w1.heap.size < (w4.setCell ⟨w1.heap.size, 1, none⟩ (.slice A4 (k + 1) cap4)).heap.size := by
                      show _ < (w4.heap.modify _ _).size
                      rw [Array.size_modify]
                      omega
                    have hE : Hid (RnF w w1 (w4.setCell ⟨w1.heap.size, 1, none⟩ (.slice A4 (k + 1) cap4)) lim m A cap (k + 1)) := Lib.hid ⟨A4, cap4, e0, e1, e2, e3, e6, e7⟩
                    clear e0 e1 e2 e3 e6 e7 hk2 ho4 hb4 c4 f4
                    go_wp2_with fail
                    exact ⟨⟨k + 1, by omega, by go_num, hnx, hE⟩, by simp [intOf]; omega⟩
                  exact AllReadyH.nil
                exact AllReadyH.nil
              exact AllReadyH.nil
            refine AllReadyH.cons (o := _) rfl (fun K hK => ?_) ?_
            · (go_simp)
              refine hK.out _ _ ?_ (fun hHeld => ?_)
              · (try dsimp only); first | assumption | exact q1 | exact stt_below (by assumption) (bel_alloc (Below.refl _ _) _) (by first | (show w.heap.size < wr.heap.size; omega) | omega | (simp; omega)) | exact stt_blk (by assumption) (hk2 _ (by show w.heap.size < (wr.heap.push _).size; rw [Array.size_push]; omega) (.inl (by omega))) | exact stt_set (by assumption) _ _ _ (by omega)
              clear hK K
              try simp only [Act.put, List.setIfInBounds_toArray, List.set_cons_zero, List.set_cons_succ]
              refine wpAnyH_ready (rs := [1]) (by kernel_rfl) (by simp) ?_
              refine AllReadyH.cons (o := _) rfl (fun K hK => ?_) ?_
              · (go_simp)
                refine hK.out _ _ ?_ (fun hHeld => ?_)
                · (try dsimp only); first | assumption | exact q1 | exact stt_below (by assumption) (bel_alloc (Below.refl _ _) _) (by first | (show w.heap.size < wr.heap.size; omega) | omega | (simp; omega)) | exact stt_blk (by assumption) (hk2 _ (by show w.heap.size < (wr.heap.push _).size; rw [Array.size_push]; omega) (.inl (by omega))) | exact stt_set (by assumption) _ _ _ (by omega)
                clear hK K
                try simp only [Act.put, List.setIfInBounds_toArray, List.set_cons_zero, List.set_cons_succ]
                refine wpAnyH_ready (rs := [7]) (by kernel_rfl) (by simp) ?_
                refine AllReadyH.cons (o := _) rfl (fun K hK => ?_) ?_
                · (refine step_pushV (W := (wr.drew).alloc (.cells (Array.replicate m.length (.int .i64 0)) 3)) rfl (.tmp 49) (.tmp 54) rfl (w1.heap.size + 1) wr.heap.size (.slice Ao k capo) (List.replicate k (List.replicate m.length 0)) (HO.out.below (bel_alloc ((Below.refl _ wr).drew) _) (Nat.le_refl _)) (by omega) (by rw [List.length_replicate]; omega) (.slice (some ⟨wr.heap.size, 0, none⟩) m.length m.length) (List.replicate m.length 0) (IRow.made wr.drew m.length (by omega)) rfl (wr.heap.size + 1) (by show _ = (wr.heap.push _).size; simp) (by simp [Act.eval, Act.put]) (by simp [Act.eval, Act.put]) ?_; intro v4 w4 ho4 hb4 hk2; rw [rep_succ] at ho4; obtain ⟨A4, cap4, hv4⟩ := rep_form ho4; subst hv4; have hsW : w1.heap.size < ((wr.drew).alloc (.cells (Array.replicate m.length (.int .i64 0)) 3)).heap.size := (by show _ < (wr.heap.push _).size; rw [Array.size_push]; omega); have G2 := Lib.hid (bel_alloc ((Below.refl _ wr).drew) (.cells (Array.replicate m.length (.int .i64 0)) 3)); have c4 := ((blk2 (hk2 w1.heap.size hsW (.inl (by omega)))).1 1).trans ((G2.out.cell (p := ⟨w1.heap.size, 1, none⟩) hlt).trans k1); have f4 : w4.frozen? ⟨w1.heap.size, 1, none⟩ = false := ((blk2 (hk2 w1.heap.size hsW (.inl (by omega)))).2 1).trans ((G2.out.frozen (p := ⟨w1.heap.size, 1, none⟩) hlt).trans kf))
                  refine hK.out _ _ ?_ (fun hHeld => ?_)
                  · (try dsimp only); first | assumption | exact q1 | exact stt_below (by assumption) (bel_alloc (Below.refl _ _) _) (by first | (show w.heap.size < wr.heap.size; omega) | omega | (simp; omega)) | exact stt_blk (by assumption) (hk2 _ (by show w.heap.size < (wr.heap.push _).size; rw [Array.size_push]; omega) (.inl (by omega))) | exact stt_set (by assumption) _ _ _ (by omega)
                  clear hK K
                  try simp only [Act.put, List.setIfInBounds_toArray, List.set_cons_zero, List.set_cons_succ]
                  refine wpAnyH_take (i := 8) (oi := _) (v := ?v8_7) rfl (by kernel_rfl) (by kernel_rfl) (by kernel_rfl) (fun _ _ _ h => h) (Or.inl ⟨by rfl, ?y8_7⟩) (by assumption) ?r8_7
                  case y8_7 => (intro w hSw; (try dsimp only at hSw); go_simp; try with_reducible rfl)
                  try simp only [Act.put, List.setIfInBounds_toArray, List.set_cons_zero, List.set_cons_succ]
                  refine wpAnyH_ready (rs := [9]) (by kernel_rfl) (by simp) ?_
                  refine AllReadyH.cons (o := _) rfl (fun K hK => ?_) ?_
                  · (go_simp)
                    refine hK.out _ _ ?_ (fun hHeld => ?_)
                    · (try dsimp only); first | assumption | exact q1 | exact stt_below (by assumption) (bel_alloc (Below.refl _ _) _) (by first | (show w.heap.size < wr.heap.size; omega) | omega | (simp; omega)) | exact stt_blk (by assumption) (hk2 _ (by show w.heap.size < (wr.heap.push _).size; rw [Array.size_push]; omega) (.inl (by omega))) | exact stt_set (by assumption) _ _ _ (by omega)
                    clear hK K
                    try simp only [Act.put, List.setIfInBounds_toArray, List.set_cons_zero, List.set_cons_succ]
                    refine wpAnyH_done (by kernel_rfl) ?_ _
                    have hz := hb4.size
                    have b2 := G2.out.size
                    have e0 : (w4.setCell ⟨w1.heap.size, 1, none⟩ (.slice A4 (k + 1) cap4)).cell? ⟨w1.heap.size, 0, none⟩ = some (.int .i64 lim) := by
                      have q : w4.cell? ⟨w1.heap.size, 0, none⟩ = some (.int .i64 lim) := ((blk2 (hk2 w1.heap.size hsW (.inl (by omega)))).1 0).trans ((G2.out.cell (p := ⟨w1.heap.size, 0, none⟩) hlt).trans k0)
                      simp [go_sem, q]
                    have e1 : (w4.setCell ⟨w1.heap.size, 1, none⟩ (.slice A4 (k + 1) cap4)).cell? ⟨w1.heap.size, 1, none⟩ = some (.slice A4 (k + 1) cap4) := by
                      simp [go_sem, c4]
                    have e2 : (w4.setCell ⟨w1.heap.size, 1, none⟩ (.slice A4 (k + 1) cap4)).frozen? ⟨w1.heap.size, 1, none⟩ = false := by
                      simpa using f4
                    have e3 : OwnM (w4.setCell ⟨w1.heap.size, 1, none⟩ (.slice A4 (k + 1) cap4)) (w1.heap.size + 1) (w4.setCell ⟨w1.heap.size, 1, none⟩ (.slice A4 (k + 1) cap4)).heap.size (.slice A4 (k + 1) cap4) (List.replicate (k + 1) (List.replicate m.length 0)) := by
                      refine OwnM.more (OwnM.set_ ho4 (by show w1.heap.size < w1.heap.size + 1; omega) _) (by simp [World.setCell]) (Nat.le_refl _)
                    have e6 : Below w1.heap.size w1 (w4.setCell ⟨w1.heap.size, 1, none⟩ (.slice A4 (k + 1) cap4)) := Below.setCell ((bel_trans HB.out G2.out).trans (hb4.mono (by omega))) (Nat.le_refl _) _
                    have e7 : w1.heap.size < (w4.setCell ⟨w1.heap.size, 1, none⟩ (.slice A4 (k + 1) cap4)).heap.size := by
                      show _ < (w4.heap.modify _ _).size
                      rw [Array.size_modify]
                      omega
                    have hE : Hid (RnF w w1 (w4.setCell ⟨w1.heap.size, 1, none⟩ (.slice A4 (k + 1) cap4)) lim m A cap (k + 1)) := Lib.hid ⟨A4, cap4, e0, e1, e2, e3, e6, e7⟩
                    clear e0 e1 e2 e3 e6 e7 hk2 ho4 hb4 c4 f4
                    go_wp2_with fail
                    exact ⟨⟨k + 1, by omega, by go_num, hnx, hE⟩, by simp [intOf]; omega⟩
                  exact AllReadyH.nil
                exact AllReadyH.nil
              exact AllReadyH.nil
            exact AllReadyH.nil
          exact AllReadyH.nil
    · obtain rfl : k = m.length := by omega
      have hyes : okRn lim m xs = true := by rw [Hok.out]; exact hal.out
      have hE : Hid (limRn lim m xs = lim ∧ ansRn lim m xs = rowsR m.length (rnO m xs m.length m.length) ∧ okRn lim m xs = true) := Lib.hid ⟨by simp [limRn, hyes], by simp [ansRn, hyes], hyes⟩
      rw [rowsR_zero] at ho
      obtain ⟨g, capg, hv, hg1, hg2, _, _⟩ := ho.form (by rw [rowsR_len]; omega)
      rw [rowsR_len] at hv
      injection hv with hv1 hv2 hv3
      subst hv1
      subst hv3
      have HO := Lib.hid ho
      have HB := Lib.hid hb
      have HM3 := Lib.hid (HM1.out.below hb (by omega))
      have HX3 := Lib.hid (HX1.out.below hb (by omega))
      clear hyes ho hb
      obtain ⟨w3, hw3⟩ : ∃ w3 : World, w3 = wr := ⟨_, rfl⟩
      rw [← hw3] at HO HB HM3 HX3 k0 k1 kf q1 hlt hg2 hF ⊢
      clear hw3
      go_wp2_with fail
      go_loopw [61] (fun x wv => ∃ i : Nat, i ≤ m.length ∧ x = .int .i64 i ∧ Hid (Off (w1.heap.size + 1) w3.heap.size w3 wv) ∧ Hid (OwnM wv (w1.heap.size + 1) w3.heap.size (.slice (some ⟨g, 0, none⟩) m.length capo) (rowsR m.length (rnO m xs m.length i)))) (fun x _ => m.length - (intOf x).toNat)
      case atStart => exact ⟨0, by omega, rfl, Lib.hid (Off.refl _ _ _), HO⟩
      case round =>
        obtain ⟨i, hi, rfl, hOff, hOw⟩ := hrel
        obtain ⟨wa, rfl⟩ : ∃ wa : World, wa = wr := ⟨_, rfl⟩
        have kO : wa.cell? ⟨w1.heap.size, 1, none⟩ = some (.slice (some ⟨g, 0, none⟩) m.length capo) := (World.cell?_of_block (a := ⟨w1.heap.size, 1, none⟩) (hOff.out.block w1.heap.size hlt (.inl (by omega)))).trans k1
        have kP : wa.cell? ⟨w1.heap.size, 0, none⟩ = some (.int .i64 lim) := (World.cell?_of_block (a := ⟨w1.heap.size, 0, none⟩) (hOff.out.block w1.heap.size hlt (.inl (by omega)))).trans k0
        by_cases hil : i < m.length
        · have hMi := HM3.out.keep (w' := wa) (fun p hp => World.cell?_of_block (hOff.out.block p.block (by omega) (.inl (by omega))))
          have hXi := HX3.out.keep (w' := wa) (fun p hp => World.cell?_of_block (hOff.out.block p.block (by omega) (.inl (by omega))))
          obtain ⟨ad, Ar, capr, rfl, hadb, hur, hri, hcl, hcm⟩ := hMi.at_ hil
          obtain ⟨adn, hAn, hnb, e0⟩ := hXi.at_ (by rw [hll]; exact hil)
          subst hAn
          obtain ⟨x0, x1⟩ := HA.out i (by rw [hll]; exact hil)
          rw [x0] at e0
          have hrl := HG.out.row i hil
          obtain ⟨g2, A', cap', hgg, -, hrc, hrI, hrB⟩ := hOw.out.rowAt (j := nmN xs i) (by rw [rowsR_len]; exact x1)
          injection hgg with hgg
          injection hgg with hgg
          subst hgg
          rw [rowsR_at _ _ _ x1] at hrc hrI hrB
          rw [rowL_len] at hrc hrI hrB
          rw [hrl] at hur hri hcl
          have Hri := Lib.hid hri
          have xi : ((nmN xs i : Nat) : Int) < (m.length : Int) := by omega
          obtain ⟨gr, hgr⟩ : ∃ gr, A' = some ⟨gr, 0, none⟩ := by
            rcases hrI.form with ⟨hq, _⟩ | ⟨_, gr, cq, hv, _⟩
            · have h0 : (rowL (rnO m xs m.length i (nmN xs i)) m.length).length = 0 := by rw [hq]; rfl
              rw [rowL_len] at h0; omega
            · injection hv with hv; exact ⟨gr, hv⟩
          subst hgr
          have Hrc := Lib.hid hrc
          have Hll := Lib.hid hll
          have Hrl := Lib.hid hrl
          have HkP := Lib.hid kP
          clear hMi hXi x0 hri hrI hrB hrl hll hli kP
          have hnm : Hid (nmN xs i = nmN xs i) := rfl
          obtain ⟨x, hx⟩ : ∃ x, x = nmN xs i := ⟨_, rfl⟩
          rw [← hx] at e0 x1 xi hrc Hrc
          have Hx := Lib.hid hx
          clear hx hnm
          go_wp2_with fail
          go_quiet (fail)
          have hOw2 : Hid (OwnM (wa.drewN nq) (w1.heap.size + 1) w3.heap.size (.slice (some ⟨g, 0, none⟩) m.length capo) (rowsR m.length (rnI m xs i (rnO m xs m.length i) 0))) := Lib.hid (hOw.out.drewN nq)
          have hOff2 : Hid (Off (w1.heap.size + 1) w3.heap.size w3 (wa.drewN nq)) := Lib.hid (hOff.out.drewN nq)
          have Hrc2 : Hid ((wa.drewN nq).cell? ⟨g, x, none⟩ = some (.slice (some ⟨gr, 0, none⟩) m.length cap')) := Lib.hid hrc
          have Hri2 : Hid (RdI (wa.drewN nq) B (.slice Ar m.length capr) (m.getD i [])) := Lib.hid Hri.out
          clear hrc Hrc hOw hOff Hri kO HkP hur e0
          generalize wa.drewN nq = wb at *
          go_wp2_with fail
          go_loopw [76] (fun y wv => ∃ j : Nat, j ≤ m.length ∧ y = .int .i64 j ∧ Hid (Off (w1.heap.size + 1) w3.heap.size w3 wv) ∧ Hid (OwnM wv (w1.heap.size + 1) w3.heap.size (.slice (some ⟨g, 0, none⟩) m.length capo) (rowsR m.length (rnI m xs i (rnO m xs m.length i) j))) ∧ Hid (wv.cell? ⟨g, x, none⟩ = some (.slice (some ⟨gr, 0, none⟩) m.length cap'))) (fun y _ => m.length - (intOf y).toNat)
          case atStart => exact ⟨0, by omega, rfl, hOff2, hOw2, Hrc2⟩
          case round =>
            obtain ⟨j, hj, rfl, hOff3, hOw3, hC3⟩ := hrel
            by_cases hjl : j < m.length
            · have hMj := Hri2.out.keep (w' := wr) (fun p hp => World.cell?_of_block ((hOff3.out.block p.block (by omega) (.inl (by omega))).trans (hOff2.out.block p.block (by omega) (.inl (by omega))).symm))
              have hXj := HX3.out.keep (w' := wr) (fun p hp => World.cell?_of_block (hOff3.out.block p.block (by omega) (.inl (by omega))))
              obtain ⟨A4, cap4, e4, _, _, h4⟩ := hMj
              injection e4 with e41 e42 e43
              subst e41
              obtain ⟨ad2, rfl, hb2, hcell⟩ := h4 (by rw [Hrl.out]; omega)
              have em := hcell j (by rw [Hrl.out]; exact hjl)
              obtain ⟨adn', hAn', _, en⟩ := hXj.at_ (k := j) (by rw [Hll.out]; exact hjl)
              injection hAn' with hAn'
              subst hAn'
              obtain ⟨y0, y1⟩ := HA.out j (by rw [Hll.out]; exact hjl)
              rw [y0] at en
              obtain ⟨gq, A2, cap3, hgg, -, hrc2, hrI2, hrB2⟩ := hOw3.out.rowAt (j := x) (by rw [rowsR_len]; exact x1)
              injection hgg with hgg
              injection hgg with hgg
              subst hgg
              rw [rowsR_at _ _ _ x1] at hrc2 hrI2 hrB2
              rw [hC3.out, rowL_len] at hrc2
              injection hrc2 with hrc2
              injection hrc2 with e1 e2 e3
              subst e1 e3
              have c0 := hrI2.at_ (nmN xs j) (by rw [rowL_len]; exact y1)
              have f0 := World.ownsRow.frozenAt hrI2 (nmN xs j)
              obtain ⟨hs1, hg1'⟩ := hrI2.store (nmN xs j) ((m.getD i []).getD j 0)
              have hap : gr ≠ g := fun e => by
                obtain ⟨_, vs, h1, _, _, _⟩ := hOw3.out
                exact rows_apart h1 hrI2 (k := g) rfl (by rw [← e]; rfl)
              have hw := OwnM.write hOw3.out (i := x) (by rw [rowsR_len]; exact x1) ⟨⟨g, 0, none⟩, by rw [rowsR_len], by rw [Addr.add_lit, Nat.zero_add, rowL_len]; exact hC3.out⟩ hg1' hs1 (by rw [rowsR_at _ _ _ x1, List.length_set])
              have hF2 : (rowsR m.length (rnI m xs i (rnO m xs m.length i) j)).set x ((rowL (rnI m xs i (rnO m xs m.length i) j x) m.length).set (nmN xs j) ((m.getD i []).getD j 0)) = rowsR m.length (rnI m xs i (rnO m xs m.length i) (j + 1)) := by
                rw [rowsR_upd _ _ _ _ _ x1, Hx.out]
                rfl
              rw [hF2] at hw
              have HW := Lib.hid hw
              have HOf := Lib.hid (hOff3.out.trans (Off.grown hg1' hrB2))
              have HC4 := Lib.hid ((World.cell?_of_block (a := ⟨g, x, none⟩) (hg1'.block g (Nat.lt_of_lt_of_le hg2 hOff3.out.size) (fun e => hap (by injection e with e; exact e.symm)))).trans hC3.out)
              have yi : ((nmN xs j : Nat) : Int) < (m.length : Int) := by omega
              clear hw hF2 hap hs1 hg1' hrI2 hrB2 y0 h4 hXj hcell e42 e43 e2
              generalize nmN xs j = b at *
              generalize (m.getD i []).getD j 0 = vv at *
              generalize (rowL (rnI m xs i (rnO m xs m.length i) j x) m.length).getD b 0 = old at *
              go_wp2_with fail
              exact ⟨⟨j + 1, by omega, by go_num, HOf, HW, HC4⟩, by simp [intOf]; omega⟩
            · have hjn : j = m.length := by omega
              have hOw4 : Hid (OwnM wr (w1.heap.size + 1) w3.heap.size (.slice (some ⟨g, 0, none⟩) m.length capo) (rowsR m.length (rnO m xs m.length (i + 1)))) := Lib.hid (by have q := hOw3.out; rw [hjn] at q; exact q)
              clear hjn hOw3
              go_wp2_with fail
              exact ⟨⟨i + 1, by omega, by go_num, hOff3, hOw4⟩, by simp [intOf]; omega⟩
        · have hin : i = m.length := by omega
          have hrw := Lib.hid ((hOff.out.block (w.heap.size + 1) (by omega) (.inl (by omega))).trans ((HB.out.block (w.heap.size + 1) hs3).trans hr1.out))
          have hbw := Lib.hid (hOff.out.bel (bel_trans hbb.out HB.out) (by omega))
          have hsw := hOff.out.size
          have r0 : wa.cell? ⟨w.heap.size + 1, 0, none⟩ = some (.int .i64 0) := cell_heap hrw.out rfl
          have r1 : wa.cell? ⟨w.heap.size + 1, 1, none⟩ = some nilS := cell_heap hrw.out rfl
          have f0 : wa.frozen? ⟨w.heap.size + 1, 0, none⟩ = false := froz_heap hrw.out
          have f1 : wa.frozen? ⟨w.heap.size + 1, 1, none⟩ = false := froz_heap hrw.out
          have hOw5 : Hid (OwnM wa (w1.heap.size + 1) w3.heap.size (.slice (some ⟨g, 0, none⟩) m.length capo) (ansRn lim m xs)) := Lib.hid (by have q := hOw.out; rw [hin] at q; rw [hE.out.2.1]; exact q)
          have hsz5 : Hid (w3.heap.size ≤ wa.heap.size ∧ w.heap.size + 1 < w1.heap.size + 1 ∧ w.heap.size ≤ w1.heap.size + 1) := Lib.hid ⟨hsw, by omega, by omega⟩
          clear hin hOw hsw
          go_wp2_with fail
          refine bodyPost_ret (v := .tuple #[sts lim (.slice (some ⟨g, 0, none⟩) m.length capo), .bool true]) (by simp [results, Try.results13, go_sem, r0, r1, f0, f1]) rfl ⟨.slice (some ⟨g, 0, none⟩) m.length capo, by rw [hE.out.1, hE.out.2.2], ?_, ?_⟩
          · refine OwnM.low (OwnM.more (OwnM.set_ (OwnM.set_ hOw5.out hsz5.out.2.1 _) hsz5.out.2.1 _) (by simp [World.setCell]; exact hsz5.out.1) (Nat.le_refl _)) hsz5.out.2.2
          · exact (hbw.out.setCell (Nat.le_succ _) _).setCell (Nat.le_succ _) _
end Go.Proofs.Ytcfafgdgmkiibaa
