/- RenameStates: the model's contract. -/
import Derived.Test.YtcfafgdgmkiibaaRnS
namespace Go.Proofs.Ytcfafgdgmkiibaa
open Go.ChangeShapes Go.WideShapes Go.ChangeAt Go.RowKit
set_option linter.unusedVariables false
set_option linter.unusedSimpArgs false

set_option maxRecDepth 100000 in
set_option maxHeartbeats 3200000 in
theorem specRn_any (lim : Int) (m : List (List Int)) (v : Value) (B : Nat) (xs : List Int) (u : Value) (B' : Nat) (w : World) (h : RdM w B v m) (hB : B ≤ w.heap.size) (hx : RdI w B' u xs) (hB' : B' ≤ w.heap.size) :
    Calls Try.prog 13 #[sts lim v, u] w (RnAns (limRn lim m xs) (ansRn lim m xs) (okRn lim m xs) w) := by
  obtain ⟨A, cap, rfl, l0, m0⟩ := h.form
  obtain ⟨A2, cap2, rfl, l2, m2⟩ := hx.form
  by_cases good : saG lim m = true ∧ xs.length = m.length ∧ askB m.length xs = true
  · exact specRn_yes lim m A cap B xs A2 cap2 B' w h hB hx hB' l2 m2 good.1 good.2.2 good.2.1
  · have hno : okRn lim m xs = false := by
      unfold okRn
      cases h1 : saG lim m
      · rfl
      · by_cases h2 : xs.length = m.length
        · cases h3 : askB m.length xs
          · simp
          · exact absurd ⟨h1, h2, h3⟩ good
        · simp [h2]
    rw [show limRn lim m xs = 0 from by simp [limRn, hno], show ansRn lim m xs = [] from by simp [ansRn, hno], hno]
    unfold RnAns
    unfold maxLen at m0 m2
    clear hno
    cases h1 : saG lim m
    · clear good
      have hbl := Lib.hid (bel_alloc (bel_alloc (Below.refl _ w) (.cells #[.int .i64 lim, .slice A m.length cap] 47)) (.cells #[.int .i64 0, nilS] 47))
      have H := Lib.hid (h.below hbl.out hB)
      have hx2 := hx.below hbl.out hB'
      have HX := Lib.hid hx2
      clear hx2
      have hsz := hbl.out.size
      have hres : Hid (((w.alloc (.cells #[.int .i64 lim, .slice A m.length cap] 47)).alloc (.cells #[.int .i64 0, nilS] 47)).heap[w.heap.size + 1]? = some (.cells #[.int .i64 0, nilS] 47)) := Lib.hid (heap_alloc2_new w _ _)
      have hbox : Hid (((w.alloc (.cells #[.int .i64 lim, .slice A m.length cap] 47)).alloc (.cells #[.int .i64 0, nilS] 47)).heap[w.heap.size]? = some (.cells #[.int .i64 lim, .slice A m.length cap] 47)) := Lib.hid ((heap_alloc_old _ _ (by rw [← size1]; omega)).trans (heap_alloc_new w _))
      have hs2 : w.heap.size + 1 < ((w.alloc (.cells #[.int .i64 lim, .slice A m.length cap] 47)).alloc (.cells #[.int .i64 0, nilS] 47)).heap.size := by show _ < ((w.heap.push _).push _).size; simp
      have b0 : ((w.alloc (.cells #[.int .i64 lim, .slice A m.length cap] 47)).alloc (.cells #[.int .i64 0, nilS] 47)).cell? ⟨w.heap.size, 1, none⟩ = some (.slice A m.length cap) := cell_heap hbox.out rfl
      go_enter Try.func13, Try.ntmps13
      go_wp2_with fail
      refine (saGood_any lim m _ _ _ H.out (Nat.le_trans hB hsz)).mono ?_
      rw [h1]
      rintro e w1 ⟨rfl, b1⟩
      have hbx1 := Lib.hid ((b1.block w.heap.size (by omega)).trans hbox.out)
      have hr1 := Lib.hid ((b1.block (w.heap.size + 1) hs2).trans hres.out)
      have hbb := Lib.hid (bel_trans hbl.out b1)
      have HX1 := Lib.hid (HX.out.below b1 (Nat.le_trans hB' hsz))
      have p0 : w1.cell? ⟨w.heap.size, 0, none⟩ = some (.int .i64 lim) := cell_heap hbx1.out rfl
      have p1 : w1.cell? ⟨w.heap.size, 1, none⟩ = some (.slice A m.length cap) := cell_heap hbx1.out rfl
      have r0 : w1.cell? ⟨w.heap.size + 1, 0, none⟩ = some (.int .i64 0) := cell_heap hr1.out rfl
      have r1 : w1.cell? ⟨w.heap.size + 1, 1, none⟩ = some nilS := cell_heap hr1.out rfl
      have f0 : w1.frozen? ⟨w.heap.size + 1, 0, none⟩ = false := froz_heap hr1.out
      have f1 : w1.frozen? ⟨w.heap.size + 1, 1, none⟩ = false := froz_heap hr1.out
      clear b1 b0
      go_wp2_with fail
      refine bodyPost_ret (v := .tuple #[sts 0 nilS, .bool false]) (by simp [results, Try.results13, go_sem, r0, r1, f0, f1]) rfl ⟨nilS, rfl, OwnM.empty _ (Nat.le_refl _), ?_⟩
      exact (hbb.out.setCell (Nat.le_succ _) _).setCell (Nat.le_succ _) _
    · by_cases h2 : xs.length = m.length
      · have HAl : Hid (xs.all (fun x => inB x 0 ((m.length : Int) - 1)) = false) := Lib.hid (by
          cases h3 : xs.all (fun x => inB x 0 ((m.length : Int) - 1))
          · rfl
          · exact absurd ⟨h1, h2, h3⟩ good)
        have hw1 : IntKind.i64.wrap ((m.length : Int) - 1) = (m.length : Int) - 1 := IntWalk.i64_in _ (by omega)
        clear good
        have hbl := Lib.hid (bel_alloc (bel_alloc (Below.refl _ w) (.cells #[.int .i64 lim, .slice A m.length cap] 47)) (.cells #[.int .i64 0, nilS] 47))
        have H := Lib.hid (h.below hbl.out hB)
        have hx2 := hx.below hbl.out hB'
        rw [h2] at hx2 ⊢
        have HX := Lib.hid hx2
        clear hx2
        have hsz := hbl.out.size
        have hres : Hid (((w.alloc (.cells #[.int .i64 lim, .slice A m.length cap] 47)).alloc (.cells #[.int .i64 0, nilS] 47)).heap[w.heap.size + 1]? = some (.cells #[.int .i64 0, nilS] 47)) := Lib.hid (heap_alloc2_new w _ _)
        have hbox : Hid (((w.alloc (.cells #[.int .i64 lim, .slice A m.length cap] 47)).alloc (.cells #[.int .i64 0, nilS] 47)).heap[w.heap.size]? = some (.cells #[.int .i64 lim, .slice A m.length cap] 47)) := Lib.hid ((heap_alloc_old _ _ (by rw [← size1]; omega)).trans (heap_alloc_new w _))
        have hs2 : w.heap.size + 1 < ((w.alloc (.cells #[.int .i64 lim, .slice A m.length cap] 47)).alloc (.cells #[.int .i64 0, nilS] 47)).heap.size := by show _ < ((w.heap.push _).push _).size; simp
        have b0 : ((w.alloc (.cells #[.int .i64 lim, .slice A m.length cap] 47)).alloc (.cells #[.int .i64 0, nilS] 47)).cell? ⟨w.heap.size, 1, none⟩ = some (.slice A m.length cap) := cell_heap hbox.out rfl
        go_enter Try.func13, Try.ntmps13
        go_wp2_with fail
        refine (saGood_any lim m _ _ _ H.out (Nat.le_trans hB hsz)).mono ?_
        rw [h1]
        rintro e w1 ⟨rfl, b1⟩
        have hbx1 := Lib.hid ((b1.block w.heap.size (by omega)).trans hbox.out)
        have hr1 := Lib.hid ((b1.block (w.heap.size + 1) hs2).trans hres.out)
        have hbb := Lib.hid (bel_trans hbl.out b1)
        have HX1 := Lib.hid (HX.out.below b1 (Nat.le_trans hB' hsz))
        have p0 : w1.cell? ⟨w.heap.size, 0, none⟩ = some (.int .i64 lim) := cell_heap hbx1.out rfl
        have p1 : w1.cell? ⟨w.heap.size, 1, none⟩ = some (.slice A m.length cap) := cell_heap hbx1.out rfl
        have r0 : w1.cell? ⟨w.heap.size + 1, 0, none⟩ = some (.int .i64 0) := cell_heap hr1.out rfl
        have r1 : w1.cell? ⟨w.heap.size + 1, 1, none⟩ = some nilS := cell_heap hr1.out rfl
        have f0 : w1.frozen? ⟨w.heap.size + 1, 0, none⟩ = false := froz_heap hr1.out
        have f1 : w1.frozen? ⟨w.heap.size + 1, 1, none⟩ = false := froz_heap hr1.out
        clear b1 b0
        go_wp2_with fail
        refine (l1All_any xs _ B' _ _ _ HX1.out).mono ?_
        rw [HAl.out]
        rintro e w' ⟨rfl, rfl⟩
        go_wp2_with fail
        refine bodyPost_ret (v := .tuple #[sts 0 nilS, .bool false]) (by simp [results, Try.results13, go_sem, r0, r1, f0, f1]) rfl ⟨nilS, rfl, OwnM.empty _ (Nat.le_refl _), ?_⟩
        exact (hbb.out.setCell (Nat.le_succ _) _).setCell (Nat.le_succ _) _
      · have hne : ¬ (xs.length : Int) = (m.length : Int) := by omega
        have hne2 : ((xs.length : Int) == (m.length : Int)) = false := by simp; omega
        clear good
        have hbl := Lib.hid (bel_alloc (bel_alloc (Below.refl _ w) (.cells #[.int .i64 lim, .slice A m.length cap] 47)) (.cells #[.int .i64 0, nilS] 47))
        have H := Lib.hid (h.below hbl.out hB)
        have hx2 := hx.below hbl.out hB'
        have HX := Lib.hid hx2
        clear hx2
        have hsz := hbl.out.size
        have hres : Hid (((w.alloc (.cells #[.int .i64 lim, .slice A m.length cap] 47)).alloc (.cells #[.int .i64 0, nilS] 47)).heap[w.heap.size + 1]? = some (.cells #[.int .i64 0, nilS] 47)) := Lib.hid (heap_alloc2_new w _ _)
        have hbox : Hid (((w.alloc (.cells #[.int .i64 lim, .slice A m.length cap] 47)).alloc (.cells #[.int .i64 0, nilS] 47)).heap[w.heap.size]? = some (.cells #[.int .i64 lim, .slice A m.length cap] 47)) := Lib.hid ((heap_alloc_old _ _ (by rw [← size1]; omega)).trans (heap_alloc_new w _))
        have hs2 : w.heap.size + 1 < ((w.alloc (.cells #[.int .i64 lim, .slice A m.length cap] 47)).alloc (.cells #[.int .i64 0, nilS] 47)).heap.size := by show _ < ((w.heap.push _).push _).size; simp
        have b0 : ((w.alloc (.cells #[.int .i64 lim, .slice A m.length cap] 47)).alloc (.cells #[.int .i64 0, nilS] 47)).cell? ⟨w.heap.size, 1, none⟩ = some (.slice A m.length cap) := cell_heap hbox.out rfl
        go_enter Try.func13, Try.ntmps13
        go_wp2_with fail
        refine (saGood_any lim m _ _ _ H.out (Nat.le_trans hB hsz)).mono ?_
        rw [h1]
        rintro e w1 ⟨rfl, b1⟩
        have hbx1 := Lib.hid ((b1.block w.heap.size (by omega)).trans hbox.out)
        have hr1 := Lib.hid ((b1.block (w.heap.size + 1) hs2).trans hres.out)
        have hbb := Lib.hid (bel_trans hbl.out b1)
        have HX1 := Lib.hid (HX.out.below b1 (Nat.le_trans hB' hsz))
        have p0 : w1.cell? ⟨w.heap.size, 0, none⟩ = some (.int .i64 lim) := cell_heap hbx1.out rfl
        have p1 : w1.cell? ⟨w.heap.size, 1, none⟩ = some (.slice A m.length cap) := cell_heap hbx1.out rfl
        have r0 : w1.cell? ⟨w.heap.size + 1, 0, none⟩ = some (.int .i64 0) := cell_heap hr1.out rfl
        have r1 : w1.cell? ⟨w.heap.size + 1, 1, none⟩ = some nilS := cell_heap hr1.out rfl
        have f0 : w1.frozen? ⟨w.heap.size + 1, 0, none⟩ = false := froz_heap hr1.out
        have f1 : w1.frozen? ⟨w.heap.size + 1, 1, none⟩ = false := froz_heap hr1.out
        clear b1 b0
        go_wp2_with fail
        refine bodyPost_ret (v := .tuple #[sts 0 nilS, .bool false]) (by simp [results, Try.results13, go_sem, r0, r1, f0, f1]) rfl ⟨nilS, rfl, OwnM.empty _ (Nat.le_refl _), ?_⟩
        exact (hbb.out.setCell (Nat.le_succ _) _).setCell (Nat.le_succ _) _
end Go.Proofs.Ytcfafgdgmkiibaa
