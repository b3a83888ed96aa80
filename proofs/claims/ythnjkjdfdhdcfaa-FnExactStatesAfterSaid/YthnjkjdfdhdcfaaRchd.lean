/- ReachedStates: the contracts of the program and of its model. -/
import Derived.Test.YthnjkjdfdhdcfaaFar
namespace Go.Proofs.Ythnjkjdfdhdcfaa
open Go.ChangeShapes Go.WideShapes Go.ChangeAt Go.RowKit
set_option linter.unusedVariables false

theorem ask1_ask2 (lim : Int) (m : List (List Int)) (f : Int) : (saG lim m && askB m.length [f]) = ask2 lim m f f := by simp [ask2, askB]
theorem selK_stop {p : Nat → Bool} {n M : Nat} (h : ∀ k, n ≤ k → k < M → p k = false) (hn : n ≤ M) : selK p M = selK p n := by
  induction M with
  | zero => have : n = 0 := by omega
            rw [this]
  | succ M ih =>
    rcases Nat.lt_or_ge M n with h1 | h1
    · have : n = M + 1 := by omega
      rw [this]
    · rw [selK_no (h M h1 (by omega))]
      exact ih (fun k a b => h k a (by omega)) h1
def rowM (h : Nat → Bool) : Array Value := #[.bool (h 0), .bool (h 1), .bool (h 2), .bool (h 3), .bool (h 4)]
theorem idx_mar (r : Nat → Bool) (w : World) : ∀ i : Nat, i < 5 → (Instr.index 87 (.agg (marC r)) (.int .i64 (i : Int))).run Try.prog w = .ok (.agg (rowM fun j => r (i * 5 + j))) w := by
  apply cases5 <;> kernel_rfl
theorem idx_rowM (h : Nat → Bool) (w : World) : ∀ i : Nat, i < 5 → (Instr.index 86 (.agg (rowM h)) (.int .i64 (i : Int))).run Try.prog w = .ok (.bool (h i)) w := by
  apply cases5 <;> kernel_rfl

def rchB (m : List (List Int)) (f : Nat) (k : Nat) : Bool := thr (edgeB m) m.length f k
def ansRch (lim : Int) (m : List (List Int)) (f : Int) : List Int := if ask2 lim m f f then selK (rchB m f.toNat) m.length else []
theorem ansRch_len (lim : Int) (m : List (List Int)) (f : Int) : (ansRch lim m f).length ≤ 1000 := by
  unfold ansRch
  split
  · rename_i h
    have := selK_len (rchB m f.toNat) m.length
    have := (ask2_good h).1.five
    omega
  · simp

set_option maxRecDepth 100000 in
set_option maxHeartbeats 3200000 in
theorem specRch_any (lim : Int) (m : List (List Int)) (v : Value) (B : Nat) (f : Int) (w : World) (h : RdM w B v m) (hB : B ≤ w.heap.size) :
    Calls Try.prog 33 #[sts lim v, .int .i64 f] w (RowAns (ansRch lim m f) (ask2 lim m f f) w) := by
  obtain ⟨A, cap, rfl, l0, m0⟩ := h.form
  unfold maxLen at m0
  have hbl := bel_alloc (Below.refl _ w) (.cells #[.int .i64 lim, .slice A m.length cap] 27)
  have H := Lib.hid (h.below hbl hB)
  have hBs := Nat.le_trans hB hbl.size
  have bx := Lib.hid (Box2.new w (.int .i64 lim) (.slice A m.length cap) 27)
  clear h
  cases h1 : ask2 lim m f f with
  | false =>
    rw [show ansRch lim m f = [] from by simp [ansRch, h1]]
    have H1 := Lib.hid h1
    clear h1
    go_enter Try.func33, Try.ntmps33
    go_wp2_with fail
    refine (saAsked_any lim m _ _ f f _ H.out hBs).mono ?_
    rw [H1.out]
    rintro e w1 ⟨rfl, b1⟩
    go_wp2_with fail
    go_ret2
    exact ⟨_, rfl, IRow.nil _ _, bel_trans hbl b1⟩
  | true =>
    obtain ⟨hg, i, j, rfl, hij, hi, hj⟩ := ask2_good h1
    clear hij hj j
    rw [show ansRch lim m i = selK (rchB m i) m.length from by simp [ansRch, h1]]
    have H1 := Lib.hid h1
    have n5 := hg.five
    have HG := Lib.hid hg
    clear h1 hg
    go_enter Try.func33, Try.ntmps33
    go_wp2_with fail
    refine (saAsked_any lim m _ _ i i _ H.out hBs).mono ?_
    rw [H1.out]
    rintro e w1 ⟨rfl, b1⟩
    obtain ⟨c0, c1, c2⟩ := bx.out.keep b1
    go_wp2_with fail
    refine (saFar_any lim m _ _ i _ (H.out.below b1 hBs) (Nat.le_trans hBs b1.size) HG.out hi).mono ?_
    rintro e w2 ⟨u, far, rfl, hr, hfar, b2⟩
    have hrd := hr.rd
    obtain ⟨A2, cap2, rfl, l2, m2⟩ := hrd.form
    have HR := Lib.hid hrd
    have HF := Lib.hid hfar.2
    have hfl := hfar.1
    have HFL := Lib.hid hfl
    rw [hfl] at l2 ⊢
    clear hr hrd hfar hfl
    have b3 := bel_trans (bel_trans hbl b1) b2
    go_wp2_with fail
    obtain ⟨Bz, hBz⟩ : ∃ n, n = w2.heap.size := ⟨_, rfl⟩
    rw [← hBz] at HR
    have hbz : w.heap.size ≤ Bz := by rw [hBz]; exact b3.size
    have HBz := Lib.hid hBz
    clear hBz
    go_loopw [6, 18] (fun u x wr => ∃ k : Nat, k ≤ m.length ∧ x = .int .i64 k ∧ Hid (IRow wr Bz u (selK (rchB m i) k)) ∧ Below Bz w2 wr) (fun _ x _ => m.length - (intOf x).toNat)
    case atStart => exact ⟨0, by omega, rfl, IRow.nil _ _, Below.refl _ _⟩
    case round =>
      obtain ⟨k, hk, rfl, hI, hb⟩ := hrel
      obtain ⟨wa, rfl⟩ : ∃ wa : World, wa = wr := ⟨_, rfl⟩
      have hsa : Bz ≤ wa.heap.size := by have := hb.size; rw [← HBz.out] at this; exact this
      by_cases hlt : k < m.length
      · obtain ⟨ad, rfl, _, e0⟩ := (HR.out.below hb (Nat.le_refl _)).at_ (k := k) (by rw [HFL.out]; exact hlt)
        have hl := selK_len (rchB m i) k
        obtain ⟨_, hd⟩ := HF.out k hlt
        cases hq : rchB m i k with
        | true =>
          have hS := Lib.hid (selK_yes hq)
          rw [show thr (edgeB m) m.length i k = true from hq] at hd
          generalize far.getD k 0 = y at *
          have hd2 : 0 ≤ y := by simpa using hd
          clear hq hd
          go_wp2_with (at_builtin; refine wpList_push1 rfl (.tmp 25) (.tmp 27) rfl _ _ _ hI.out (by omega) hsa (k : Int) rfl rfl ?_)
          intro v' w3 hI3 hb3
          go_wp2_with fail
          exact ⟨⟨k + 1, by omega, by go_num, by rw [hS.out]; exact hI3, hb.trans hb3⟩, by simp [intOf]; omega⟩
        | false =>
          have hS := Lib.hid (selK_no hq)
          rw [show thr (edgeB m) m.length i k = false from hq] at hd
          generalize far.getD k 0 = y at *
          clear hq
          have hd2 : ¬ 0 ≤ y := by simpa using hd
          go_wp2_with fail
          exact ⟨⟨k + 1, by omega, by go_num, by rw [hS.out]; exact hI, hb⟩, by simp [intOf]; omega⟩
      · obtain rfl : k = m.length := by omega
        go_wp2_with fail
        go_ret2
        exact ⟨_, rfl, hI.out.mono hbz, bel_trans b3 (HBz.out ▸ hb)⟩

set_option maxRecDepth 100000 in
set_option maxHeartbeats 3200000 in
theorem implRch_any (lim : Int) (m : List (List Int)) (v : Value) (B : Nat) (f : Int) (w : World) (h : RdM w B v m) (hB : B ≤ w.heap.size) :
    Calls Try.prog 34 #[sts lim v, .int .i64 f] w (RowAns (ansRch lim m f) (ask2 lim m f f) w) := by
  obtain ⟨A, cap, rfl, l0, m0⟩ := h.form
  have hbl := bel_alloc (bel_alloc (Below.refl _ w) (.cells #[.int .i64 lim, .slice A m.length cap] 27)) (.cells #[.int .i64 f] 3)
  have H := Lib.hid (h.below hbl hB)
  have hBs := Nat.le_trans hB hbl.size
  have hR := Lib.hid (rdI_one (w.alloc (.cells #[.int .i64 lim, .slice A m.length cap] 27)) f _ (size1 w _))
  have hqq := Lib.hid (ask1_ask2 lim m f)
  obtain ⟨a, b, g, hm, hy⟩ := mvOf_form lim m
  have Hm := Lib.hid hm
  clear h hm
  cases h1 : ask2 lim m f f with
  | false =>
    rw [show ansRch lim m f = [] from by simp [ansRch, h1]]
    have H1 := Lib.hid h1
    clear h1 hy
    go_enter Try.func34, Try.ntmps34
    go_wp2_with fail
    refine (movesAt_any lim m _ _ [f] _ _ _ H.out hBs hR.out (Nat.le_refl _)).mono ?_
    unfold MvAtAns
    rw [hqq.out, H1.out, Hm.out]
    rintro e w1 ⟨rfl, b1⟩
    go_wp2_with (first
      | (refine wpList_alloc_row rfl 72 rfl (mvC 0 0 zer) (mv_zero _) ?_)
      | (refine wpList_store_new (k := w1.heap.size) (c' := mvC a b g) rfl 72 (.tmp 6) (.tmp 16) rfl rfl ?_ ?_ mv_info rfl (mvC_one _ _ _) ?_; (· simp [Act.put, Act.eval]); (· simp [Act.put, Act.eval])))
    go_ret2
    exact ⟨_, rfl, IRow.nil _ _, bel_alloc (bel_trans hbl b1) _⟩
  | true =>
    have hs : saG lim m = true := by simp only [ask2, Bool.and_eq_true] at h1; exact h1.1
    obtain ⟨rfl, rfl, rfl⟩ := hy hs
    obtain ⟨hg, i, j, rfl, hij, hi, hj⟩ := ask2_good h1
    clear hij hj j
    have n5 := hg.five
    have hstop : selK (fun j => reachG m m.length m.length (i * 5 + j)) 5 = selK (rchB m i) m.length := by
      rw [selK_stop (n := m.length) (fun k h1 h2 => ?_) n5]
      · exact selK_congr _ fun k hk => reachG_at _ _ _ _ _ hi hk (by omega)
      · show reachG m m.length m.length (i * 5 + k) = false
        unfold reachG
        rw [decide_eq_false (show ¬ (i * 5 + k) % 5 < m.length by omega)]
        simp
    rw [show ansRch a m i = selK (fun j => reachG m m.length m.length (i * 5 + j)) 5 from by rw [hstop]; simp [ansRch, h1]]
    have H1 := Lib.hid h1
    have i1 := fun w => idx_mar (reachG m m.length m.length) w i (by omega)
    clear h1 hy hg hs hstop
    go_enter Try.func34, Try.ntmps34
    go_wp2_with fail
    refine (movesAt_any a m _ _ [(i : Int)] _ _ _ H.out hBs hR.out (Nat.le_refl _)).mono ?_
    unfold MvAtAns
    rw [hqq.out, H1.out, Hm.out]
    rintro e w1 ⟨rfl, b1⟩
    go_wp2_with (first
      | (refine wpList_alloc_row rfl 72 rfl (mvC 0 0 zer) (mv_zero _) ?_)
      | (refine wpList_store_new (k := w1.heap.size) (c' := mvC a m.length (gridM m)) rfl 72 (.tmp 6) (.tmp 16) rfl rfl ?_ ?_ mv_info rfl (mvC_one _ _ _) ?_; (· simp [Act.put, Act.eval]); (· simp [Act.put, Act.eval]))
      | (refine wpList_load_row rfl 72 (.tmp 6) rfl w1.heap.size (by simp [Act.put, Act.eval]) _ (mvC a m.length (gridM m)) _ _ (heap_alloc_new _ _) Try.underlying72 rfl mv_info ?_))
    refine (reached_any a m _ n5).mono ?_
    rintro e w2 ⟨rfl, b2⟩
    have b3 := bel_trans (bel_alloc (bel_trans hbl b1) _) b2
    generalize hh : (fun j => reachG m m.length m.length (i * 5 + j)) = p at *
    have Hp := Lib.hid hh
    clear hh
    go_wp2_with fail
    obtain ⟨Bz, hBz⟩ : ∃ n, n = w2.heap.size := ⟨_, rfl⟩
    have hbz : w.heap.size ≤ Bz := by rw [hBz]; exact b3.size
    have HBz := Lib.hid hBz
    clear hBz
    go_loopw [8, 24] (fun u x wr => ∃ k : Nat, k ≤ 5 ∧ x = .int .i64 k ∧ Hid (IRow wr Bz u (selK p k)) ∧ Below Bz w2 wr) (fun _ x _ => 5 - (intOf x).toNat)
    case atStart => exact ⟨0, by omega, rfl, IRow.nil _ _, Below.refl _ _⟩
    case round =>
      obtain ⟨k, hk, rfl, hI, hb⟩ := hrel
      obtain ⟨wa, rfl⟩ : ∃ wa : World, wa = wr := ⟨_, rfl⟩
      have hsa : Bz ≤ wa.heap.size := by have := hb.size; rw [← HBz.out] at this; exact this
      by_cases hlt : k < 5
      · have hl := selK_len p k
        have i2 := fun w => idx_rowM p w k hlt
        cases hq : p k with
        | true =>
          have hS := Lib.hid (selK_yes hq)
          simp only [hq] at i2
          clear hq
          go_wp2_with (at_builtin; refine wpList_push1 rfl (.tmp 29) (.tmp 31) rfl _ _ _ hI.out (by omega) hsa (k : Int) rfl rfl ?_)
          intro v' w3 hI3 hb3
          go_wp2_with fail
          exact ⟨⟨k + 1, by omega, by go_num, by rw [hS.out]; exact hI3, hb.trans hb3⟩, by simp [intOf]; omega⟩
        | false =>
          have hS := Lib.hid (selK_no hq)
          simp only [hq] at i2
          clear hq
          go_wp2_with fail
          exact ⟨⟨k + 1, by omega, by go_num, by rw [hS.out]; exact hI, hb⟩, by simp [intOf]; omega⟩
      · obtain rfl : k = 5 := by omega
        go_wp2_with fail
        go_ret2
        exact ⟨_, rfl, by rw [Hp.out]; exact hI.out.mono hbz, bel_trans b3 (HBz.out ▸ hb)⟩
end Go.Proofs.Ythnjkjdfdhdcfaa
