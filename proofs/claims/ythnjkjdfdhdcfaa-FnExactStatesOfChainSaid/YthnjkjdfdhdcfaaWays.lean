/- CountWays, StatesAfter: the contracts of the program and of its model. -/
import Derived.Test.YthnjkjdfdhdcfaaSaA
namespace Go.Proofs.Ythnjkjdfdhdcfaa
open Go.ChangeShapes Go.WideShapes Go.ChangeAt Go.RowKit
set_option linter.unusedVariables false

theorem atM_out {lim : Int} {m : List (List Int)} (h : Good lim m) {i j : Nat} (hj : m.length ≤ j) : atM m i j = 0 := by
  unfold atM
  rcases Nat.lt_or_ge i m.length with hi | hi
  · rw [getD_out _ j _ (by rw [h.row i hi]; exact hj)]
  · rw [getD_out m i _ hi]; simp
theorem gridM_at (m : List (List Int)) (i j : Nat) (hj : j < 5) : gridM m (i * 5 + j) = atM m i j := by unfold gridM; congr 1 <;> omega
theorem rowF_grid {lim : Int} {m : List (List Int)} (h : Good lim m) : rowF (gridM m) = wayM false m := by
  funext i j
  unfold rowF wayM
  by_cases hj : j < 5
  · rw [if_pos hj, gridM_at m i j hj]; simp
  · rw [if_neg hj]
    have := h.five
    simp [atM_out h (i := i) (j := j) (by omega)]
theorem rowF_cnt {lim : Int} {m : List (List Int)} (h : Good lim m) : rowF (cntG (gridM m)) = wayM true m := by
  funext i j
  unfold rowF wayM cntG
  by_cases hj : j < 5
  · rw [if_pos hj, gridM_at m i j hj]
    have := (h.num i j).1
    unfold one sig
    simp
    split <;> split <;> omega
  · rw [if_neg hj]
    have := h.five
    simp [atM_out h (i := i) (j := j) (by omega), sig]
theorem way_out {lim : Int} {m : List (List Int)} (h : Good lim m) (ways : Bool) (i j : Nat) (hj : m.length ≤ j) : wayM ways m i j = 0 := by
  unfold wayM sig
  rw [atM_out h hj]
  cases ways <;> simp
theorem way_aft {lim : Int} {m : List (List Int)} (h : Good lim m) (ways : Bool) (frm n : Nat) (hn : n ≤ 8) : ∀ k j, k ≤ n → 0 ≤ aft (wayM ways m) m.length frm k j ∧ aft (wayM ways m) m.length frm k j ≤ 10000000000000000 := by
  intro k j hk
  obtain ⟨a, b⟩ := aft_in (wayM ways m) m.length frm h.five (wayM_in h ways) k j
  have := fifty k (by omega)
  exact ⟨a, by omega⟩
theorem grid_col {lim : Int} {m : List (List Int)} (h : Good lim m) (q : Nat) (hq : m.length ≤ q % 5) : gridM m q = 0 := by
  unfold gridM
  exact atM_out h hq
theorem grid_row {lim : Int} {m : List (List Int)} (h : Good lim m) (q : Nat) (hq : m.length ≤ q / 5) : gridM m q = 0 := by
  unfold gridM atM
  rw [getD_out m _ _ hq]; simp

theorem idx_row (h : Nat → Int) (w : World) : ∀ j : Nat, j < 5 → (Instr.index 68 (.agg (rowC h)) (.int .i64 (j : Int))).run Try.prog w = .ok (.int .i64 (h j)) w := by
  apply cases5 <;> kernel_rfl

def ansWays (lim : Int) (m : List (List Int)) (f t n : Int) : Value :=
  if ask2 lim m f t && inB n 0 8 then .tuple #[.int .i64 (aft (wayM true m) m.length f.toNat n.toNat t.toNat), .bool true] else .tuple #[.int .i64 0, .bool false]
theorem ansWays_form (lim : Int) (m : List (List Int)) (f t n : Int) : ∃ (x : Int) (o : Bool), ansWays lim m f t n = .tuple #[.int .i64 x, .bool o] := by
  unfold ansWays
  split
  · exact ⟨_, _, rfl⟩
  · exact ⟨_, _, rfl⟩

set_option maxRecDepth 100000 in
set_option maxHeartbeats 1600000 in
theorem specWays_any (lim : Int) (m : List (List Int)) (v : Value) (B : Nat) (f t n : Int) (w : World) (h : RdM w B v m) (hB : B ≤ w.heap.size) :
    Calls Try.prog 56 #[sts lim v, .int .i64 f, .int .i64 t, .int .i64 n] w fun e w' => e = .returned (ansWays lim m f t n) ∧ Below w.heap.size w w' := by
  obtain ⟨A, cap, rfl, l0, m0⟩ := h.form
  have hbl := bel_alloc (Below.refl _ w) (.cells #[.int .i64 lim, .slice A m.length cap] 27)
  have H := Lib.hid (h.below hbl hB)
  have hBs := Nat.le_trans hB hbl.size
  have bx := Lib.hid (Box2.new w (.int .i64 lim) (.slice A m.length cap) 27)
  clear h
  cases h1 : ask2 lim m f t with
  | false =>
    rw [show ansWays lim m f t n = .tuple #[.int .i64 0, .bool false] from by simp [ansWays, h1]]
    have H1 := Lib.hid h1
    clear h1
    go_enter Try.func56, Try.ntmps56
    go_wp2_with fail
    refine (saAsked_any lim m _ _ f t _ H.out hBs).mono ?_
    rw [H1.out]
    rintro e w1 ⟨rfl, b1⟩
    go_wp2_with fail
    go_ret2
    exact ⟨rfl, bel_trans hbl b1⟩
  | true =>
    cases h2 : inB n 0 8 with
    | false =>
      rw [show ansWays lim m f t n = .tuple #[.int .i64 0, .bool false] from by simp [ansWays, h2]]
      have H1 := Lib.hid h1
      have H2 := Lib.hid h2
      clear h1 h2
      go_enter Try.func56, Try.ntmps56
      go_wp2_with fail
      refine (saAsked_any lim m _ _ f t _ H.out hBs).mono ?_
      rw [H1.out]
      rintro e w1 ⟨rfl, b1⟩
      go_wp2_with fail
      refine (l1In_any _ _ _ _).mono ?_
      rw [H2.out]
      rintro e w' ⟨rfl, rfl⟩
      go_wp2_with fail
      go_ret2
      exact ⟨rfl, bel_trans hbl b1⟩
    | true =>
      rw [show ansWays lim m f t n = .tuple #[.int .i64 (aft (wayM true m) m.length f.toNat n.toNat t.toNat), .bool true] from by simp [ansWays, h1, h2]]
      have H1 := Lib.hid h1
      have H2 := Lib.hid h2
      obtain ⟨hg, i, j, rfl, rfl, hi, hj⟩ := ask2_good h1
      obtain ⟨n0, n8⟩ := (inB_iff _ _ _).1 h2
      obtain ⟨K, rfl⟩ := Int.eq_ofNat_of_zero_le n0
      have hK : K ≤ 8 := by omega
      have HG := Lib.hid hg
      clear h1 h2 hg n0 n8
      rw [show (i : Int).toNat = i from rfl, show (j : Int).toNat = j from rfl, show (K : Int).toNat = K from rfl]
      go_enter Try.func56, Try.ntmps56
      go_wp2_with fail
      refine (saAsked_any lim m _ _ i j _ H.out hBs).mono ?_
      rw [H1.out]
      rintro e w1 ⟨rfl, b1⟩
      obtain ⟨c0, c1, c2⟩ := bx.out.keep b1
      go_wp2_with fail
      refine (l1In_any _ _ _ _).mono ?_
      rw [H2.out]
      rintro e w' ⟨rfl, rfl⟩
      go_wp2_with fail
      refine (saAfter_any lim m _ _ i K true _ (H.out.below b1 hBs) (Nat.le_trans hBs b1.size) HG.out hi hK).mono ?_
      rintro e w2 ⟨u, rfl, hr, b2⟩
      obtain ⟨ad2, cap2, rfl, l2, m2⟩ := hr.rd.form
      obtain ⟨ad, rfl, _, e0⟩ := hr.rd.at_ (k := j) (by rw [rowL_len]; exact hj)
      rw [rowL_get _ hj] at e0
      rw [rowL_len] at l2
      rw [rowL_len]
      have k1 : (j : Int) < (m.length : Int) := by omega
      have b3 := bel_trans (bel_trans hbl b1) b2
      clear hr
      generalize hy : aft (wayM true m) m.length i K j = y at *
      have Hy := Lib.hid hy
      clear hy
      go_wp2_with fail
      go_ret2
      exact ⟨by rw [Hy.out]; rfl, b3⟩

set_option maxRecDepth 100000 in
set_option maxHeartbeats 1600000 in
theorem implWays_any (lim : Int) (m : List (List Int)) (v : Value) (B : Nat) (f t n : Int) (w : World) (h : RdM w B v m) (hB : B ≤ w.heap.size) :
    Calls Try.prog 57 #[sts lim v, .int .i64 f, .int .i64 t, .int .i64 n] w fun e w' => e = .returned (ansWays lim m f t n) ∧ Below w.heap.size w w' := by
  obtain ⟨A, cap, rfl, l0, m0⟩ := h.form
  have hbl := bel_alloc (bel_alloc (Below.refl _ w) (.cells #[.int .i64 lim, .slice A m.length cap] 27)) (.cells #[.int .i64 f, .int .i64 t] 3)
  have H := Lib.hid (h.below hbl hB)
  have hBs := Nat.le_trans hB hbl.size
  have hR := Lib.hid (rdI_two (w.alloc (.cells #[.int .i64 lim, .slice A m.length cap] 27)) f t _ (size1 w _))
  have hq := Lib.hid (ask2_askB lim m f t)
  obtain ⟨a, b, g, hm, hy⟩ := mvOf_form lim m
  have Hm := Lib.hid hm
  clear h hm
  have key : ∀ (c : Int), (c < 0 ∨ (0 ≤ c ∧ 8 < c)) ∨ (0 ≤ c ∧ c ≤ 8) := fun c => by omega
  cases h1 : ask2 lim m f t with
  | false =>
    rw [show ansWays lim m f t n = .tuple #[.int .i64 0, .bool false] from by simp [ansWays, h1]]
    have H1 := Lib.hid h1
    clear h1 hy key
    go_enter Try.func57, Try.ntmps57
    go_wp2_with fail
    refine (movesAt_any lim m _ _ [f, t] _ _ _ H.out hBs hR.out (Nat.le_refl _)).mono ?_
    unfold MvAtAns
    rw [hq.out, H1.out, Hm.out]
    rintro e w1 ⟨rfl, b1⟩
    go_wp2_with (first
      | (refine wpList_alloc_row rfl 72 rfl (mvC 0 0 zer) (mv_zero _) ?_)
      | (refine wpList_store_new (k := w1.heap.size) (c' := mvC a b g) rfl 72 (.tmp 10) (.tmp 18) rfl rfl ?_ ?_ mv_info rfl (mvC_one _ _ _) ?_; (· simp [Act.put, Act.eval]); (· simp [Act.put, Act.eval])))
    go_ret2
    exact ⟨rfl, bel_alloc (bel_trans hbl b1) _⟩
  | true =>
    rcases key n with (hn | ⟨hn, hn'⟩) | ⟨hn, hn'⟩
    · rw [show ansWays lim m f t n = .tuple #[.int .i64 0, .bool false] from by simp [ansWays, show inB n 0 8 = false from by simp [inB]; omega]]
      have hd : decide (n < 0) = true := by simpa using hn
      have H1 := Lib.hid h1
      clear h1 hy key
      go_enter Try.func57, Try.ntmps57
      go_wp2_with fail
      refine (movesAt_any lim m _ _ [f, t] _ _ _ H.out hBs hR.out (Nat.le_refl _)).mono ?_
      unfold MvAtAns
      rw [hq.out, H1.out, Hm.out]
      rintro e w1 ⟨rfl, b1⟩
      go_wp2_with (first
        | (refine wpList_alloc_row rfl 72 rfl (mvC 0 0 zer) (mv_zero _) ?_)
        | (refine wpList_store_new (k := w1.heap.size) (c' := mvC a b g) rfl 72 (.tmp 10) (.tmp 18) rfl rfl ?_ ?_ mv_info rfl (mvC_one _ _ _) ?_; (· simp [Act.put, Act.eval]); (· simp [Act.put, Act.eval])))
      go_ret2
      exact ⟨rfl, bel_alloc (bel_trans hbl b1) _⟩
    · rw [show ansWays lim m f t n = .tuple #[.int .i64 0, .bool false] from by simp [ansWays, show inB n 0 8 = false from by simp [inB]; omega]]
      have hd : decide (n < 0) = false := by simp; omega
      have hd2 : decide (8 < n) = true := by simp; omega
      have H1 := Lib.hid h1
      clear h1 hy key
      go_enter Try.func57, Try.ntmps57
      go_wp2_with fail
      refine (movesAt_any lim m _ _ [f, t] _ _ _ H.out hBs hR.out (Nat.le_refl _)).mono ?_
      unfold MvAtAns
      rw [hq.out, H1.out, Hm.out]
      rintro e w1 ⟨rfl, b1⟩
      go_wp2_with (first
        | (refine wpList_alloc_row rfl 72 rfl (mvC 0 0 zer) (mv_zero _) ?_)
        | (refine wpList_store_new (k := w1.heap.size) (c' := mvC a b g) rfl 72 (.tmp 10) (.tmp 18) rfl rfl ?_ ?_ mv_info rfl (mvC_one _ _ _) ?_; (· simp [Act.put, Act.eval]); (· simp [Act.put, Act.eval])))
      go_ret2
      exact ⟨rfl, bel_alloc (bel_trans hbl b1) _⟩
    · rw [show ansWays lim m f t n = .tuple #[.int .i64 (aft (wayM true m) m.length f.toNat n.toNat t.toNat), .bool true] from by simp [ansWays, h1, show inB n 0 8 = true from by simp [inB]; omega]]
      have H1 := Lib.hid h1
      have hs : saG lim m = true := by simp only [ask2, Bool.and_eq_true] at h1; exact h1.1
      obtain ⟨rfl, rfl, rfl⟩ := hy hs
      obtain ⟨hg, i, j, rfl, rfl, hi, hj⟩ := ask2_good h1
      obtain ⟨K, rfl⟩ := Int.eq_ofNat_of_zero_le hn
      have hK : K ≤ 8 := by omega
      have hd : decide ((K : Int) < 0) = false := by simp
      have hd2 : decide ((8 : Int) < (K : Int)) = false := by simp; omega
      have HG := Lib.hid hg
      have n5 := hg.five
      have hF := Lib.hid (rowF_cnt hg)
      clear h1 hg hs hy key hn hn'
      rw [show (i : Int).toNat = i from rfl, show (j : Int).toNat = j from rfl, show (K : Int).toNat = K from rfl]
      have k2 : (j : Int) < 5 := by omega
      have e2 := fun w => idx_row (aft (wayM true m) m.length i K) w j (by omega)
      generalize hy : aft (wayM true m) m.length i K j = y at *
      have Hy := Lib.hid hy
      clear hy
      go_enter Try.func57, Try.ntmps57
      go_wp2_with fail
      refine (movesAt_any a m _ _ [(i : Int), (j : Int)] _ _ _ H.out hBs hR.out (Nat.le_refl _)).mono ?_
      unfold MvAtAns
      rw [hq.out, H1.out, Hm.out]
      rintro e w1 ⟨rfl, b1⟩
      go_wp2_with (first
        | (refine wpList_alloc_row rfl 72 rfl (mvC 0 0 zer) (mv_zero _) ?_)
        | (refine wpList_store_new (k := w1.heap.size) (c' := mvC a m.length (gridM m)) rfl 72 (.tmp 10) (.tmp 18) rfl rfl ?_ ?_ mv_info rfl (mvC_one _ _ _) ?_; (· simp [Act.put, Act.eval]); (· simp [Act.put, Act.eval]))
        | (refine wpList_load_row rfl 72 (.tmp 10) rfl w1.heap.size (by simp [Act.put, Act.eval]) _ (mvC a m.length (gridM m)) _ _ (heap_alloc_new _ _) Try.underlying72 rfl mv_info ?_))
      refine (counted_any a m.length (gridM m) _ n5 (grid_col HG.out) (grid_row HG.out)).mono ?_
      rintro e w2 ⟨rfl, b2⟩
      go_wp2_with fail
      refine (after_any a m.length (cntG (gridM m)) i K _ n5 (by rw [hF.out]; exact wayM_in HG.out true) (by rw [hF.out]; exact way_out HG.out true) hi (by omega) (by rw [hF.out]; exact way_aft HG.out true i K hK)).mono ?_
      rw [hF.out]
      rintro e w3 ⟨rfl, b3⟩
      have b4 := bel_trans (bel_trans (bel_alloc (bel_trans hbl b1) _) b2) b3
      go_wp2_with fail
      go_ret2
      exact ⟨by first | rfl | (rw [Hy.out]; rfl), b4⟩
end Go.Proofs.Ythnjkjdfdhdcfaa
