/- Classes of the model; LastingStates: the contracts of the program and of its model. -/
import Derived.Test.YthnjkjdfdhdcfaaRchd
namespace Go.Proofs.Ythnjkjdfdhdcfaa
open Go.ChangeShapes Go.WideShapes Go.ChangeAt Go.RowKit
set_option linter.unusedVariables false

/-- k is in the class of i. -/
def clsB (m : List (List Int)) (i k : Nat) : Bool := rchB m i k && rchB m k i
theorem clsB_yes {m : List (List Int)} {i k : Nat} (h1 : rchB m i k = true) (h2 : rchB m k i = true) : clsB m i k = true := by simp [clsB, h1, h2]
theorem clsB_no1 {m : List (List Int)} {i k : Nat} (h1 : rchB m i k = false) : clsB m i k = false := by simp [clsB, h1]
theorem clsB_no2 {m : List (List Int)} {i k : Nat} (h2 : rchB m k i = false) : clsB m i k = false := by simp [clsB, h2]
/-- No state outside of the class of i is reached from i. -/
def lstK (m : List (List Int)) (i : Nat) : Nat → Bool
  | 0 => true
  | k + 1 => lstK m i k && (!rchB m i k || rchB m k i)
def lstB (m : List (List Int)) (i : Nat) : Bool := lstK m i m.length
theorem sel_le (p q : Nat → Bool) (h : ∀ k, q k = true → p k = true) : ∀ n, (selK q n).length ≤ (selK p n).length
  | 0 => by simp [selK]
  | n + 1 => by
    have := sel_le p q h n
    unfold selK
    cases hq : q n
    · simp
      split
      · simp; omega
      · exact this
    · rw [h n hq]
      simp
      exact this
theorem lst_len (m : List (List Int)) (i : Nat) : ∀ n, decide ((selK (rchB m i) n).length = (selK (clsB m i) n).length) = lstK m i n
  | 0 => by simp [selK, lstK]
  | n + 1 => by
    have ih := lst_len m i n
    have hle := sel_le (rchB m i) (clsB m i) (fun k h => by unfold clsB at h; simp at h; exact h.1) n
    unfold lstK
    rw [← ih]
    cases h1 : rchB m i n
    · rw [selK_no h1, selK_no (clsB_no1 h1)]
      simp
    · cases h2 : rchB m n i
      · rw [selK_yes h1, selK_no (clsB_no2 h2)]
        simp
        omega
      · rw [selK_yes h1, selK_yes (clsB_yes h1 h2)]
        simp
theorem lst_int (m : List (List Int)) (i : Nat) : ((((selK (rchB m i) m.length).length : Nat) : Int) == (((selK (clsB m i) m.length).length : Nat) : Int)) = lstB m i := by
  have := lst_len m i m.length
  unfold lstB
  rw [← this, Bool.eq_iff_iff]
  simp only [beq_iff_eq, decide_eq_true_eq]
  omega

set_option maxRecDepth 100000 in
set_option maxHeartbeats 3200000 in
theorem saClass_any (lim : Int) (m : List (List Int)) (v : Value) (B : Nat) (i : Nat) (w : World) (h : RdM w B v m) (hB : B ≤ w.heap.size) (hg : Good lim m) (hi : i < m.length) :
    Calls Try.prog 82 #[sts lim v, .int .i64 i] w (RowOne (selK (clsB m i) m.length) w) := by
  obtain ⟨A, cap, rfl, l0, m0⟩ := h.form
  have hbl := bel_alloc (Below.refl _ w) (.cells #[.int .i64 lim, .slice A m.length cap] 27)
  have H := Lib.hid (h.below hbl hB)
  have hBs := Nat.le_trans hB hbl.size
  have bx := Lib.hid (Box2.new w (.int .i64 lim) (.slice A m.length cap) 27)
  have n5 := hg.five
  have HG := Lib.hid hg
  clear h hg
  go_enter Try.func82, Try.ntmps82
  go_wp2_with fail
  refine (saFar_any lim m _ _ i _ H.out hBs HG.out hi).mono ?_
  rintro e w2 ⟨u, far, rfl, hr, hfar, b2⟩
  have hrd := hr.rd
  obtain ⟨A2, cap2, rfl, l2, m2⟩ := hrd.form
  have HR := Lib.hid hrd
  have HF := Lib.hid hfar.2
  have hfl := hfar.1
  have HFL := Lib.hid hfl
  rw [hfl] at l2 ⊢
  have H2 := Lib.hid (H.out.below b2 hBs)
  have hB2 := Nat.le_trans hBs b2.size
  have bx2 := Lib.hid (bx.out.keep b2)
  clear hr hrd hfar hfl
  have b3 := bel_trans hbl b2
  go_wp2_with fail
  obtain ⟨Bz, hBz⟩ : ∃ n, n = w2.heap.size := ⟨_, rfl⟩
  rw [← hBz] at HR hB2
  have hbz : w.heap.size ≤ Bz := by rw [hBz]; exact b3.size
  have HBz := Lib.hid hBz
  clear hBz
  go_loopw [5, 12] (fun u x wr => ∃ k : Nat, k ≤ m.length ∧ x = .int .i64 k ∧ Hid (IRow wr Bz u (selK (clsB m i) k)) ∧ Below Bz w2 wr) (fun _ x _ => m.length - (intOf x).toNat)
  case atStart => exact ⟨0, by omega, rfl, IRow.nil _ _, Below.refl _ _⟩
  case round =>
    obtain ⟨k, hk, rfl, hI, hb⟩ := hrel
    obtain ⟨wa, rfl⟩ : ∃ wa : World, wa = wr := ⟨_, rfl⟩
    have hsa : Bz ≤ wa.heap.size := by have := hb.size; rw [← HBz.out] at this; exact this
    by_cases hlt : k < m.length
    · obtain ⟨ad, rfl, _, e0⟩ := (HR.out.below hb (Nat.le_refl _)).at_ (k := k) (by rw [HFL.out]; exact hlt)
      have hl := selK_len (clsB m i) k
      obtain ⟨_, hd⟩ := HF.out k hlt
      cases hq : rchB m i k with
      | true =>
        rw [show thr (edgeB m) m.length i k = true from hq] at hd
        generalize far.getD k 0 = y at *
        have hd2 : decide (0 ≤ y) = true := hd
        have Hq := Lib.hid hq
        clear hq hd
        obtain ⟨c0, c1, c2⟩ := bx2.out.keep (HBz.out ▸ hb)
        go_wp2_with fail
        refine (saFar_any lim m _ _ k _ (H2.out.below hb (by omega)) (by omega) HG.out hlt).mono ?_
        rintro e w4 ⟨u4, far4, rfl, hr4, hfar4, b4⟩
        obtain ⟨A4, cap4, rfl, l4, m4⟩ := hr4.rd.form
        obtain ⟨ad4, rfl, _, e4⟩ := hr4.rd.at_ (k := i) (by rw [hfar4.1]; exact hi)
        obtain ⟨_, hd4⟩ := hfar4.2 i hi
        have hfl4 := hfar4.1
        rw [hfl4] at l4 ⊢
        have hi2 : (i : Int) < (m.length : Int) := by omega
        have hI4 := Lib.hid (hI.out.below b4)
        have hb4 := hb.trans (b4.mono hsa)
        have hsa4 := Nat.le_trans hsa b4.size
        clear hr4 hfar4 hfl4
        cases hq2 : rchB m k i with
        | true =>
          have hS := Lib.hid (selK_yes (clsB_yes Hq.out hq2))
          rw [show thr (edgeB m) m.length k i = true from hq2] at hd4
          generalize far4.getD i 0 = z at *
          have hd3 : 0 ≤ z := by simpa using hd4
          clear hq2 hd4
          go_wp2_with (at_builtin; refine wpList_push1 rfl (.tmp 28) (.tmp 30) rfl _ _ _ hI4.out (by omega) hsa4 (k : Int) rfl rfl ?_)
          intro v' w3 hI3 hb3
          go_wp2_with fail
          exact ⟨⟨k + 1, by omega, by go_num, by rw [hS.out]; exact hI3, hb4.trans hb3⟩, by simp [intOf]; omega⟩
        | false =>
          have hS := Lib.hid (selK_no (clsB_no2 (i := i) hq2))
          rw [show thr (edgeB m) m.length k i = false from hq2] at hd4
          generalize far4.getD i 0 = z at *
          have hd3 : ¬ 0 ≤ z := by simpa using hd4
          clear hq2
          go_wp2_with fail
          exact ⟨⟨k + 1, by omega, by go_num, by rw [hS.out]; exact hI4, hb4⟩, by simp [intOf]; omega⟩
      | false =>
        have hS := Lib.hid (selK_no (clsB_no1 hq))
        rw [show thr (edgeB m) m.length i k = false from hq] at hd
        generalize far.getD k 0 = y at *
        clear hq
        have hd2 : decide (0 ≤ y) = false := hd
        go_wp2_with fail
        exact ⟨⟨k + 1, by omega, by go_num, by rw [hS.out]; exact hI, hb⟩, by simp [intOf]; omega⟩
    · obtain rfl : k = m.length := by omega
      go_wp2_with fail
      go_ret
      exact ⟨_, rfl, hI.out.mono hbz, bel_trans b3 (HBz.out ▸ hb)⟩

def ansLast (lim : Int) (m : List (List Int)) : List Int := if saG lim m then selK (lstB m) m.length else []
theorem ansLast_len (lim : Int) (m : List (List Int)) : (ansLast lim m).length ≤ 1000 := by
  unfold ansLast
  split
  · rename_i h
    have := selK_len (lstB m) m.length
    have := (good_of h).five
    omega
  · simp

set_option maxRecDepth 100000 in
set_option maxHeartbeats 3200000 in
theorem specLast_any (lim : Int) (m : List (List Int)) (v : Value) (B : Nat) (w : World) (h : RdM w B v m) (hB : B ≤ w.heap.size) :
    Calls Try.prog 42 #[sts lim v] w (RowAns (ansLast lim m) (saG lim m) w) := by
  obtain ⟨A, cap, rfl, l0, m0⟩ := h.form
  unfold maxLen at m0
  have hbl := bel_alloc (Below.refl _ w) (.cells #[.int .i64 lim, .slice A m.length cap] 27)
  have H := Lib.hid (h.below hbl hB)
  have hBs := Nat.le_trans hB hbl.size
  have bx := Lib.hid (Box2.new w (.int .i64 lim) (.slice A m.length cap) 27)
  clear h
  cases h1 : saG lim m with
  | false =>
    rw [show ansLast lim m = [] from by simp [ansLast, h1]]
    have H1 := Lib.hid h1
    clear h1
    go_enter Try.func42, Try.ntmps42
    go_wp2_with fail
    refine (saGood_any lim m _ _ _ H.out hBs).mono ?_
    rw [H1.out]
    rintro e w1 ⟨rfl, b1⟩
    go_wp2_with fail
    go_ret2
    exact ⟨_, rfl, IRow.nil _ _, bel_trans hbl b1⟩
  | true =>
    rw [show ansLast lim m = selK (lstB m) m.length from by simp [ansLast, h1]]
    have H1 := Lib.hid h1
    have hg := good_of h1
    have n5 := hg.five
    have HG := Lib.hid hg
    clear h1 hg
    go_enter Try.func42, Try.ntmps42
    go_wp2_with fail
    refine (saGood_any lim m _ _ _ H.out hBs).mono ?_
    rw [H1.out]
    rintro e w1 ⟨rfl, b1⟩
    obtain ⟨c0, c1, c2⟩ := bx.out.keep b1
    go_wp2_with fail
    obtain ⟨Bz, hBz⟩ : ∃ n, n = (w.alloc (.cells #[.int .i64 lim, .slice A m.length cap] 27)).heap.size := ⟨_, rfl⟩
    rw [← hBz] at b1 hBs
    have hbz : w.heap.size ≤ Bz := by rw [hBz]; exact hbl.size
    have HBz := Lib.hid hBz
    clear hBz
    go_loopw [4, 15] (fun u x wr => ∃ k : Nat, k ≤ m.length ∧ x = .int .i64 k ∧ Hid (IRow wr Bz u (selK (lstB m) k)) ∧ Below Bz (w.alloc (.cells #[.int .i64 lim, .slice A m.length cap] 27)) wr) (fun _ x _ => m.length - (intOf x).toNat)
    case atStart => exact ⟨0, by omega, rfl, IRow.nil _ _, b1⟩
    case round =>
      obtain ⟨k, hk, rfl, hI, hb⟩ := hrel
      obtain ⟨wa, rfl⟩ : ∃ wa : World, wa = wr := ⟨_, rfl⟩
      clear c0 c1 c2
      have hsa : Bz ≤ wa.heap.size := by have := hb.size; rw [← HBz.out] at this; exact this
      obtain ⟨c0, c1, c2⟩ := bx.out.keep (HBz.out ▸ hb)
      by_cases hlt : k < m.length
      · have hl := selK_len (lstB m) k
        go_wp2_with fail
        refine (saFar_any lim m _ _ k _ (H.out.below hb hBs) (Nat.le_trans hBs hsa) HG.out hlt).mono ?_
        rintro e w2 ⟨u2, far, rfl, hr, hfar, b2⟩
        have hrd := hr.rd
        obtain ⟨A2, cap2, rfl, l2, m2⟩ := hrd.form
        have HR := Lib.hid hrd
        have HF := Lib.hid hfar.2
        have hfl := hfar.1
        have HFL := Lib.hid hfl
        rw [hfl] at l2 ⊢
        clear hr hrd hfar hfl
        have hI2 := Lib.hid (hI.out.below b2)
        have hb2 := hb.trans (b2.mono hsa)
        have hsa2 := Nat.le_trans hsa b2.size
        obtain ⟨d0, d1, d2⟩ := bx.out.keep (HBz.out ▸ hb2)
        go_wp2_with fail
        go_loop [6, 22] (fun y x => ∃ j : Nat, j ≤ m.length ∧ x = .int .i64 j ∧ y = .int .i64 ((selK (rchB m k) j).length : Int)) (fun _ x => m.length - (intOf x).toNat)
        case atStart => exact ⟨0, by omega, rfl, by simp [selK]⟩
        case round =>
          obtain ⟨j, hj, rfl, rfl⟩ := hrel
          have hlj := selK_len (rchB m k) j
          by_cases hjl : j < m.length
          · obtain ⟨ad, rfl, _, e0⟩ := HR.out.at_ (k := j) (by rw [HFL.out]; exact hjl)
            obtain ⟨_, hd⟩ := HF.out j hjl
            cases hq : rchB m k j with
            | true =>
              have hS : Hid ((selK (rchB m k) (j + 1)).length = (selK (rchB m k) j).length + 1) := by refine Lib.hid ?_; rw [selK_yes hq]; simp
              rw [show thr (edgeB m) m.length k j = true from hq] at hd
              generalize far.getD j 0 = y at *
              have hd2 : 0 ≤ y := by simpa using hd
              clear hq hd
              go_wp2_with fail
              exact ⟨⟨j + 1, by omega, by go_num, by rw [hS.out]; go_num⟩, by simp [intOf]; omega⟩
            | false =>
              have hS : Hid ((selK (rchB m k) (j + 1)).length = (selK (rchB m k) j).length) := by refine Lib.hid ?_; rw [selK_no hq]
              rw [show thr (edgeB m) m.length k j = false from hq] at hd
              generalize far.getD j 0 = y at *
              have hd2 : ¬ 0 ≤ y := by simpa using hd
              clear hq hd
              go_wp2_with fail
              exact ⟨⟨j + 1, by omega, by go_num, by rw [hS.out]⟩, by simp [intOf]; omega⟩
          · obtain rfl : j = m.length := by omega
            have hli := Lib.hid (lst_int m k)
            go_wp2_with fail
            refine (saClass_any lim m _ _ k _ (H.out.below hb2 hBs) (Nat.le_trans hBs hsa2) HG.out hlt).mono ?_
            rintro e w3 ⟨u3, rfl, hr3, b3⟩
            obtain ⟨A3, cap3, rfl, l3, m3⟩ := hr3.rd.form
            have hI3 := Lib.hid (hI2.out.below b3)
            have hb3 := hb2.trans (b3.mono hsa2)
            have hsa3 := Nat.le_trans hsa2 b3.size
            clear hr3
            have hli2 := hli.out
            generalize ((selK (rchB m k) m.length).length : Int) = y1 at *
            generalize hy2 : ((selK (clsB m k) m.length).length : Int) = y2 at *
            generalize (selK (clsB m k) m.length).length = y3 at *
            subst hy2
            cases hq : lstB m k with
            | true =>
              have hS := Lib.hid (selK_yes hq)
              rw [hq] at hli2
              clear hq hli
              go_wp2_with (at_builtin; refine wpList_push1 rfl (.tmp 37) (.tmp 39) rfl _ _ _ hI3.out (by omega) hsa3 (k : Int) rfl rfl ?_)
              intro v' w4 hI4 hb4
              go_wp2_with fail
              exact ⟨⟨k + 1, by omega, by go_num, by rw [hS.out]; exact hI4, hb3.trans hb4⟩, by simp [intOf]; omega⟩
            | false =>
              have hS := Lib.hid (selK_no hq)
              rw [hq] at hli2
              clear hq hli
              go_wp2_with fail
              exact ⟨⟨k + 1, by omega, by go_num, by rw [hS.out]; exact hI3, hb3⟩, by simp [intOf]; omega⟩
      · obtain rfl : k = m.length := by omega
        go_wp2_with fail
        go_ret2
        exact ⟨_, rfl, hI.out.mono hbz, bel_trans hbl (HBz.out ▸ hb)⟩

theorem lstK_no {m : List (List Int)} {i j : Nat} (h : lstK m i j = false) : lstK m i (j + 1) = false := by simp [lstK, h]
theorem lstK_one {m : List (List Int)} {i j : Nat} (h : lstK m i j = true) (h1 : rchB m i j = false) : lstK m i (j + 1) = true := by simp [lstK, h, h1]
theorem lstK_two {m : List (List Int)} {i j : Nat} (h : lstK m i j = true) (h1 : rchB m i j = true) : lstK m i (j + 1) = rchB m j i := by simp [lstK, h, h1]

set_option maxRecDepth 100000 in
set_option maxHeartbeats 6400000 in
theorem implLast_any (lim : Int) (m : List (List Int)) (v : Value) (B : Nat) (w : World) (h : RdM w B v m) (hB : B ≤ w.heap.size) :
    Calls Try.prog 43 #[sts lim v] w (RowAns (ansLast lim m) (saG lim m) w) := by
  obtain ⟨A, cap, rfl, l0, m0⟩ := h.form
  have hbl := bel_alloc (Below.refl _ w) (.cells #[.int .i64 lim, .slice A m.length cap] 27)
  have H := Lib.hid (h.below hbl hB)
  have hBs := Nat.le_trans hB hbl.size
  obtain ⟨a, b, g, hm, hy⟩ := mvOf_form lim m
  have Hm := Lib.hid hm
  clear h hm
  cases h1 : saG lim m with
  | false =>
    rw [show ansLast lim m = [] from by simp [ansLast, h1]]
    have H1 := Lib.hid h1
    clear h1 hy
    go_enter Try.func43, Try.ntmps43
    go_wp2_with fail
    refine (movesOf_any lim m _ _ _ H.out hBs).mono ?_
    unfold MvAns
    rw [H1.out, Hm.out]
    rintro e w1 ⟨rfl, b1⟩
    go_wp2_with (first
      | (refine wpList_alloc_row rfl 72 rfl (mvC 0 0 zer) (mv_zero _) ?_)
      | (refine wpList_store_new (k := w1.heap.size) (c' := mvC a b g) rfl 72 (.tmp 4) (.tmp 14) rfl rfl ?_ ?_ mv_info rfl (mvC_one _ _ _) ?_; (· simp [Act.put, Act.eval]); (· simp [Act.put, Act.eval])))
    go_ret2
    exact ⟨_, rfl, IRow.nil _ _, bel_alloc (bel_trans hbl b1) _⟩
  | true =>
    rw [show ansLast lim m = selK (lstB m) m.length from by simp [ansLast, h1]]
    have H1 := Lib.hid h1
    obtain ⟨rfl, rfl, rfl⟩ := hy h1
    have n5 := (good_of h1).five
    have g1 : (mvC a m.length (gridM m))[1]? = some (.int .i64 m.length) := rfl
    clear h1 hy
    go_enter Try.func43, Try.ntmps43
    go_wp2_with fail
    refine (movesOf_any a m _ _ _ H.out hBs).mono ?_
    unfold MvAns
    rw [H1.out, Hm.out]
    rintro e w1 ⟨rfl, b1⟩
    have hb1 := bel_trans hbl b1
    go_wp2_with (first
      | (refine wpList_alloc_row rfl 72 rfl (mvC 0 0 zer) (mv_zero _) ?_)
      | (refine wpList_store_new (k := w1.heap.size) (c' := mvC a m.length (gridM m)) rfl 72 (.tmp 4) (.tmp 14) rfl rfl ?_ ?_ mv_info rfl (mvC_one _ _ _) ?_; (· simp [Act.put, Act.eval]); (· simp [Act.put, Act.eval]))
      | (refine wpList_load_row rfl 72 (.tmp 4) rfl w1.heap.size (by simp [Act.put, Act.eval]) _ (mvC a m.length (gridM m)) _ _ (heap_alloc_new _ _) Try.underlying72 rfl mv_info ?_))
    refine (reached_any a m _ n5).mono ?_
    rintro e w2 ⟨rfl, b2⟩
    have hK1 := Lib.hid (bel_block b2 (by rw [← size1]; omega) (heap_alloc_new w1 (.cells (mvC a m.length (gridM m)) 72)))
    have hlt1 : w1.heap.size < w2.heap.size := by have := b2.size; rw [← size1] at this; omega
    have b3 := bel_alloc (bel_trans (bel_alloc hb1 _) b2) (.cells (marC (reachG m m.length m.length)) 87)
    have e1 := (cell_of_row (w2.alloc (.cells (marC (reachG m m.length m.length)) 87)) w1.heap.size 1 _ _ _ ((heap_alloc_old _ _ hlt1).trans hK1.out)).trans g1
    go_wp2_with (first
      | (refine wpList_alloc_row rfl 87 rfl (marC noB) (mar_zero _) ?_)
      | (refine wpList_store_new (k := w2.heap.size) (c' := marC (reachG m m.length m.length)) rfl 87 (.tmp 6) (.tmp 19) rfl rfl ?_ ?_ mar_info rfl (marC_one _) ?_; (· simp [Act.put, Act.eval]); (· simp [Act.put, Act.eval])))
    obtain ⟨Bz, hBz⟩ : ∃ n, n = (w2.alloc (.cells (marC (reachG m m.length m.length)) 87)).heap.size := ⟨_, rfl⟩
    have hbz : w.heap.size ≤ Bz := by rw [hBz]; exact b3.size
    have hb0 : w2.heap.size < Bz := by rw [hBz, ← size1]; omega
    have HBz := Lib.hid hBz
    clear hBz e1
    go_loopw [7, 22] (fun u x wr => ∃ k : Nat, k ≤ m.length ∧ x = .int .i64 k ∧ Hid (IRow wr Bz u (selK (lstB m) k)) ∧ Below Bz (w2.alloc (.cells (marC (reachG m m.length m.length)) 87)) wr) (fun _ x _ => m.length - (intOf x).toNat)
    case atStart => exact ⟨0, by omega, rfl, IRow.nil _ _, Below.refl _ _⟩
    case round =>
      obtain ⟨k, hk, rfl, hI, hb⟩ := hrel
      obtain ⟨wa, rfl⟩ : ∃ wa : World, wa = wr := ⟨_, rfl⟩
      have hsa : Bz ≤ wa.heap.size := by have := hb.size; rw [← HBz.out] at this; exact this
      have hK := Lib.hid ((hb.block w2.heap.size hb0).trans (heap_alloc_new _ _))
      have e1 := (cell_of_row wa w1.heap.size 1 _ _ _ ((hb.block w1.heap.size (by omega)).trans ((heap_alloc_old _ _ hlt1).trans hK1.out))).trans g1
      by_cases hlt : k < m.length
      · have hl := selK_len (lstB m) k
        go_wp2_with fail
        go_loop [9, 27] (fun y x => ∃ j : Nat, j ≤ m.length ∧ x = .int .i64 j ∧ y = .bool (lstK m k j)) (fun _ x => m.length - (intOf x).toNat)
        case atStart => exact ⟨0, by omega, rfl, rfl⟩
        case round =>
          obtain ⟨j, hj, rfl, rfl⟩ := hrel
          by_cases hjl : j < m.length
          · have k1 : (k : Int) < 5 := by omega
            have k2 : (j : Int) < 5 := by omega
            have e2 := (cell_of_row wa w2.heap.size (k * 5 + j) _ _ _ hK.out).trans (marC_get _ (k * 5 + j) (by omega))
            have e3 := (cell_of_row wa w2.heap.size (j * 5 + k) _ _ _ hK.out).trans (marC_get _ (j * 5 + k) (by omega))
            rw [reachG_at _ _ _ _ _ hlt hjl (by omega)] at e2
            rw [reachG_at _ _ _ _ _ hjl hlt (by omega)] at e3
            have e2' : wa.cell? ⟨w2.heap.size, k * 5 + j, none⟩ = some (.bool (rchB m k j)) := e2
            have e3' : wa.cell? ⟨w2.heap.size, j * 5 + k, none⟩ = some (.bool (rchB m j k)) := e3
            clear e2 e3
            cases hl1 : lstK m k j with
            | false =>
              have hS := Lib.hid (lstK_no hl1)
              clear hl1
              go_wp2_with fail
              exact ⟨⟨j + 1, by omega, by go_num, by rw [hS.out]⟩, by simp [intOf]; omega⟩
            | true =>
              cases hr1 : rchB m k j with
              | false =>
                have hS := Lib.hid (lstK_one hl1 hr1)
                rw [hr1] at e2'
                clear hl1 hr1
                go_wp2_with fail
                exact ⟨⟨j + 1, by omega, by go_num, by rw [hS.out]⟩, by simp [intOf]; omega⟩
              | true =>
                have hS := Lib.hid (lstK_two hl1 hr1)
                rw [hr1] at e2'
                clear hl1 hr1
                generalize rchB m j k = b9 at *
                go_wp2_with fail
                exact ⟨⟨j + 1, by omega, by go_num, by rw [hS.out]⟩, by simp [intOf]; omega⟩
          · obtain rfl : j = m.length := by omega
            cases hq : lstB m k with
            | true =>
              have hS := Lib.hid (selK_yes hq)
              have hq2 : lstK m k m.length = true := hq
              rw [hq2]
              clear hq hq2
              go_wp2_with (at_builtin; refine wpList_push1 rfl (.tmp 48) (.tmp 50) rfl _ _ _ hI.out (by omega) hsa (k : Int) rfl rfl ?_)
              intro v' w4 hI4 hb4
              go_wp2_with fail
              exact ⟨⟨k + 1, by omega, by go_num, by rw [hS.out]; exact hI4, hb.trans hb4⟩, by simp [intOf]; omega⟩
            | false =>
              have hS := Lib.hid (selK_no hq)
              have hq2 : lstK m k m.length = false := hq
              rw [hq2]
              clear hq hq2
              go_wp2_with fail
              exact ⟨⟨k + 1, by omega, by go_num, by rw [hS.out]; exact hI, hb⟩, by simp [intOf]; omega⟩
      · obtain rfl : k = m.length := by omega
        go_wp2_with fail
        go_ret2
        exact ⟨_, rfl, hI.out.mono hbz, bel_trans b3 (HBz.out ▸ hb)⟩
end Go.Proofs.Ythnjkjdfdhdcfaa
