/- FirstWay: the program's contract, whole. -/
import Derived.Test.YthmdkbeccohjkaaFwI
import Derived.Test.YthmdkbeccohjkaaPerP
import Derived.Test.YthmdkbeccohjkaaStR
namespace Go.Proofs.Ythmdkbeccohjkaa
set_option linter.unusedSimpArgs false
open Go.ChangeShapes Go.WideShapes Go.ChangeAt Go.RowKit
set_option linter.unusedVariables false

theorem fw_len {lim : Int} {m : List (List Int)} (hg : Good lim m) {i j : Nat} (hi : i < m.length) (hj : j < m.length) {ws : List Nat} (h : IsFW (edgeB m) i j ws) : ws.length ≤ 6 := by
  have key : ∀ d : Nat, ∀ x, Wlk (edgeB m) i x d → ∃ P, IsWay (edgeB m) i P x ∧ P.length = d + 1 := by
    intro d
    induction d with
    | zero =>
      intro x hw
      rcases hw.uncons with ⟨_, rfl⟩ | ⟨y, _, q⟩
      · exact ⟨[i], .one, rfl⟩
      · have := q.nn; omega
    | succ d ih =>
      intro x hw
      generalize hz : ((d + 1 : Nat) : Int) = z at hw
      cases hw with
      | here => omega
      | @step a b e h1 h2 =>
        obtain ⟨P, p1, p2⟩ := ih _ (by rw [show (d : Int) = e by omega]; exact h1)
        exact ⟨P ++ [x], p1.step h2, by rw [List.length_append, p2]; rfl⟩
  rcases Nat.lt_or_ge 6 ws.length with q | q
  · exfalso
    obtain ⟨d, hd, hw⟩ := short_walk (n := m.length) (fun i j he => edge_in hg he) hi h.1.rch
    have n5 := hg.five
    obtain ⟨P, p1, p2⟩ := key d j hw
    have h1 := h.2 P p1
    have h2 := wcode_ge (w := ws) (ws.length - 1) (by omega)
    have h3 := wcode_lt (w := P) P.length rfl (way5 hg hi P j p1)
    have h4 : 8 ^ P.length ≤ 8 ^ (ws.length - 1) := Nat.pow_le_pow_right (by omega) (by omega)
    omega
  · exact q
theorem ansFW_len (lim : Int) (m : List (List Int)) (f t : Int) : (ansFW lim m f t).length ≤ 1000 := by
  by_cases ho : okFW lim m f t = true
  · have h1 : ask2 lim m f t = true := by unfold okFW at ho; rw [Bool.and_eq_true] at ho; exact ho.1
    obtain ⟨hg, i, j, rfl, rfl, hi, hj⟩ := ask2_good h1
    by_cases hx : ∃ w, IsFW (edgeB m) i j w
    · obtain ⟨w, hw⟩ := hx
      rw [ansFW_of hg hi ho hw, ints_len]
      have := fw_len hg hi hj hw
      omega
    · exfalso
      have hr : Rch (edgeB m) i j := by
        unfold okFW at ho
        rw [Bool.and_eq_true] at ho
        exact (thr_iff _ _ (fun i j he => (edge_in hg he).1) _ _).1 ho.2
      refine hx ?_
      have key : ∀ x, Rch (edgeB m) i x → ∃ P, IsWay (edgeB m) i P x := by
        intro x hx
        induction hx with
        | here => exact ⟨_, .one⟩
        | step _ he ih => obtain ⟨P, hP⟩ := ih; exact ⟨_, hP.step he⟩
      obtain ⟨P, hP⟩ := key j hr
      have : ∀ k P, wcode P = k → IsWay (edgeB m) i P j → ∃ w, IsFW (edgeB m) i j w := by
        intro k
        induction k using Nat.strongRecOn with
        | ind k ih =>
          intro P hk hP
          by_cases hq : ∃ Q, IsWay (edgeB m) i Q j ∧ wcode Q < k
          · obtain ⟨Q, q1, q2⟩ := hq
            exact ih _ q2 Q rfl q1
          · exact ⟨P, hP, fun Q q1 => by
              rcases Nat.lt_or_ge (wcode Q) k with r | r
              · exact absurd ⟨Q, q1, r⟩ hq
              · omega⟩
      exact this _ P rfl hP
  · unfold ansFW
    rw [if_neg ho]
    simp

set_option maxRecDepth 100000 in
set_option maxHeartbeats 3200000 in
theorem implFW_any (lim : Int) (m : List (List Int)) (v : Value) (B : Nat) (f t : Int) (w : World) (h : RdM w B v m) (hB : B ≤ w.heap.size) :
    Calls Try.prog 7 #[sts lim v, .int .i64 f, .int .i64 t] w (RowAns (ansFW lim m f t) (okFW lim m f t) w) := by
  obtain ⟨A, cap, rfl, l0, m0⟩ := h.form
  have hbl := bel_alloc (bel_alloc (Below.refl _ w) (.cells #[.int .i64 lim, .slice A m.length cap] 29)) (.cells #[.int .i64 f, .int .i64 t] 3)
  have H := Lib.hid (h.below hbl hB)
  have hR := Lib.hid (rdI_two (w.alloc (.cells #[.int .i64 lim, .slice A m.length cap] 29)) f t _ (size1 w _))
  have hq := Lib.hid (ask2_askB lim m f t)
  obtain ⟨a, b, g, hm, hy⟩ := mvOf_form lim m
  have Hm := Lib.hid hm
  clear h hm
  cases h1 : ask2 lim m f t with
  | false =>
    have h2 : okFW lim m f t = false := by simp [okFW, h1]
    rw [show ansFW lim m f t = [] from by simp [ansFW, h2], h2]
    have H1 := Lib.hid h1
    clear h1 h2 hy
    go_enter Try.func7, Try.ntmps7
    go_wp2_with fail
    refine (movesAt_any lim m _ _ [f, t] _ _ _ H.out (Nat.le_trans hB hbl.size) hR.out (Nat.le_refl _)).mono ?_
    unfold MvAtAns
    rw [hq.out, H1.out, Hm.out]
    rintro e w1 ⟨rfl, b1⟩
    go_wp2_with (first
      | (refine wpList_alloc_row rfl 45 rfl (mvC 0 0 zer) (mv_zero _) ?_)
      | (refine wpList_store_new (k := w1.heap.size) (c' := mvC a b g) rfl 45 (.tmp 8) (.tmp 17) rfl rfl ?_ ?_ mv_info rfl (mvC_one _ _ _) ?_; (· simp [Act.put, Act.eval]); (· simp [Act.put, Act.eval])))
    go_ret2
    exact ⟨_, rfl, IRow.nil _ _, bel_alloc (bel_trans hbl b1) _⟩
  | true =>
    have hs : saG lim m = true := by simp only [ask2, Bool.and_eq_true] at h1; exact h1.1
    obtain ⟨rfl, rfl, rfl⟩ := hy hs
    obtain ⟨hg, i, j, rfl, rfl, hi, hj⟩ := ask2_good h1
    have HH := Lib.hid (fun (ws : List Nat) (h : okFW a m i j = true) (q : IsFW (edgeB m) i j ws) => ansFW_of hg hi h q)
    have hok := Lib.hid (show okFW a m i j = thr (edgeB m) m.length i j by simp [okFW, h1])
    have hno := Lib.hid (show okFW a m i j = false → ansFW a m i j = [] from fun h => by simp [ansFW, h])
    have H1 := Lib.hid h1
    have HG := Lib.hid hg
    generalize ansFW a m i j = ans at *
    generalize okFW a m i j = ok at *
    clear h1 hy hg hs
    go_enter Try.func7, Try.ntmps7
    go_wp2_with fail
    refine (movesAt_any a m _ _ [(i : Int), (j : Int)] _ _ _ H.out (Nat.le_trans hB hbl.size) hR.out (Nat.le_refl _)).mono ?_
    unfold MvAtAns
    rw [hq.out, H1.out, Hm.out]
    rintro e w1 ⟨rfl, b1⟩
    go_wp2_with (first
      | (refine wpList_alloc_row rfl 45 rfl (mvC 0 0 zer) (mv_zero _) ?_)
      | (refine wpList_store_new (k := w1.heap.size) (c' := mvC a m.length (gridM m)) rfl 45 (.tmp 8) (.tmp 17) rfl rfl ?_ ?_ mv_info rfl (mvC_one _ _ _) ?_; (· simp [Act.put, Act.eval]); (· simp [Act.put, Act.eval]))
      | (refine wpList_load_row rfl 45 (.tmp 8) rfl w1.heap.size (by simp [Act.put, Act.eval]) _ (mvC a m.length (gridM m)) _ _ (heap_alloc_new _ _) Try.underlying45 rfl mv_info ?_))
    refine (firstWay_any a m i j _ HG.out hi hj).mono ?_
    rintro e w2 ⟨u, rfl, b2, hc⟩
    have b3 := bel_trans (bel_alloc (bel_trans hbl b1) _) b2
    have hbz := b3.size
    have hbz2 := (bel_alloc (bel_trans hbl b1) (.cells (mvC a m.length (gridM m)) 45)).size
    rcases hc with ⟨hth, ws, hfw, hI⟩ | ⟨hth, rfl⟩
    · have hok1 : ok = true := by rw [hok.out]; exact hth
      have hans := HH.out ws hok1 hfw
      obtain ⟨g7, cap7, rfl, c7, d7, f7⟩ := hI.formP (by rw [ints_len]; exact hfw.1.pos)
      have HI := Lib.hid (show IRow w2 w.heap.size (.slice (some ⟨g7, 0, none⟩) (ints ws).length cap7) ans by rw [hans]; exact hI.mono hbz2)
      generalize (ints ws).length = K7 at HI c7 ⊢
      subst hok1
      clear hI hans hth
      go_wp2_with fail
      go_ret2
      exact ⟨_, rfl, HI.out, b3⟩
    · have hok1 : ok = false := by rw [hok.out]; exact hth
      have hans := hno.out hok1
      subst hok1
      subst hans
      clear hth
      go_wp2_with fail
      go_ret2
      exact ⟨_, rfl, IRow.nil _ _, b3⟩
end Go.Proofs.Ythmdkbeccohjkaa
