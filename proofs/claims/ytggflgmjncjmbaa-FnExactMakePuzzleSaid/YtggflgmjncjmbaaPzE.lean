/- Clues that are needless: contracts of the program and of its model. -/
import Derived.Test.YtggflgmjncjmbaaPzD
namespace Go.Proofs.Ytggflgmjncjmbaa
set_option linter.unusedSimpArgs false
open Go.ChangeShapes Go.WideShapes Go.ChangeAt Go.RowKit
set_option linter.unusedVariables false

theorem pzG_sub {o : Int} {ts xs : List Tri} (h : pzG o ts = true) (hl : xs.length ≤ ts.length) (hs : ∀ x ∈ xs, x ∈ ts) : pzG o xs = true := by
  obtain ⟨a, b, c, d⟩ := pzG_in h
  rw [pzG_eq ((inB_iff _ _ _).2 ⟨a, b⟩) (by omega)]
  exact clsG_sub d hs
theorem pzG_erase {o : Int} {ts : List Tri} (k : Nat) (h : pzG o ts = true) : pzG o (ts.eraseIdx k) = true :=
  pzG_sub h (List.length_eraseIdx_le ts k) fun _ hx => List.mem_of_mem_eraseIdx hx
/-- Whether clue k is needless. -/
def ndB (o : Int) (ts : List Tri) (k : Nat) : Bool := decide (((solA o (ts.eraseIdx k)).length : Int) = ((solA o ts).length : Int))
def ansNd (o : Int) (ts : List Tri) : List Int := if pzG o ts then selR (ndB o ts) 0 ts.length else []
theorem ansNd_len (o : Int) (ts : List Tri) : (ansNd o ts).length ≤ 1000 := by
  unfold ansNd
  split
  · rename_i h
    have := (pzG_in h).2.2.1
    have := selR_len (ndB o ts) 0 ts.length
    omega
  · simp
theorem IRow.keepB {w w1 : World} {b : Nat} {v : Value} {xs : List Int} (h : IRow w b v xs) (hb : Below w.heap.size w w1) : IRow w1 b v xs := h.below hb
set_option maxRecDepth 100000 in
set_option maxHeartbeats 3200000 in
theorem implNd_any (o : Int) (ts : List Tri) (v : Value) (B : Nat) (w : World) (h : RdT w B v ts) (hB : B ≤ w.heap.size) :
    Calls Try.prog 42 #[pz o v] w (RowAns (ansNd o ts) (pzG o ts) w) := by
  have bl := Lib.hid (bel_alloc (Below.refl _ w) (.cells #[.int .i64 o, v] 29))
  have bx := Lib.hid (Box2.new w (.int .i64 o) v 29)
  have H0 := Lib.hid h
  obtain ⟨A, cap, rfl, _, _⟩ := h.form
  clear h
  have hC := fun W (hR : RdT W B (.slice A ts.length cap) ts) (hz : B ≤ W.heap.size) => implCnt_any o ts _ B W hR hz
  unfold ansCnt at hC
  cases hg : pzG o ts
  · rw [show ansNd o ts = [] from by unfold ansNd; rw [hg]; rfl]
    rw [hg] at hC
    go_enter Try.func42, Try.ntmps42
    go_wp2_with fail
    refine (hC _ (H0.out.below bl.out hB) (by simp; omega)).mono ?_
    rintro e w2 ⟨rfl, b2⟩
    go_wp2
    go_ret2
    exact ⟨_, rfl, IRow.nil _ _, bel_trans bl.out b2⟩
  · rw [show ansNd o ts = selR (ndB o ts) 0 ts.length from by unfold ansNd; rw [hg]; rfl]
    rw [hg] at hC
    obtain ⟨o1, o8, h6, hcl⟩ := pzG_in hg
    have hW := fun (k : Nat) (hk : k < ts.length) W (hR : RdT W B (.slice A ts.length cap) ts) (hz : B ≤ W.heap.size) => without_any o ts _ B k W hR hz hk h6
    have hS := fun (k : Nat) (v : Value) W (hR : RdT W W.heap.size v (ts.eraseIdx k)) => pSolsI_any o (ts.eraseIdx k) v _ W hR (Nat.le_refl _) (pzG_erase k hg)
    have hnd : ∀ k, ndB o ts k = decide (((solA o (ts.eraseIdx k)).length : Int) = ((solA o ts).length : Int)) := fun k => rfl
    generalize hC0 : ((solA o ts).length : Int) = C at *
    clear hC0
    generalize hN : ts.length = N at *
    have HN := Lib.hid hN
    clear hN
    go_enter Try.func42, Try.ntmps42
    go_wp2_with fail
    refine (hC _ (H0.out.below bl.out hB) (by simp; omega)).mono ?_
    rintro e w1 ⟨rfl, b1⟩
    have hb1 := bel_trans bl.out b1
    have bx1 := Lib.hid (bx.out.keep b1)
    obtain ⟨c0, c1, ck⟩ := bx1.out
    go_wp2_with fail
    clear c0 c1 ck
    go_loopw [6, 18] (fun x i wr => ∃ k : Nat, k ≤ N ∧ i = .int .i64 k ∧ Hid (IRow wr (w.heap.size + 1) x (selR (ndB o ts) 0 k)) ∧ Hid (Box2 wr w.heap.size (.int .i64 o) (.slice A N cap)) ∧ Below w.heap.size w wr) (fun _ i _ => N - (intOf i).toNat)
    case atStart => exact ⟨0, by omega, rfl, Lib.hid (IRow.nil _ _), bx1, hb1⟩
    case round =>
      obtain ⟨k, hk, rfl, hI, hbx, hbl⟩ := hrel
      obtain ⟨c0, c1, ck⟩ := hbx.out
      by_cases hlt : k < N
      · have hki : (k : Int) < (N : Int) := by omega
        have hl := selR_len (ndB o ts) 0 k
        have hnk := hnd k
        go_wp2_with fail
        refine (hW k hlt _ (H0.out.below hbl hB) (by have := hbl.size; omega)).mono ?_
        rintro e w2 ⟨v2, rfl, r2, b2⟩
        have hR2 := r2.rd
        have hI2 := Lib.hid (hI.out.below b2)
        have hbx2 := Lib.hid (hbx.out.keep b2)
        have hbl2 := bel_trans hbl b2
        clear r2 c0 c1 ck
        go_wp2_with fail
        refine (hS k v2 _ hR2).mono ?_
        rintro e w3 ⟨v3, rfl, r3, b3⟩
        obtain ⟨A3, cap3, rfl, _, _⟩ := r3.rd.form
        have hI3 := Lib.hid (hI2.out.below b3)
        have hbx3 := Lib.hid (hbx2.out.keep b3)
        have hbl3 := bel_trans hbl2 b3
        clear r3 hR2
        generalize (solA o (ts.eraseIdx k)).length = D at *
        by_cases hq : (D : Int) = C
        · have hs := Lib.hid (selR_yes (p := ndB o ts) (a := 0) (n := k) (by rw [Nat.zero_add, hnk]; simpa using hq))
          have hd : ((D : Int) == C) = true := by simpa using hq
          have hd2 : decide ((D : Int) = C) = true := by simpa using hq
          clear hnk hq
          go_wp2_with (at_builtin; refine wpList_push1 rfl (.tmp 28) (.tmp 30) rfl _ _ _ hI3.out (by omega) (by have := hbx3.out.2.2; omega) (k : Int) rfl rfl ?_)
          intro v' w5 hI5 hb5
          have hbx5 := Lib.hid (hbx3.out.keepB hb5 (by omega))
          go_wp2_with fail
          exact ⟨⟨k + 1, by omega, by go_num, by rw [hs.out]; simpa using Lib.hid hI5, hbx5, hbl3.trans (hb5.mono (by omega))⟩, by simp [intOf]; omega⟩
        · have hs := Lib.hid (selR_no (p := ndB o ts) (a := 0) (n := k) (by rw [Nat.zero_add, hnk]; simpa using hq))
          have hd : ((D : Int) == C) = false := by simpa using hq
          have hd2 : decide ((D : Int) = C) = false := by simpa using hq
          clear hnk hq
          go_wp2_with fail
          exact ⟨⟨k + 1, by omega, by go_num, by rw [hs.out]; exact hI3, hbx3, hbl3⟩, by simp [intOf]; omega⟩
      · obtain rfl : k = N := by omega
        clear c0 c1 ck
        go_wp2_with fail
        go_ret2
        exact ⟨_, rfl, hI.out.mono (by omega), hbl⟩
set_option maxRecDepth 100000 in
set_option maxHeartbeats 3200000 in
theorem specNd_any (o : Int) (ts : List Tri) (v : Value) (B : Nat) (w : World) (h : RdT w B v ts) (hB : B ≤ w.heap.size) :
    Calls Try.prog 41 #[pz o v] w (RowAns (ansNd o ts) (pzG o ts) w) := by
  have bl := Lib.hid (bel_alloc (Below.refl _ w) (.cells #[.int .i64 o, v] 29))
  have bx := Lib.hid (Box2.new w (.int .i64 o) v 29)
  have H0 := Lib.hid h
  obtain ⟨A, cap, rfl, _, _⟩ := h.form
  clear h
  cases hg : pzG o ts
  · rw [show ansNd o ts = [] from by unfold ansNd; rw [hg]; rfl]
    go_enter Try.func41, Try.ntmps41
    go_wp2_with fail
    refine (pzGood_any o ts _ B _ (H0.out.below bl.out hB) (by simp; omega)).mono ?_
    rintro e w2 ⟨rfl, b2⟩
    rw [hg]
    go_wp2
    go_ret2
    exact ⟨_, rfl, IRow.nil _ _, bel_trans bl.out b2⟩
  · rw [show ansNd o ts = selR (ndB o ts) 0 ts.length from by unfold ansNd; rw [hg]; rfl]
    obtain ⟨o1, o8, h6, hcl⟩ := pzG_in hg
    have hC := fun W (hR : RdT W B (.slice A ts.length cap) ts) (hz : B ≤ W.heap.size) => pzAllI_any o ts _ B W hR hz hg
    have hW := fun (k : Nat) (hk : k < ts.length) W (hR : RdT W B (.slice A ts.length cap) ts) (hz : B ≤ W.heap.size) => pzWithout_any ts _ B k W hR hz hk h6
    have hS := fun (k : Nat) (v : Value) W (hR : RdT W W.heap.size v (ts.eraseIdx k)) => pzAllI_any o (ts.eraseIdx k) v _ W hR (Nat.le_refl _) (pzG_erase k hg)
    have hnd : ∀ k, ndB o ts k = decide (((solA o (ts.eraseIdx k)).length : Int) = ((solA o ts).length : Int)) := fun k => rfl
    generalize hN : ts.length = N at *
    have HN := Lib.hid hN
    clear hN
    go_enter Try.func41, Try.ntmps41
    go_wp2_with fail
    refine (pzGood_any o ts _ B _ (by rw [← HN.out]; simpa [HN.out] using H0.out.below bl.out hB) (by simp; omega)).mono ?_
    rintro e w1 ⟨rfl, b1⟩
    rw [hg]
    have hb1 := bel_trans bl.out b1
    have bx1 := Lib.hid (bx.out.keep b1)
    obtain ⟨c0, c1, ck⟩ := bx1.out
    go_wp2_with fail
    refine (hC _ (H0.out.below hb1 hB) (by have := hb1.size; omega)).mono ?_
    rintro e w2 ⟨v2, rfl, r2, b2⟩
    obtain ⟨A2, cap2, rfl, _, _⟩ := r2.rd.form
    have hb2 := bel_trans hb1 b2
    have bx2 := Lib.hid (bx1.out.keep b2)
    clear r2 c0 c1 ck
    obtain ⟨c0, c1, ck⟩ := bx2.out
    generalize (solA o ts).length = C at *
    go_wp2_with fail
    clear c0 c1 ck
    go_loopw [4, 19] (fun x i wr => ∃ k : Nat, k ≤ N ∧ i = .int .i64 k ∧ Hid (IRow wr (w.heap.size + 1) x (selR (ndB o ts) 0 k)) ∧ Hid (Box2 wr w.heap.size (.int .i64 o) (.slice A N cap)) ∧ Below w.heap.size w wr) (fun _ i _ => N - (intOf i).toNat)
    case atStart => exact ⟨0, by omega, rfl, Lib.hid (IRow.nil _ _), bx2, hb2⟩
    case round =>
      obtain ⟨k, hk, rfl, hI, hbx, hbl⟩ := hrel
      by_cases hlt : k < N
      · have hki : (k : Int) < (N : Int) := by omega
        have hl := selR_len (ndB o ts) 0 k
        have hnk := hnd k
        go_wp2_with fail
        go_region_held3 (fun w' => w'.cell? ⟨w.heap.size, 0, none⟩ = some (.int .i64 o) ∧ w'.cell? ⟨w.heap.size, 1, none⟩ = some (.slice A N cap) ∧ w.heap.size < w'.heap.size ∧ Below w.heap.size w w')
          (first | exact held2_start hbx.out hbl | exact held2_keep (by assumption) hb5 | exact held2_keep (by assumption) hb6 | assumption | go_keep)
          (first | (go_at_call 73; refine (hW k hlt _ (H0.out.below (held2_below (by assumption)).2 hB) (by have := (held2_below (by assumption)).2.size; omega)).mono ?_; rintro e w5 ⟨v5, rfl, r5, hb5⟩; have hR5 := r5.rd; have hI5 := Lib.hid (IRow.below hI.out (bel_undrew hb5))) | (go_at_call 69; refine (hS k v5 _ hR5).mono ?_; rintro e w6 ⟨v6, rfl, r6, hb6⟩; obtain ⟨A6, cap6, rfl, _, _⟩ := r6.rd.form; have hI6 := Lib.hid (IRow.below hI5.out hb6)))
        all_goals
          obtain ⟨hbx9, hbl9⟩ := held2_below (by assumption)
          have hbx8 := Lib.hid hbx9
          clear hbx9 r5 r6 hR5 hb5 hb6
          generalize (solA o (ts.eraseIdx k)).length = D at *
          by_cases hq : (D : Int) = (C : Int)
          · have hs := Lib.hid (selR_yes (p := ndB o ts) (a := 0) (n := k) (by rw [Nat.zero_add, hnk]; simpa using hq))
            have hd : ((D : Int) == (C : Int)) = true := by simpa using hq
            have hd2 : decide ((D : Int) = (C : Int)) = true := by simpa using hq
            clear hnk hq
            go_wp2_with (at_builtin; refine wpList_push1 rfl (.tmp 32) (.tmp 34) rfl _ _ _ hI6.out (by omega) (by have := hbx8.out.2.2; omega) (k : Int) rfl rfl ?_)
            intro v' w9 hI9 hb9
            have hbx7 := Lib.hid (hbx8.out.keepB hb9 (by omega))
            go_wp2_with fail
            exact ⟨⟨k + 1, by omega, by go_num, by rw [hs.out]; simpa using Lib.hid hI9, hbx7, hbl9.trans (hb9.mono (by omega))⟩, by simp [intOf]; omega⟩
          · have hs := Lib.hid (selR_no (p := ndB o ts) (a := 0) (n := k) (by rw [Nat.zero_add, hnk]; simpa using hq))
            have hd : ((D : Int) == (C : Int)) = false := by simpa using hq
            have hd2 : decide ((D : Int) = (C : Int)) = false := by simpa using hq
            clear hnk hq
            go_wp2_with fail
            exact ⟨⟨k + 1, by omega, by go_num, by rw [hs.out]; exact hI6, hbx8, hbl9⟩, by simp [intOf]; omega⟩
      · obtain rfl : k = N := by omega
        go_wp2_with fail
        go_ret2
        exact ⟨_, rfl, hI.out.mono (by omega), hbl⟩
end Go.Proofs.Ytggflgmjncjmbaa
