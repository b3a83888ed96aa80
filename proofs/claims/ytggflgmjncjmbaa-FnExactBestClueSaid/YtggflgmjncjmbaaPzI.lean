/- The clue that the fewest chains fit: contracts of the program and of its model. -/
import Derived.Test.YtggflgmjncjmbaaPzY
namespace Go.Proofs.Ytggflgmjncjmbaa
set_option linter.unusedSimpArgs false
open Go.ChangeShapes Go.WideShapes Go.ChangeAt Go.RowKit
set_option linter.unusedVariables false

/-- The first index with the least number among the first k, and this. -/
def bestP (f : Nat → Int) : Nat → Nat × Int
  | 0 => (0, 0)
  | k + 1 => if k = 0 ∨ f k < (bestP f k).2 then (k, f k) else bestP f k
theorem bestP_yes {f : Nat → Int} {k : Nat} (h : k = 0 ∨ f k < (bestP f k).2) : bestP f (k + 1) = (k, f k) := by
  conv => lhs; unfold bestP
  rw [if_pos h]
theorem bestP_no {f : Nat → Int} {k : Nat} (h : ¬ (k = 0 ∨ f k < (bestP f k).2)) : bestP f (k + 1) = bestP f k := by
  conv => lhs; unfold bestP
  rw [if_neg h]
theorem bestP_spec (f : Nat → Int) : ∀ n, (bestP f (n + 1)).1 ≤ n ∧ f (bestP f (n + 1)).1 = (bestP f (n + 1)).2 ∧ (∀ j, j ≤ n → (bestP f (n + 1)).2 ≤ f j) ∧ (∀ j, j < (bestP f (n + 1)).1 → (bestP f (n + 1)).2 < f j)
  | 0 => by
    rw [bestP_yes (.inl rfl)]
    refine ⟨Nat.le_refl _, rfl, fun j hj => ?_, fun j hj => absurd hj (by simp)⟩
    obtain rfl : j = 0 := by omega
    exact Int.le_refl _
  | n + 1 => by
    obtain ⟨a, b, c, d⟩ := bestP_spec f n
    by_cases h : f (n + 1) < (bestP f (n + 1)).2
    · rw [bestP_yes (.inr h)]
      refine ⟨Nat.le_refl _, rfl, fun j hj => ?_, fun j hj => ?_⟩
      · rcases Nat.lt_or_ge j (n + 1) with q | q
        · have := c j (by omega)
          show f (n + 1) ≤ f j
          omega
        · obtain rfl : j = n + 1 := by omega
          exact Int.le_refl _
      · have := c j (by have : j < n + 1 := hj; omega)
        show f (n + 1) < f j
        omega
    · rw [bestP_no (by omega)]
      refine ⟨by omega, b, fun j hj => ?_, d⟩
      rcases Nat.lt_or_ge j (n + 1) with q | q
      · exact c j (by omega)
      · obtain rfl : j = n + 1 := by omega
        omega
def cntP (o : Int) (ts : List Tri) (k : Nat) : Int := ((solA o [ts.getD k tz]).length : Int)
def cntR (f : Nat → Int) : Nat → List Int
  | 0 => []
  | k + 1 => cntR f k ++ [f k]
theorem cntR_len (f : Nat → Int) : ∀ k, (cntR f k).length = k
  | 0 => rfl
  | k + 1 => by unfold cntR; simp [cntR_len f k]
theorem cntR_at (f : Nat → Int) : ∀ k j, j < k → (cntR f k).getD j 0 = f j
  | 0, j, h => by omega
  | k + 1, j, h => by
    unfold cntR
    rcases Nat.lt_or_ge j k with q | q
    · rw [List.getD_eq_getElem?_getD, List.getElem?_append_left (by rw [cntR_len]; exact q), ← List.getD_eq_getElem?_getD, cntR_at f k j q]
    · obtain rfl : j = k := by omega
      rw [List.getD_eq_getElem?_getD, List.getElem?_append_right (by rw [cntR_len]; exact Nat.le_refl _), cntR_len]
      simp
theorem cntR_le (f : Nat → Int) (h : ∀ k, 0 ≤ f k ∧ f k ≤ 81) (k : Nat) : ∀ j, 0 ≤ (cntR f k).getD j 0 ∧ (cntR f k).getD j 0 ≤ 81 := fun j => by
  rcases Nat.lt_or_ge j k with q | q
  · rw [cntR_at f k j q]; exact h j
  · rw [List.getD_eq_getElem?_getD, List.getElem?_eq_none (by rw [cntR_len]; exact q)]; simp
theorem pzG_one {o : Int} {ts : List Tri} {k : Nat} (h : pzG o ts = true) (hk : k < ts.length) : pzG o [ts.getD k tz] = true := by
  refine pzG_sub h (by simp; omega) fun x hx => ?_
  have : x = ts.getD k tz := by simpa using hx
  rw [this, List.getD_eq_getElem?_getD, List.getElem?_eq_getElem hk]
  exact List.getElem_mem hk
def ansBest (o : Int) (ts : List Tri) : Value := if pzG o ts && decide (0 < ts.length) then .tuple #[.int .i64 ((bestP (cntP o ts) ts.length).1 : Int), .bool true] else .tuple #[.int .i64 0, .bool false]
theorem ansBest_form (o : Int) (ts : List Tri) : ∃ (x : Int) (k : Bool), ansBest o ts = .tuple #[.int .i64 x, .bool k] := by
  unfold ansBest
  split
  · exact ⟨_, _, rfl⟩
  · exact ⟨_, _, rfl⟩

set_option maxHeartbeats 1600000 in
theorem min_any (f : Nat → Int) (n : Nat) (v : Value) (b : Nat) (w : World) (h : IRow w b v (cntR f (n + 1))) :
    Calls Try.prog 80 #[v] w fun e w' => e = .returned (.int .i64 (bestP f (n + 1)).2) ∧ w = w' := by
  rcases h.form with ⟨hx, _⟩ | ⟨_, g, cap, rfl, _, _, hl, hm⟩
  · have := cntR_len f (n + 1); rw [hx] at this; simp at this
  · have hc : ∀ j, j < n + 1 → w.cell? ⟨g, j, none⟩ = some (.int .i64 (f j)) := fun j hj => by
      have := h.at_ j (by rw [cntR_len]; exact hj)
      rwa [cntR_at f (n + 1) j hj] at this
    rw [cntR_len] at hl ⊢
    unfold maxLen at hm
    clear h
    have c0 := hc 0 (by omega)
    have hn1 : ¬ (((n + 1 : Nat) : Nat) : Int) < 1 := by omega
    have hn0 : (0 : Int) < ((n + 1 : Nat) : Int) := by omega
    have hb1 : Hid ((bestP f 1).2 = f 0) := Lib.hid (by rw [bestP_yes (.inl rfl)])
    have HC := Lib.hid hc
    clear hc
    generalize hN : n + 1 = N at *
    go_enter Try.func80, Try.ntmps80
    go_wp2
    clear c0
    go_loop [3, 4] (fun x i => ∃ k : Nat, 1 ≤ k ∧ k ≤ N ∧ i = .int .i64 k ∧ x = .int .i64 (bestP f k).2) (fun _ i => N - (intOf i).toNat)
    case atStart => exact ⟨1, by omega, by omega, rfl, by rw [hb1.out]⟩
    case round =>
      obtain ⟨k, h1, hk, rfl, rfl⟩ := hrel
      by_cases hlt : k < N
      · have ck := HC.out k hlt
        by_cases q : f k < (bestP f k).2
        · have hs := Lib.hid (bestP_yes (f := f) (k := k) (.inr q))
          have hmn : Hid (min (bestP f k).2 (f k) = f k) := Lib.hid (by omega)
          generalize (bestP f k).2 = M at *
          go_wp2
          exact ⟨⟨k + 1, by omega, by omega, by go_num, by rw [hs.out]; try rw [hmn.out]⟩, by simp [intOf]; omega⟩
        · have hs := Lib.hid (bestP_no (f := f) (k := k) (by omega))
          have hmn : Hid (min (bestP f k).2 (f k) = (bestP f k).2) := Lib.hid (by omega)
          generalize hM : (bestP f k).2 = M at *
          have HM := Lib.hid hM
          clear hM
          go_wp2
          exact ⟨⟨k + 1, by omega, by omega, by go_num, by rw [hs.out, HM.out]; try rw [hmn.out]⟩, by simp [intOf]; omega⟩
      · obtain rfl : k = N := by omega
        go_wp2
        go_ret
        exact ⟨rfl, rfl⟩
set_option maxHeartbeats 1600000 in
theorem index_any (f : Nat → Int) (n : Nat) (v : Value) (b : Nat) (w : World) (h : IRow w b v (cntR f (n + 1))) :
    Calls Try.prog 79 #[v, .int .i64 (bestP f (n + 1)).2] w fun e w' => e = .returned (.int .i64 ((bestP f (n + 1)).1 : Int)) ∧ w = w' := by
  rcases h.form with ⟨hx, _⟩ | ⟨_, g, cap, rfl, _, _, hl, hm⟩
  · have := cntR_len f (n + 1); rw [hx] at this; simp at this
  · have hc : ∀ j, j < n + 1 → w.cell? ⟨g, j, none⟩ = some (.int .i64 (f j)) := fun j hj => by
      have := h.at_ j (by rw [cntR_len]; exact hj)
      rwa [cntR_at f (n + 1) j hj] at this
    rw [cntR_len] at hl ⊢
    unfold maxLen at hm
    obtain ⟨s1, s2, s3, s4⟩ := bestP_spec f n
    clear h s3
    have HC := Lib.hid hc
    have S4 := Lib.hid s4
    clear hc s4
    generalize hI : (bestP f (n + 1)).1 = I at *
    generalize hM : (bestP f (n + 1)).2 = M at *
    clear hI hM
    generalize hN : n + 1 = N at *
    go_enter Try.func79, Try.ntmps79
    go_wp2
    go_loop [8] (fun i => ∃ k : Nat, k ≤ I ∧ i = .int .i64 k) (fun i => N - (intOf i).toNat)
    case atStart => exact ⟨0, by omega, rfl⟩
    case round =>
      obtain ⟨k, hk, rfl⟩ := hrel
      have ck := HC.out k (by omega)
      by_cases hlt : k < I
      · have hgt := S4.out k hlt
        have hne : ¬ M = f k := by omega
        have hkN : (k : Int) < (N : Int) := by omega
        have d1 : (M == f k) = false := by simpa using hne
        go_wp2
        exact ⟨⟨k + 1, by omega, by go_num⟩, by simp [intOf]; omega⟩
      · obtain rfl : k = I := by omega
        rw [s2] at ck
        have hkN : (k : Int) < (N : Int) := by omega
        go_wp2
        go_ret
        exact ⟨rfl, rfl⟩
/-- Clue k alone, as a part of the slice. -/
theorem cut_mid (ad : Addr) (n cap k : Nat) (hk : k < n) (hn : n ≤ cap) (W : World) : (Instr.sliceAt 27 (.slice (some ad) n cap) (some (.int .i64 k)) (some (.int .i64 ((k : Int) + 1))) none).run Try.prog W = .ok (.slice (some (ad.add (k * 3))) 1 (cap - k)) W := by
  have h1 : (k : Int) + 1 ≤ (cap : Int) := by omega
  have h2 : ((k : Int) + 1).toNat = k + 1 := by omega
  have h3 : 0 ≤ (k : Int) + 1 := by omega
  have h4 : ¬ cap = k := by omega
  have h5 : (k : Int) ≤ (k : Int) + 1 := by omega
  simp [Instr.sliceAt, Instr.slice, Instr.sliceBounds, Instr.sliceBound, asIntOf, run_underlying Try.underlying27, Try.sizeOf39, h1, h2, h3, h4, h5]
theorem RdT.one {w : World} {B n cap k : Nat} {ad : Addr} {ts : List Tri} (h : RdT w B (.slice (some ad) n cap) ts) (hk : k < ts.length) (hn : n ≤ cap) (hm : cap ≤ maxLen) : RdT w B (.slice (some (ad.add (k * 3))) 1 (cap - k)) [ts.getD k tz] := by
  have hl : n = ts.length := by obtain ⟨A, c, e, _⟩ := h; injection e
  obtain ⟨ad', e1, e2, c0, c1, c2⟩ := h.at_ hk
  injection e1 with e1
  subst e1
  refine ⟨some (ad.add (k * 3)), cap - k, rfl, by simp; omega, by omega, fun _ => ⟨_, rfl, by rw [block_of_add]; exact e2, fun j hj => ?_⟩⟩
  obtain rfl : j = 0 := by simpa using hj
  rw [add_addT, add_addT, add_addT]
  exact ⟨c0, c1, c2⟩
theorem cntP_in (o : Int) (ts : List Tri) (k : Nat) : 0 ≤ cntP o ts k ∧ cntP o ts k ≤ 81 := by
  have := solA_len o [ts.getD k tz]
  unfold cntP
  omega
set_option maxRecDepth 100000 in
set_option maxHeartbeats 3200000 in
theorem implBest_any (o : Int) (ts : List Tri) (v : Value) (B : Nat) (w : World) (h : RdT w B v ts) (hB : B ≤ w.heap.size) :
    Calls Try.prog 54 #[pz o v] w fun e w' => e = .returned (ansBest o ts) ∧ Below w.heap.size w w' := by
  have bl := Lib.hid (bel_alloc (Below.refl _ w) (.cells #[.int .i64 o, v] 29))
  have bx := Lib.hid (Box2.new w (.int .i64 o) v 29)
  have H0 := Lib.hid h
  obtain ⟨A, cap, rfl, hlc, hmc⟩ := h.form
  cases hg : pzG o ts
  · rw [show ansBest o ts = .tuple #[.int .i64 0, .bool false] from by unfold ansBest; rw [hg]; rfl]
    go_enter Try.func54, Try.ntmps54
    go_wp2_with fail
    refine (implIsPz_any o ts _ B _ (H0.out.below bl.out hB) (by simp; omega)).mono ?_
    rintro e w2 ⟨rfl, b2⟩
    rw [hg]
    go_wp2
    go_ret2
    exact ⟨rfl, bel_trans bl.out b2⟩
  · obtain ⟨o1, o8, h6, hcl⟩ := pzG_in hg
    by_cases hz0 : ts.length = 0
    · rw [show ansBest o ts = .tuple #[.int .i64 0, .bool false] from by unfold ansBest; rw [hg, hz0]; rfl]
      obtain rfl : ts = [] := List.length_eq_zero_iff.1 hz0
      change Calls Try.prog 54 #[pz o (.slice A 0 cap)] w _
      clear hz0 h
      go_enter Try.func54, Try.ntmps54
      go_wp2_with fail
      refine (implIsPz_any o _ _ B _ (H0.out.below bl.out hB) (by simp; omega)).mono ?_
      rintro e w2 ⟨rfl, b2⟩
      rw [hg]
      obtain ⟨c0, c1, ck⟩ := bx.out.keep b2
      have c1 : w2.cell? ⟨w.heap.size, 1, none⟩ = some (.slice A 0 cap) := c1
      go_wp2
      go_ret2
      exact ⟨rfl, bel_trans bl.out b2⟩
    · rw [show ansBest o ts = .tuple #[.int .i64 ((bestP (cntP o ts) ts.length).1 : Int), .bool true] from by unfold ansBest; rw [hg, decide_eq_true (show 0 < ts.length by omega)]; rfl]
      have hS := fun (k : Nat) (hk : k < ts.length) W (g : Nat) (hR : RdT W W.heap.size (.slice (some ⟨g, 0, none⟩) 1 1) [ts.getD k tz]) => pSolsI_any o [ts.getD k tz] _ _ W hR (Nat.le_refl _) (pzG_one hg hk)
      have hcp : ∀ k, ((solA o [ts.getD k tz]).length : Int) = cntP o ts k := fun k => rfl
      obtain ⟨M, hM⟩ : ∃ M, ts.length = M + 1 := ⟨ts.length - 1, by omega⟩
      have hmin := fun v b W hI => min_any (cntP o ts) M v b W hI
      have hidx := fun v b W hI => index_any (cntP o ts) M v b W hI
      rw [← hM] at hmin hidx
      have hlr := cntR_len (cntP o ts)
      generalize hf : cntP o ts = f at *
      generalize hN : ts.length = N at *
      have HN := Lib.hid hN
      have HM := Lib.hid hM
      clear hN hM hf h
      have hnz : ¬ (N : Int) = 0 := by omega
      have d0 : decide ((N : Int) = 0) = false := by simpa using hnz
      have d0b : ((N : Int) == 0) = false := by simpa using hnz
      go_enter Try.func54, Try.ntmps54
      go_wp2_with fail
      refine (implIsPz_any o ts _ B _ (H0.out.below bl.out hB) (by simp; omega)).mono ?_
      rintro e w1 ⟨rfl, b1⟩
      rw [hg]
      have hb1 := bel_trans bl.out b1
      have bx1 := Lib.hid (bx.out.keep b1)
      obtain ⟨c0, c1, ck⟩ := bx1.out
      go_wp2_with fail
      clear c0 c1 ck
      go_loopw [4, 20] (fun x i wr => ∃ k : Nat, k ≤ N ∧ i = .int .i64 k ∧ Hid (IRow wr (w.heap.size + 1) x (cntR f k)) ∧ Hid (Box2 wr w.heap.size (.int .i64 o) (.slice A N cap)) ∧ Below w.heap.size w wr) (fun _ i _ => N - (intOf i).toNat)
      case atStart => exact ⟨0, by omega, rfl, Lib.hid (IRow.nil _ _), bx1, hb1⟩
      case round =>
        obtain ⟨k, hk, rfl, hI, hbx, hbl⟩ := hrel
        obtain ⟨c0, c1, ck⟩ := hbx.out
        by_cases hlt : k < N
        · have hkx : k < ts.length := by rw [HN.out]; exact hlt
          have hki : (k : Int) < (N : Int) := by omega
          obtain ⟨ad, x, y, z, rfl, hab, hxyz, e0, e1, e2⟩ := (H0.out.below hbl hB).at3 hkx
          have hne0 := World.new_ne wr ⟨w.heap.size, 0, none⟩ c0
          have hl := hlr k
          have hT := ((TRow.one 39 (wr.alloc (.cells #[.int .i64 x, .int .i64 y, .int .i64 z] 39)) (x, y, z)).below (bel_alloc (Below.refl _ _) (.cells #[.int .i64 o, .slice (some ⟨wr.heap.size + 1, 0, none⟩) 1 1] 29))).rd
          rw [show (wr.alloc (.cells #[.int .i64 x, .int .i64 y, .int .i64 z] 39)).heap.size = wr.heap.size + 1 from (size1 _ _).symm] at hT
          have hSk := hS k hlt
          have hck0 := hcp k
          rw [hxyz] at hSk hck0
          have HT := Lib.hid hT
          have hb3 := bel_alloc (bel_alloc (bel_alloc (Below.refl _ wr) (.cells #[.int .i64 x, .int .i64 y, .int .i64 z] 39)) (.cells #[.int .i64 x, .int .i64 y, .int .i64 z] 39)) (.cells #[.int .i64 o, .slice (some ⟨wr.heap.size + 1, 0, none⟩) 1 1] 29)
          have HB3 := Lib.hid hb3
          clear hT hxyz hb3
          go_wp2_with fail
          refine (hSk _ _ HT.out).mono ?_
          rintro e w3 ⟨v3, rfl, r3, b3⟩
          obtain ⟨A3, cap3, rfl, _, _⟩ := r3.rd.form
          have hb4 := bel_trans HB3.out b3
          have hI3 := Lib.hid (hI.out.below hb4)
          have hbx3 := Lib.hid (hbx.out.keep hb4)
          have hbl3 := bel_trans hbl hb4
          have hs : Hid (cntR f (k + 1) = cntR f k ++ [f k]) := Lib.hid rfl
          have hck := Lib.hid hck0
          clear r3 c0 c1 ck e0 e1 e2 hne0 hck0
          go_wp2_with (at_builtin; refine wpList_push1 rfl (.tmp 29) (.tmp 33) rfl _ _ _ hI3.out (by omega) (by have := hbx3.out.2.2; omega) ((solA o [(x, y, z)]).length : Int) rfl rfl ?_)
          intro v' w5 hI5 hb5
          have hbx5 := Lib.hid (hbx3.out.keepB hb5 (by omega))
          go_wp2_with fail
          exact ⟨⟨k + 1, by omega, by go_num, by rw [hs.out, ← hck.out]; exact Lib.hid hI5, hbx5, hbl3.trans (hb5.mono (by omega))⟩, by simp [intOf]; omega⟩
        · obtain rfl : k = N := by omega
          have hI2 := Lib.hid (show IRow wr (w.heap.size + 1) u4 (cntR f k) from hI.out)
          clear c0 c1 ck
          go_wp2_with fail
          refine (hmin _ _ _ (by have := hI2.out; rwa [HM.out] at this)).mono ?_
          rintro e w3 ⟨rfl, rfl⟩
          go_wp2_with fail
          refine (hidx _ _ _ (by have := hI2.out; rwa [HM.out] at this)).mono ?_
          rintro e w3 ⟨rfl, rfl⟩
          go_wp2_with fail
          go_ret2
          exact ⟨rfl, hbl⟩
set_option maxRecDepth 100000 in
set_option maxHeartbeats 3200000 in
theorem specBest_any (o : Int) (ts : List Tri) (v : Value) (B : Nat) (w : World) (h : RdT w B v ts) (hB : B ≤ w.heap.size) :
    Calls Try.prog 53 #[pz o v] w fun e w' => e = .returned (ansBest o ts) ∧ Below w.heap.size w w' := by
  have bl := Lib.hid (bel_alloc (Below.refl _ w) (.cells #[.int .i64 o, v] 29))
  have bx := Lib.hid (Box2.new w (.int .i64 o) v 29)
  have H0 := Lib.hid h
  obtain ⟨A, cap, rfl, hlc, hmc⟩ := h.form
  cases hg : pzG o ts
  · rw [show ansBest o ts = .tuple #[.int .i64 0, .bool false] from by unfold ansBest; rw [hg]; rfl]
    go_enter Try.func53, Try.ntmps53
    go_wp2_with fail
    refine (pzGood_any o ts _ B _ (H0.out.below bl.out hB) (by simp; omega)).mono ?_
    rintro e w2 ⟨rfl, b2⟩
    rw [hg]
    go_wp2
    go_ret2
    exact ⟨rfl, bel_trans bl.out b2⟩
  · obtain ⟨o1, o8, h6, hcl⟩ := pzG_in hg
    by_cases hz0 : ts.length = 0
    · rw [show ansBest o ts = .tuple #[.int .i64 0, .bool false] from by unfold ansBest; rw [hg, hz0]; rfl]
      obtain rfl : ts = [] := List.length_eq_zero_iff.1 hz0
      change Calls Try.prog 53 #[pz o (.slice A 0 cap)] w _
      clear hz0 h
      go_enter Try.func53, Try.ntmps53
      go_wp2_with fail
      refine (pzGood_any o _ _ B _ (H0.out.below bl.out hB) (by simp; omega)).mono ?_
      rintro e w2 ⟨rfl, b2⟩
      rw [hg]
      obtain ⟨c0, c1, ck⟩ := bx.out.keep b2
      have c1 : w2.cell? ⟨w.heap.size, 1, none⟩ = some (.slice A 0 cap) := c1
      go_wp2
      go_ret2
      exact ⟨rfl, bel_trans bl.out b2⟩
    · rw [show ansBest o ts = .tuple #[.int .i64 ((bestP (cntP o ts) ts.length).1 : Int), .bool true] from by unfold ansBest; rw [hg, decide_eq_true (show 0 < ts.length by omega)]; rfl]
      obtain ⟨ad, rfl, hab, _⟩ := h.at_ (k := 0) (by omega)
      have hS := fun (k : Nat) (hk : k < ts.length) (v : Value) W (hR : RdT W B v [ts.getD k tz]) (hz : B ≤ W.heap.size) => pzAllI_any o [ts.getD k tz] v _ W hR hz (pzG_one hg hk)
      have hR1 := fun (k : Nat) (hk : k < ts.length) => h.one hk hlc hmc
      have hcp : ∀ k, ((solA o [ts.getD k tz]).length : Int) = cntP o ts k := fun k => rfl
      generalize hf : cntP o ts = f at *
      generalize hN : ts.length = N at *
      have HN := Lib.hid hN
      clear hN hf h
      have hnz : ¬ (N : Int) = 0 := by omega
      have d0 : decide ((N : Int) = 0) = false := by simpa using hnz
      have d0b : ((N : Int) == 0) = false := by simpa using hnz
      go_enter Try.func53, Try.ntmps53
      go_wp2_with fail
      refine (pzGood_any o ts _ B _ (H0.out.below bl.out hB) (by simp; omega)).mono ?_
      rintro e w1 ⟨rfl, b1⟩
      rw [hg]
      have hb1 := bel_trans bl.out b1
      have bx1 := Lib.hid (bx.out.keep b1)
      obtain ⟨c0, c1, ck⟩ := bx1.out
      go_wp2_with fail
      clear c0 c1 ck
      go_loopw [4, 5, 20] (fun x y i wr => ∃ k : Nat, k ≤ N ∧ i = .int .i64 k ∧ x = .int .i64 ((bestP f k).1 : Int) ∧ y = .int .i64 (bestP f k).2 ∧ Hid (Box2 wr w.heap.size (.int .i64 o) (.slice (some ad) N cap)) ∧ Below w.heap.size w wr) (fun _ _ i _ => N - (intOf i).toNat)
      case atStart => exact ⟨0, by omega, rfl, rfl, rfl, bx1, hb1⟩
      case round =>
        obtain ⟨k, hk, rfl, rfl, rfl, hbx, hbl⟩ := hrel
        by_cases hlt : k < N
        · have hki : (k : Int) < (N : Int) := by omega
          have hs1 := cut_mid ad N cap k hlt hlc
          have hk4 : IntKind.i64.wrap ((k : Int) + 1) = (k : Int) + 1 := IntWalk.i64_in _ (by omega)
          have hSk := hS k hlt
          have hRk := hR1 k hlt
          have hck := hcp k
          generalize hL : (solA o [ts.getD k tz]).length = L at *
          have HL := Lib.hid hL
          clear hL
          go_wp2_with fail
          go_region_held3 (fun w' => w'.cell? ⟨w.heap.size, 0, none⟩ = some (.int .i64 o) ∧ w'.cell? ⟨w.heap.size, 1, none⟩ = some (.slice (some ad) N cap) ∧ w.heap.size < w'.heap.size ∧ Below w.heap.size w w')
            (first | exact held2_start hbx.out hbl | exact held2_keep (by assumption) hb6 | assumption | go_keep)
            (first | (go_at_call 69; refine (hSk _ _ (hRk.below (held2_below (by assumption)).2 hB) (by have := (held2_below (by assumption)).2.size; omega)).mono ?_; rintro e w6 ⟨v6, rfl, r6, hb6⟩; obtain ⟨A6, cap6, rfl, _, _⟩ := r6.rd.form; rw [HL.out]))
          all_goals
            obtain ⟨hbx9, hbl9⟩ := held2_below (by assumption)
            have hbx8 := Lib.hid hbx9
            clear hbx9 r6 hb6
            by_cases q0 : k = 0
            · have hs := Lib.hid (bestP_yes (f := f) (k := k) (.inl q0))
              have n0 : ((k : Int) == 0) = true := by simp [q0]
              clear q0 hck
              go_wp2
              exact ⟨⟨k + 1, by omega, by go_num, by rw [hs.out], by rw [hs.out], hbx8, hbl9⟩, by simp [intOf]; omega⟩
            · have n0 : ((k : Int) == 0) = false := by simp; omega
              by_cases q1 : f k < (bestP f k).2
              · have hs := Lib.hid (bestP_yes (f := f) (k := k) (.inr q1))
                clear q0 hck
                generalize (bestP f k).2 = M at *
                have n1 : decide (f k < M) = true := by simpa using q1
                go_wp2
                exact ⟨⟨k + 1, by omega, by go_num, by rw [hs.out], by rw [hs.out], hbx8, hbl9⟩, by simp [intOf]; omega⟩
              · have hs := Lib.hid (bestP_no (f := f) (k := k) (by omega))
                clear q0 hck
                have n1 : decide (f k < (bestP f k).2) = false := by simpa using q1
                generalize hM : (bestP f k).2 = M at *
                have HM := Lib.hid hM
                clear hM
                go_wp2
                exact ⟨⟨k + 1, by omega, by go_num, by rw [hs.out], by rw [hs.out, HM.out], hbx8, hbl9⟩, by simp [intOf]; omega⟩
        · obtain rfl : k = N := by omega
          go_wp2
          go_ret2
          exact ⟨rfl, hbl⟩
end Go.Proofs.Ytggflgmjncjmbaa
