/- FirstWay: the program's contract. -/
import Derived.Test.YthmdkbeccohjkaaFwS
import Derived.Test.YthmdkbeccohjkaaClone
import Derived.WalkMore
namespace Go.Proofs.Ythmdkbeccohjkaa
set_option linter.unusedSimpArgs false
open Go.ChangeShapes Go.WideShapes Go.ChangeAt Go.RowKit
set_option linter.unusedVariables false

/-- A row that the call made is laid into a block of its own and appended to rows that the call made; blocks of other types stay as they are. -/
theorem wpList_pushX {ops : Array Oper} {rest : List Oper} {o : Oper} {a : Act} {Q : Exit → Act → World → Prop} {W : World} (hgd : o.guard = none) (s x : Operand)
    (ho : o.op = .call { callee := .builtin .append, args := #[s, x], argTypes := #[22, 22] }) (lo hi : Nat) (v : Value) (m : List (List Int)) (hown : OwnM W lo hi v m) (hlo : lo ≤ hi) (hlen : m.length ≤ 2000000) (r : Value) (xs : List Int) (hr : IRow W hi r xs) (h1c : r.oneCell' = true)
    (k2 : Nat) (hk2 : k2 = W.heap.size) (hs : a.eval s = v) (hx : a.eval x = .slice (some ⟨k2, 0, none⟩) 1 1)
    (h : ∀ v' w', OwnM w' lo w'.heap.size v' (m ++ [xs]) → Below lo W w' → (∀ (X : Nat) (c : Array Value) (T : TypeId), W.heap[X]? = some (.cells c T) → T ≠ 26 → w'.heap[X]? = some (.cells c T)) → wpList Try.prog ops Q rest (a.put o.dst v') w') : wpList Try.prog ops Q (o :: rest) a (W.alloc (.cells #[r] 26)) := by
  subst hk2
  have hhi : hi ≤ W.heap.size := hown.1
  have hB : Below hi W (W.alloc (.cells #[r] 26)) := (Below.refl hi W).alloc hhi _
  obtain ⟨vs, hms⟩ := (hown.below hB (Nat.le_refl _)).parts
  have hr2 : IRow (W.alloc (.cells #[r] 26)) hi r xs := World.ownsRow.alloc hr _
  obtain ⟨i0, hi0, hz0, hz1, hz2⟩ := info_parts info_ints
  refine wpList_append_own _ hgd s x 22 ho lo 26 i0 nilS 1 24 Try.underlying22 hi0 hz0 hz1 hz2 rfl (by decide) v m.length vs hs hms.2.1 ⟨W.heap.size, 0, none⟩ 1 1 [r] hx rfl ?_ ?_ ?_ ?_ ?_ ?_
  · intro j y hy
    cases j with
    | zero =>
      simp at hy
      subst hy
      simp [go_sem]
    | succ j => simp at hy
  · intro y hy; simp at hy; subst hy; exact h1c
  · unfold maxLen; omega
  · omega
  · rw [← size1]; omega
  · intro v' w' h1 h2 _
    have hv : ∀ k, v.ownBlock = some k → lo ≤ k ∧ k < hi := fun k hk => ⟨(World.ownsRow.lt hms.2.1 k hk).1, hms.2.2.1 k hk⟩
    refine h v' w' (OwnMs.snoc hms hr2 hlo h1 h2) ?_ ?_
    · refine Below.grown ((Below.refl lo W).alloc (by omega) _) h2 (by rw [← size1]; omega) fun k hk => (hv k hk).1
    · intro X c T hX hT
      have hlt : X < W.heap.size := by
        rcases Nat.lt_or_ge X W.heap.size with q | q
        · exact q
        · rw [Array.getElem?_eq_none q] at hX; cases hX
      have hX1 : (W.alloc (.cells #[r] 26)).heap[X]? = some (.cells c T) := by rw [heap_alloc_old _ _ hlt]; exact hX
      rw [h2.block X (by rw [← size1]; omega) ?_]
      · exact hX1
      · intro e
        obtain ⟨cur, hc⟩ := row_block hms.2.1 e.symm
        rw [hc] at hX1
        injection hX1 with hX1
        injection hX1 with _ e2
        exact hT e2.symm
/-- A store into a block of another type leaves rows as they are. -/
theorem OwnM.other {w w' : World} {lo hi X : Nat} {v : Value} {m : List (List Int)} {c : Array Value} {T : TypeId} (h : OwnM w lo hi v m) (hX : w.heap[X]? = some (.cells c T)) (h1 : T ≠ 26) (h2 : T ≠ 3) (hk : ∀ k, k ≠ X → w'.heap[k]? = w.heap[k]?) (hs : w.heap.size ≤ w'.heap.size) : OwnM w' lo hi v m := by
  obtain ⟨hh, vs, a, b, d, e⟩ := h
  have key : ∀ (t : TypeId) (u : Value) (n lo' : Nat) (xs : List Value), t ≠ T → w.ownsRow lo' t 1 u n xs → w'.ownsRow lo' t 1 u n xs := by
    intro t u n lo' xs ht hr
    refine ⟨hr.1, ?_⟩
    have hb := fun (k : Nat) (q : u.ownBlock = some k) => row_block hr q
    rcases hr.2 with hn | ⟨g, cap, cur, rfl, hbg, hgg, rest⟩
    · exact .inl hn
    · refine .inr ⟨g, cap, cur, rfl, hbg, ?_, rest⟩
      rw [← hgg]
      refine hk g fun e => ?_
      subst e
      rw [hX] at hgg
      injection hgg with hgg
      injection hgg with _ e2
      exact ht e2.symm
  exact ⟨Nat.le_trans hh hs, vs, key _ _ _ _ _ (fun e => h1 e.symm) a, b, fun i => ⟨key _ _ _ _ _ (fun e => h2 e.symm) (d i).1, (d i).2⟩, e⟩
theorem ownM_lit (W0 : World) (x : Int) : OwnM ((W0.alloc (.cells #[.int .i64 x] 3)).alloc (.cells #[.slice (some ⟨W0.heap.size, 0, none⟩) 1 1] 26)) W0.heap.size (W0.heap.size + 1 + 1) (.slice (some ⟨W0.heap.size + 1, 0, none⟩) 1 1) [[x]] := by
  have s1 := size1 W0 (.cells #[.int .i64 x] 3)
  have h := World.ownsRow_lit (base := W0.heap.size) (e := 26) (size := 1) (W0.alloc (.cells #[.int .i64 x] 3)) #[.slice (some ⟨W0.heap.size, 0, none⟩) 1 1] 1 (by omega) (by simp [maxLen]) (by simp)
  rw [← s1] at h
  refine ⟨by rw [← size1, ← size1]; exact Nat.le_refl _, [.slice (some ⟨W0.heap.size, 0, none⟩) 1 1], by simpa using h, fun k hk => by simp [Value.ownBlock] at hk; omega, fun q => ?_, fun q r hqr k hk => ?_⟩
  · cases q with
    | zero => exact ⟨World.ownsRow.alloc (IRow.lit1 W0 x) _, fun k hk => by simp [Value.ownBlock] at hk; omega⟩
    | succ q => exact ⟨IRow.nil _ _, fun k hk => by simp [Value.ownBlock] at hk⟩
  · cases r with
    | zero => omega
    | succ r => simp [Value.ownBlock]
theorem OwnM.row {w : World} {lo hi g n cap k : Nat} {m : List (List Int)} (h : OwnM w lo hi (.slice (some ⟨g, 0, none⟩) n cap) m) (hk : k < m.length) : ∃ r, w.cell? ⟨g, k, none⟩ = some r ∧ IRow w lo r (m.getD k []) := by
  obtain ⟨hh, vs, h1, h2, h3, h4⟩ := h
  have hl := ownsRow.length h1
  have hn : n = m.length := by
    rcases h1.2 with ⟨e, _⟩ | ⟨g', cap', cur, e, _⟩
    · cases e
    · injection e
  subst hn
  refine ⟨vs.getD k nilS, ?_, (h3 k).1⟩
  rw [World.ownsRow.cellAt h1 k (by omega), List.getD_eq_getElem?_getD, List.getElem?_eq_getElem (by omega)]
  rfl
theorem getD_mapI (ways : List (List Nat)) (k : Nat) : (ways.map ints).getD k [] = ints (ways.getD k []) := by
  simp only [List.getD_eq_getElem?_getD, List.getElem?_map]
  cases ways[k]? <;> rfl
theorem IRow.formP {w : World} {b : Nat} {v : Value} {xs : List Int} (h : IRow w b v xs) (hl : 0 < xs.length) : ∃ g cap, v = .slice (some ⟨g, 0, none⟩) xs.length cap ∧ xs.length ≤ cap ∧ cap ≤ maxLen ∧ g < w.heap.size := by
  have hlt := h.lt
  rcases h.2 with ⟨rfl, h0⟩ | ⟨g, cap, cur, rfl, hb, hg, hn, hc, hs, ht⟩
  · omega
  · exact ⟨g, cap, rfl, hn, hc, (hlt g rfl).2⟩
theorem setCell_ne (w : World) (X i k : Nat) (v : Value) (h : k ≠ X) : (w.setCell ⟨X, i, none⟩ v).heap[k]? = w.heap[k]? := by
  simp [World.setCell, Array.getElem?_modify, Ne.symm h]
theorem rowM_get (h : Nat → Bool) : ∀ q, q < 5 → (rowM h)[q]? = some (.bool (h q)) := by apply cases5 <;> rfl
theorem rowM_set (h : Nat → Bool) (x : Bool) : ∀ q, q < 5 → (rowM h).setIfInBounds q (.bool x) = rowM (updB h q x) := by apply cases5 <;> rfl
theorem mrk_zero (w : World) : (zeroValue 55).run Try.prog w = .ok (.agg (rowM noB)) w := Try.zeroValue55 w

set_option maxRecDepth 100000 in
set_option maxHeartbeats 6400000 in
theorem firstWay_any (a : Int) (m : List (List Int)) (i j : Nat) (w : World) (hg : Good a m) (hi : i < m.length) (hj : j < m.length) :
    Calls Try.prog 18 #[.agg (mvC a m.length (gridM m)), .int .i64 i, .int .i64 j] w fun e w' => ∃ u, e = .returned u ∧ Below w.heap.size w w' ∧ ((thr (edgeB m) m.length i j = true ∧ ∃ ws, IsFW (edgeB m) i j ws ∧ IRow w' w.heap.size u (ints ws)) ∨ (thr (edgeB m) m.length i j = false ∧ u = .slice none 0 0)) := by
  have n5 := hg.five
  have HG := Lib.hid hg
  have hi5 : (i : Int) < 5 := by omega
  have hj5 : (j : Int) < 5 := by omega
  clear hg
  go_enter Try.func18, Try.ntmps18
  have q1 := rowM_get noB i (by omega)
  have q4 := rowM_set noB true i (by omega)
  go_wp2_with fail
  go_step3
  go_wp2_with (first
    | (refine wpList_alloc_row rfl 55 rfl (rowM noB) (mrk_zero _) ?_))
  go_step3
  go_wp2_with fail
  obtain ⟨W0, hW0⟩ : ∃ W : World, W = w.alloc (.cells (mvC a m.length (gridM m)) 45) := ⟨_, rfl⟩
  have hM0 : W0.heap[w.heap.size]? = some (.cells (mvC a m.length (gridM m)) 45) := by rw [hW0]; exact heap_alloc_new _ _
  have hS0 : W0.heap.size = w.heap.size + 1 := by rw [hW0, ← size1]
  have hBW : Below w.heap.size w W0 := by rw [hW0]; exact bel_alloc (Below.refl _ w) _
  rw [← hW0]
  obtain ⟨X, hX⟩ : ∃ X, X = w.heap.size + 1 + 1 + 1 := ⟨_, rfl⟩
  have hXw : w.heap.size + 1 ≤ X := by omega
  have hst := Lib.hid (FwInv.start (edgeB m) (seen := updB noB i true) hi (fun x _ => by unfold updB noB; simp))
  obtain ⟨ways0, hways0⟩ : ∃ ways : List (List Nat), ways = [[i]] := ⟨_, rfl⟩
  obtain ⟨s0, hs0⟩ : ∃ s, s = updB noB i true := ⟨_, rfl⟩
  have hown0 : OwnM (((W0.alloc (.cells #[.int .i64 (i : Int)] 3)).alloc (.cells #[.slice (some ⟨w.heap.size + 1, 0, none⟩) 1 1] 26)).alloc (.cells (rowM s0) 55)) (w.heap.size + 1) X (.slice (some ⟨w.heap.size + 1 + 1, 0, none⟩) 1 1) (ways0.map ints) := by
    have h := ownM_lit W0 i
    rw [hS0, ← hX] at h
    rw [hways0]
    have hb := bel_alloc (Below.refl ((W0.alloc (.cells #[.int .i64 (i : Int)] 3)).alloc (.cells #[.slice (some ⟨w.heap.size + 1, 0, none⟩) 1 1] 26)).heap.size ((W0.alloc (.cells #[.int .i64 (i : Int)] 3)).alloc (.cells #[.slice (some ⟨w.heap.size + 1, 0, none⟩) 1 1] 26))) (.cells (rowM s0) 55)
    exact h.below hb (by rw [← size1, ← size1, hS0]; omega)
  have hst0 := Lib.hid (by have := hst.out; rw [← hways0, ← hs0] at this; exact this)
  have hX0 : (((W0.alloc (.cells #[.int .i64 (i : Int)] 3)).alloc (.cells #[.slice (some ⟨w.heap.size + 1, 0, none⟩) 1 1] 26)).alloc (.cells (rowM s0) 55)).heap[X]? = some (.cells (rowM s0) 55) := by
    have h := heap_alloc_new ((W0.alloc (.cells #[.int .i64 (i : Int)] 3)).alloc (.cells #[.slice (some ⟨w.heap.size + 1, 0, none⟩) 1 1] 26)) (.cells (rowM s0) 55)
    rw [← size1, ← size1, hS0, ← hX] at h
    exact h
  have hb0 : Below W0.heap.size W0 (((W0.alloc (.cells #[.int .i64 (i : Int)] 3)).alloc (.cells #[.slice (some ⟨w.heap.size + 1, 0, none⟩) 1 1] 26)).alloc (.cells (rowM s0) 55)) := bel_alloc (bel_alloc (bel_alloc (Below.refl _ W0) _) _) _
  have hz0 : X < (((W0.alloc (.cells #[.int .i64 (i : Int)] 3)).alloc (.cells #[.slice (some ⟨w.heap.size + 1, 0, none⟩) 1 1] 26)).alloc (.cells (rowM s0) 55)).heap.size := by rw [← size1, ← size1, ← size1, hS0]; omega
  have hj0 : s0 j = true → lst (ways0.getD (ways0.length - 1) []) = j := by rw [hs0, hways0]; unfold updB noB; simp [lst]; omega
  have hlen0 : ways0.length = 1 := by rw [hways0]; rfl
  have HS0 := Lib.hid hS0
  have HM0 := Lib.hid hM0
  have HO0 := Lib.hid hown0
  have HX0 := Lib.hid hX0
  have HJ0 := Lib.hid hj0
  rw [← hs0, ← hX]
  have HX := Lib.hid hX
  clear hs0 hways0 hst q1 q4 hW0 hM0 hown0 hX0 hj0 hX
  go_loopw [7, 9] (fun v x wr => ∃ (ways : List (List Nat)) (k : Nat) (s : Nat → Bool), k ≤ 5 ∧ x = .int .i64 k ∧ Hid (OwnM wr (w.heap.size + 1) wr.heap.size v (ways.map ints)) ∧ Hid (wr.heap[X]? = some (.cells (rowM s) 55)) ∧ Hid (FwInv (edgeB m) m.length i k 0 ways s) ∧ Hid (s j = true → lst (ways.getD (ways.length - 1) []) = j) ∧ Below W0.heap.size W0 wr ∧ X < wr.heap.size) (fun _ x _ => 5 - (intOf x).toNat)
  case atStart => exact ⟨ways0, 0, s0, by omega, rfl, HO0.out.more (by omega) (Nat.le_refl _), HX0, hst0, HJ0, hb0, hz0⟩
  case round =>
    clear HO0 HX0 HJ0 hb0 hz0 hst0 hlen0
    obtain ⟨ways, k, s, hk5, rfl, hO, hXs, hF, hJ, hb, hsz⟩ := hrel
    obtain ⟨wa, rfl⟩ : ∃ wa : World, wa = wr := ⟨_, rfl⟩
    have hpos := hF.out.pos
    have hwn := hF.out.size nodup_lt_length
    obtain ⟨g, capg, rfl, hg1, hg2, hg3, hg4⟩ := hO.out.form (by rw [List.length_map]; exact hpos)
    generalize hK : (ways.map ints).length = K at hO hg3 ⊢
    have hKw : K = ways.length := by rw [← hK, List.length_map]
    obtain ⟨K, rfl⟩ : ∃ q, K = q + 1 := ⟨K - 1, by omega⟩
    have HK := Lib.hid hKw
    have hK5 : K + 1 ≤ 5 := by omega
    have hile : k ≤ K + 1 := by rw [hKw]; exact hF.out.ile
    have e1 := cell_heap hXs.out (rowM_get s j (by omega))
    have hO1 := hO
    have hwb := Lib.hid (hb.mono (show w.heap.size ≤ W0.heap.size by omega))
    clear hK hKw hpos hwn
    cases hsj : s j with
    | true =>
      rw [hsj] at e1
      obtain ⟨r, e2, hr⟩ := hO.out.row (k := K) (by rw [List.length_map, ← HK.out]; omega)
      rw [getD_mapI] at hr
      obtain ⟨A9, cap9, rfl, c9, d9⟩ := hr.rd.form
      have HR := Lib.hid hr
      have hfw := Lib.hid (hF.out.found (a := K) (goal := j) (by rw [← HK.out]; omega) (by have := hJ.out hsj; rw [← HK.out] at this; exact this))
      have hth : thr (edgeB m) m.length i j = true := (thr_iff _ _ (fun i j he => (edge_in HG.out he).1) _ _).2 hfw.out.1.rch
      have HT := Lib.hid hth
      generalize hQ : (ints (ways.getD K [])).length = Q at e2 c9 HR ⊢
      clear hr hth hQ hsj
      by_cases hkK : k < K + 1
      · have hki : (k : Int) < (K : Int) + 1 := by omega
        go_wp2_with fail
        rw [Exit.noGoto_ret]
        go_ret
        exact ⟨_, rfl, hBW.trans hwb.out, .inl ⟨HT.out, _, hfw.out, HR.out.mono (by omega)⟩⟩
      · have hki : ¬ (k : Int) < (K : Int) + 1 := by omega
        go_wp2_with fail
        go_ret
        exact ⟨_, rfl, hBW.trans hwb.out, .inl ⟨HT.out, _, hfw.out, HR.out.mono (by omega)⟩⟩
    | false =>
      rw [hsj] at e1
      by_cases hkK : k < K + 1
      · have hki : (k : Int) < (K : Int) + 1 := by omega
        have hkw : k < ways.length := by rw [← HK.out]; exact hkK
        obtain ⟨r, e2, hr⟩ := hO.out.row (k := k) (by rw [List.length_map]; exact hkw)
        rw [getD_mapI] at hr
        have hway := hF.out.way k hkw
        have hwpos := hway.pos
        have hlast : lst (ways.getD k []) < m.length := hF.out.lt k hkw
        have hlen := hF.out.wlen k hkw
        obtain ⟨wk, hwk⟩ : ∃ l, l = ways.getD k [] := ⟨_, rfl⟩
        rw [← hwk] at hr hwpos hlast hway hlen
        obtain ⟨ad9, cap9, rfl, c9, d9⟩ : ∃ ad cap, r = .slice (some ad) (ints wk).length cap ∧ (ints wk).length ≤ cap ∧ cap ≤ maxLen := by
          obtain ⟨A9, cap9, rfl, c9, d9⟩ := hr.rd.form
          obtain ⟨ad, rfl, _⟩ := hr.rd.at_ (k := 0) (by rw [ints_len]; exact hwpos)
          exact ⟨ad, cap9, rfl, c9, d9⟩
        obtain ⟨ad', ea, _, e3⟩ := hr.rd.at_ (k := wk.length - 1) (by rw [ints_len]; omega)
        injection ea with ea
        subst ea
        rw [ints_get _ _ (by omega), show wk.getD (wk.length - 1) 0 = lst wk from rfl] at e3
        rw [ints_len] at e2 c9
        have HW := Lib.hid (show ways.getD k [] = wk from hwk.symm)
        have HRW := Lib.hid hr
        obtain ⟨L, hL⟩ : ∃ q, wk.length = q + 1 := ⟨wk.length - 1, by omega⟩
        have HL := Lib.hid hL
        rw [hL] at e2 c9 e3 hlen
        rw [show L + 1 - 1 = L from rfl] at e3
        obtain ⟨x0, hx0⟩ : ∃ x, x = lst wk := ⟨_, rfl⟩
        rw [← hx0] at e3 hlast
        have HX0 := Lib.hid hx0
        have hL5 : L ≤ 5 := by have := HK.out; omega
        have hw1 : IntKind.i64.wrap (L : Int) = (L : Int) := IntWalk.i64_in _ (by omega)
        have hl1 : (L : Int) < (L : Int) + 1 := by omega
        clear hr hway hwpos hL hx0 hwk
        have hMa : wa.heap[w.heap.size]? = some (.cells (mvC a m.length (gridM m)) 45) := (hb.block w.heap.size (by omega)).trans HM0.out
        have e7 := cell_heap (q := 1) (v := .int .i64 (m.length : Int)) hMa rfl
        clear hMa
        go_wp2_with fail
        go_quiet (fail)
        go_wp2_with fail
        go_loopw [7, 43] (fun v x wr => ∃ (ways : List (List Nat)) (t : Nat) (s : Nat → Bool), t ≤ m.length ∧ x = .int .i64 t ∧ Hid (OwnM wr (w.heap.size + 1) wr.heap.size v (ways.map ints)) ∧ Hid (wr.heap[X]? = some (.cells (rowM s) 55)) ∧ Hid (FwInv (edgeB m) m.length i k t ways s) ∧ Hid (s j = false) ∧ Hid (k < ways.length ∧ ways.getD k [] = wk) ∧ Below W0.heap.size W0 wr ∧ X < wr.heap.size) (fun _ x _ => m.length - (intOf x).toNat)
        case atStart => exact ⟨ways, 0, s, by omega, rfl, hO.out.drewN _, hXs, hF, hsj, ⟨by rw [← HK.out]; exact hkK, HW.out⟩, bel_drewF hb _, hsz⟩
        case round =>
          clear hO hXs hF hJ hb hsz hO1 hwb HW HK e1 e2 e3 e7 HRW hg1 hg2 hg3 hg4
          obtain ⟨ways, t, s, htN, rfl, hO, hXs, hF, hsj, hkw, hb, hsz⟩ := hrel
          obtain ⟨wd, rfl⟩ : ∃ wd : World, wd = wr := ⟨_, rfl⟩
          have hwn := hF.out.size nodup_lt_length
          have hkw1 := hkw.out.1
          obtain ⟨g2, capg2, rfl, hg1, hg2, hg3, hg4⟩ := hO.out.form (by rw [List.length_map]; omega)
          generalize hK : (ways.map ints).length = K2 at hO hg3 ⊢
          have hKw : K2 = ways.length := by rw [← hK, List.length_map]
          have HK := Lib.hid hKw
          have hK5 : K2 ≤ 5 := by omega
          clear hK
          by_cases hlt : t < m.length
          · have e1 := cell_heap hXs.out (rowM_get s t (by omega))
            have htI : (t : Int) < 5 := by omega
            have htN2 : (t : Int) < (m.length : Int) := by omega
            cases hst : s t with
            | true =>
              rw [hst] at e1
              have hn := Lib.hid (hF.out.skip (.inr hst))
              clear hst hKw hwn hkw1
              go_wp2_with fail
              exact ⟨⟨ways, t + 1, s, by omega, by go_num, hO, hXs, hn, hsj, hkw, hb, hsz⟩, by simp [intOf]; omega⟩
            | false =>
              rw [hst] at e1
              have hMa : wd.heap[w.heap.size]? = some (.cells (mvC a m.length (gridM m)) 45) := (hb.block w.heap.size (by omega)).trans HM0.out
              have e7 := cell_heap (q := 1) (v := .int .i64 (m.length : Int)) hMa rfl
              have e8 := mvC_get a (m.length : Int) (gridM m) (x0 * 5 + t) (by omega)
              rw [← Nat.add_assoc, gridM_at m x0 t (by omega)] at e8
              have e9 := cell_heap hMa e8
              have hx5 : (x0 : Int) < 5 := by omega
              have hnn := (HG.out.num x0 t).1
              have hlst : lst (ways.getD k []) = x0 := by rw [hkw.out.2]; exact HX0.out.symm
              clear hMa e8
              by_cases hz : atM m x0 t = 0
              · have hn := Lib.hid (hF.out.skip (.inl (by rw [hlst]; unfold edgeB; rw [hz]; rfl)))
                have hz1 : (atM m x0 t == 0) = true := by simpa using hz
                clear hst hlst hKw hwn hkw1
                generalize atM m x0 t = q at *
                clear hz
                go_wp2_with fail
                exact ⟨⟨ways, t + 1, s, by omega, by go_num, hO, hXs, hn, hsj, hkw, hb, hsz⟩, by simp [intOf]; omega⟩
              · have he : edgeB m (lst (ways.getD k [])) t = true := by rw [hlst]; unfold edgeB; simp; omega
                have hn := Lib.hid (hF.out.meet (seen' := updB s t true) (fun i j he => (edge_in HG.out he).2) n5 hkw1 hlt he hst (fun x _ => by unfold updB; by_cases e : x = t <;> simp [e]))
                rw [hkw.out.2] at hn
                have hz1 : (atM m x0 t == 0) = false := by simpa using hz
                have hgX : g2 ≠ X := by
                  intro e
                  subst e
                  obtain ⟨_, vs, h1, _⟩ := hO.out
                  obtain ⟨cur, hc⟩ := row_block h1 (k := g2) rfl
                  have := hXs.out
                  rw [hc] at this
                  injection this with this
                  injection this with _ e2
                  exact absurd e2 (by decide)
                have q1 := rowM_get s t (by omega)
                have q3 : wd.frozen? ⟨X, t, none⟩ = false := froz_heap hXs.out
                have hX2 := set_heap (q := t) hXs.out (.bool true)
                rw [rowM_set s true t (by omega)] at hX2
                have hO2 := (hO.out.other hXs.out (w' := wd.setCell ⟨X, t, none⟩ (.bool true)) (by decide) (by decide) (fun q hq => setCell_ne _ _ _ _ _ hq) (by simp [World.setCell])).more (hi' := (wd.setCell ⟨X, t, none⟩ (.bool true)).heap.size) (by simp [World.setCell]) (Nat.le_refl _)
                have hb2 : Below W0.heap.size W0 (wd.setCell ⟨X, t, none⟩ (.bool true)) := hb.setCell (by show W0.heap.size ≤ X; omega) _
                have hsz2 : X < (wd.setCell ⟨X, t, none⟩ (.bool true)).heap.size := by simpa [World.setCell] using hsz
                have HX2 := Lib.hid hX2
                have HO2 := Lib.hid hO2
                have hgX2 : ¬ X = g2 := fun e => hgX e.symm
                obtain ⟨r, e2, hr⟩ := hO2.row (k := k) (by rw [List.length_map]; exact hkw1)
                rw [getD_mapI, hkw.out.2] at hr
                rw [World.cell?_setCell_far _ _ _ _ (by exact hgX2)] at e2
                obtain ⟨g5, cap5, rfl, c5, d5, f5⟩ := hr.formP (by rw [ints_len, HL.out]; omega)
                have HRD := Lib.hid hr.rd
                rw [ints_len, HL.out] at e2 c5
                have hkI : (k : Int) < (K2 : Int) := by omega
                have hmap := Lib.hid (show (ways.map ints) ++ [ints wk ++ [(t : Int)]] = (ways ++ [wk ++ [t]]).map ints by rw [ints_push]; simp)
                have hlm := Lib.hid (show (ways.map ints).length ≤ 2000000 by rw [List.length_map]; omega)
                have hll := Lib.hid (show (ints wk).length ≤ 1000000 by rw [ints_len, HL.out]; omega)
                clear hst hlst he hr hX2 hO2 hKw hwn hkw1 hz
                generalize atM m x0 t = q at *
                go_wp2_with fail
                obtain ⟨we, hwe⟩ : ∃ W, W = wd.setCell ⟨X, t, none⟩ (.bool true) := ⟨_, rfl⟩
                rw [← hwe] at hb2 hsz2 HX2 HO2 HRD ⊢
                clear hwe
                refine (clone_n (ints wk) (L + 1) (by rw [ints_len]; exact HL.out) g5 0 cap5 _ we HRD.out (Nat.le_refl _) (by omega) (by omega)).mono ?_
                rintro e w5 ⟨v5, rfl, hI5, b5⟩
                have HI5 := Lib.hid hI5
                have hs5 := b5.size
                clear hI5
                go_wp2_with (at_builtin; refine wpList_push1 rfl (.tmp 65) (.tmp 67) rfl we.heap.size _ _ HI5.out hll.out hs5 (t : Int) rfl rfl ?_)
                intro v6 w6 hI6 b6
                obtain ⟨g6, cap6, rfl, c6, d6, f6⟩ := hI6.formP (by rw [List.length_append, List.length_singleton]; omega)
                generalize hQ : (ints wk ++ [(t : Int)]).length = Q at hI6 c6
                clear hQ
                have HI6 := Lib.hid hI6
                have hb56 := b5.trans b6
                have HO6 := Lib.hid (HO2.out.below hb56 (Nat.le_refl _))
                have hs6 := hb56.size
                have HX6 := Lib.hid ((hb56.block X hsz2).trans HX2.out)
                clear hI6
                go_wp2_with (at_builtin; refine wpList_pushX rfl (.tmp 60) (.tmp 69) rfl (w.heap.size + 1) we.heap.size _ _ HO6.out (by omega) hlm.out _ _ HI6.out rfl _ rfl rfl rfl ?_)
                intro v7 w7 hO7 b7 hK7
                have hX7 := hK7 X _ _ HX6.out (by decide)
                rw [hmap.out] at hO7
                have hb7 : Below W0.heap.size W0 w7 := (hb2.trans (hb56.mono hb2.size)).trans (by rw [HS0.out]; exact b7)
                have hs7 : X < w7.heap.size := Nat.lt_of_lt_of_le (Nat.lt_of_lt_of_le hsz2 hs6) b7.size
                have HO7 := Lib.hid hO7
                obtain ⟨g7, cap7, rfl, c71, c72, c73, c74⟩ := hO7.form (by rw [List.length_map, List.length_append, List.length_singleton]; omega)
                have hHX7 := Lib.hid hX7
                have hkw7 : Hid (k < (ways ++ [wk ++ [t]]).length ∧ (ways ++ [wk ++ [t]]).getD k [] = wk) := Lib.hid ⟨by rw [List.length_append]; have := hkw.out.1; omega, by rw [getD_snoc, if_pos hkw.out.1]; exact hkw.out.2⟩
                generalize hK7' : ((ways ++ [wk ++ [t]]).map ints).length = K7 at HO7 c73 ⊢
                have hK7w : K7 = ways.length + 1 := by rw [← hK7', List.length_map, List.length_append, List.length_singleton]
                clear hK7' hK7 hO7 hX7 HX6 HO6 HI5
                by_cases htj : t = j
                · subst htj
                  have e1 := cell_heap hHX7.out (rowM_get (updB s t true) t (by omega))
                  rw [show updB s t true t = true from by simp [updB]] at e1
                  obtain ⟨r7, e2, hr7⟩ := HO7.out.row (k := ways.length) (by rw [List.length_map, List.length_append, List.length_singleton]; omega)
                  rw [getD_mapI, show (ways ++ [wk ++ [t]]).getD ways.length [] = wk ++ [t] from by rw [getD_snoc, if_neg (by omega), if_pos rfl]] at hr7
                  obtain ⟨A9, cap9, rfl, c9, d9⟩ := hr7.rd.form
                  have hfw := Lib.hid (hn.out.found (a := ways.length) (goal := t) (by rw [List.length_append, List.length_singleton]; omega) (by rw [getD_snoc, if_neg (by omega), if_pos rfl, lst_snoc]))
                  have hth : thr (edgeB m) m.length i t = true := (thr_iff _ _ (fun i j he => (edge_in HG.out he).1) _ _).2 hfw.out.1.rch
                  rw [show (ways ++ [wk ++ [t]]).getD ways.length [] = wk ++ [t] from by rw [getD_snoc, if_neg (by omega), if_pos rfl]] at hfw
                  have HT := Lib.hid hth
                  have HR7 := Lib.hid hr7
                  generalize (ints (wk ++ [t])).length = Q7 at HR7 e2 c9
                  generalize ways.length = K8 at *
                  have HK7 := Lib.hid hK7w
                  subst hK7w
                  have hk85 : K8 ≤ 5 := by have := HK.out; omega
                  clear hr7 hth
                  go_wp2_with fail
                  go_ret
                  exact ⟨_, rfl, hBW.trans (hb7.mono (by omega)), .inl ⟨HT.out, _, hfw.out, HR7.out.mono (by omega)⟩⟩
                · have htj1 : ((t : Int) == (j : Int)) = false := by simpa using (fun e => htj (by omega))
                  have htj2 : ¬ (t : Int) = (j : Int) := by omega
                  have hsj7 : Hid (updB s t true j = false) := Lib.hid (by unfold updB; rw [if_neg (fun e => htj e.symm)]; exact hsj.out)
                  clear hK7w
                  go_wp2_with fail
                  exact ⟨⟨ways ++ [wk ++ [t]], t + 1, updB s t true, by omega, by go_num, HO7, hHX7, hn, hsj7, hkw7, hb7, hs7⟩, by simp [intOf]; omega⟩
          · have htN3 : t = m.length := by omega
            rw [htN3] at hF
            have hn := Lib.hid (hF.out.next n5 hkw1)
            have hjj : Hid (s j = true → lst (ways.getD (ways.length - 1) []) = j) := Lib.hid (fun h => by rw [hsj.out] at h; cases h)
            have hk4 : k + 1 ≤ 5 := by omega
            have htI : ¬ (t : Int) < (m.length : Int) := by omega
            clear htN3 hKw hwn hkw1
            go_wp2_with fail
            exact ⟨⟨ways, k + 1, s, by omega, by go_num, hO, hXs, hn, hjj, hb, hsz⟩, by simp [intOf]; omega⟩
      · have hki : ¬ (k : Int) < (K : Int) + 1 := by omega
        have hkK2 : k = ways.length := by rw [← HK.out]; omega
        have hno : ¬ Rch (edgeB m) i j := by
          have h := hF.out
          rw [hkK2] at h
          exact h.none (fun i j he => (edge_in HG.out he).2) hsj
        have hth : thr (edgeB m) m.length i j = false := by
          cases hq : thr (edgeB m) m.length i j with
          | false => rfl
          | true => exact absurd ((thr_iff _ _ (fun i j he => (edge_in HG.out he).1) _ _).1 hq) hno
        have HT := Lib.hid hth
        clear hkK2 hno hth
        go_wp2_with fail
        go_ret
        exact ⟨_, rfl, hBW.trans hwb.out, .inr ⟨HT.out, rfl⟩⟩
