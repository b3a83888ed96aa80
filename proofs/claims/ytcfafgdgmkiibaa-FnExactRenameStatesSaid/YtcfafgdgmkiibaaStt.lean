/- States made of moves: the contract of the program. -/
import Derived.Test.YtcfafgdgmkiibaaClone
import Derived.Deep.RegionHeld3
namespace Go.Proofs.Ytcfafgdgmkiibaa
open Go.ChangeShapes Go.WideShapes Go.ChangeAt Go.RowKit
set_option linter.unusedVariables false
set_option linter.unusedSimpArgs false

theorem blk2 {w w' : World} {b : Nat} (h : w'.heap[b]? = w.heap[b]?) : (∀ o, w'.cell? ⟨b, o, none⟩ = w.cell? ⟨b, o, none⟩) ∧ ∀ o, w'.frozen? ⟨b, o, none⟩ = w.frozen? ⟨b, o, none⟩ := by
  constructor <;> intro o <;> simp only [World.cell?, World.frozen?, h]
/-- A row that the call made is laid into a block of its own and appended to rows that the call made. -/
theorem step_pushV {ops : Array Oper} {o : Oper} {a : Act} {K : Act → World → Prop} {Q : Exit → Act → World → Prop} {W : World} {E : Prop} (hg : o.guard = none) (s x : Operand)
    (hop : o.op = .call { callee := .builtin .append, args := #[s, x], argTypes := #[42, 42] }) (lo hi : Nat) (v : Value) (m : List (List Int)) (hown : OwnM W lo hi v m) (hlo : lo ≤ hi) (hlen : m.length ≤ 1000) (r : Value) (xs : List Int) (hr : IRow W hi r xs) (h1c : r.oneCell' = true) (k2 : Nat) (hk2 : k2 = W.heap.size)
    (hs : a.eval s = v) (hx : a.eval x = .slice (some ⟨k2, 0, none⟩) 1 1)
    (h : ∀ v' w', OwnM w' lo w'.heap.size v' (m ++ [xs]) → Below lo W w' → (∀ b, b < W.heap.size → b < lo ∨ hi ≤ b → w'.heap[b]? = W.heap[b]?) → K (a.put o.dst v') w') :
    if Region.wanted o (yielded ops a.tmps) = true then Oper.wp Try.prog o a (W.alloc (.cells #[r] 45)) K Q else E := by
  have hw : Region.wanted o (yielded ops a.tmps) = true := by simp [Region.wanted, hg]
  rw [if_pos hw]
  subst hk2
  have hhi : hi ≤ W.heap.size := hown.1
  have hB : Below hi W (W.alloc (.cells #[r] 45)) := (Below.refl hi W).alloc hhi _
  obtain ⟨vs, hms⟩ := (hown.below hB (Nat.le_refl _)).parts
  have hr2 : IRow (W.alloc (.cells #[r] 45)) hi r xs := World.ownsRow.alloc hr _
  obtain ⟨i0, hi0, hz0, hz1, hz2⟩ := info_parts info_ints
  refine wp_append_own _ s x 42 hop lo 45 i0 nilS 1 24 Try.underlying42 hi0 hz0 hz1 hz2 rfl (by decide) v m.length vs hs hms.2.1 ⟨W.heap.size, 0, none⟩ 1 1 [r] hx rfl ?_ ?_ ?_ ?_ ?_ ?_
  · intro j y hy
    cases j with
    | zero =>
      simp at hy
      subst hy
      simp [go_sem]
    | succ j => simp at hy
  · intro y hy; simp at hy; subst hy; exact h1c
  · unfold maxLen; omega
  · omega
  · rw [← size1]; omega
  · intro v' w' h1 h2 _
    have hv : ∀ k, v.ownBlock = some k → lo ≤ k ∧ k < hi := fun k hk => ⟨(World.ownsRow.lt hms.2.1 k hk).1, hms.2.2.1 k hk⟩
    have hoff := Off.grown h2 hv
    refine h v' w' (OwnMs.snoc hms hr2 hlo h1 h2) ?_ ?_
    · refine Below.grown ((Below.refl lo W).alloc (by omega) _) h2 (by rw [← size1]; omega) fun k hk => (hv k hk).1
    · intro b hb hc
      rw [hoff.block b (by rw [← size1]; omega) hc]
      exact heap_alloc_old _ _ hb

def rowG (n : Nat) (g : Nat → Int) (i : Nat) : List Int := rowL (fun j => g (i * 5 + j)) n
def rowsG (n : Nat) (g : Nat → Int) (i : Nat) : List (List Int) := (List.range i).map (rowG n g)
theorem rowsG_succ (n : Nat) (g : Nat → Int) (i : Nat) : rowsG n g i ++ [rowG n g i] = rowsG n g (i + 1) := by
  unfold rowsG
  rw [List.range_succ, List.map_append]
  rfl
theorem rowsG_len (n : Nat) (g : Nat → Int) (i : Nat) : (rowsG n g i).length = i := by simp [rowsG]
theorem rowG_form {w : World} {b n : Nat} {g : Nat → Int} {i : Nat} {v : Value} (h : IRow w b v (rowG n g i)) (h1 : 1 ≤ n) : ∃ k cap, v = .slice (some ⟨k, 0, none⟩) n cap := by
  have hl : (rowG n g i).length = n := rowL_len _ _
  rcases h.form with ⟨hx, _⟩ | ⟨_, k, cap, e, _⟩
  · rw [hx] at hl; simp at hl; omega
  · rw [hl] at e
    exact ⟨k, cap, e⟩
theorem rowsG_form {n : Nat} {g : Nat → Int} {i : Nat} {w : World} {lo hi : Nat} {v : Value} (h : OwnM w lo hi v (rowsG n g i)) : ∃ A cap, v = .slice A i cap := by
  obtain ⟨A, cap, e, _⟩ := h.formS
  rw [rowsG_len] at e
  exact ⟨A, cap, e⟩
theorem rdI_grid (W : World) (M i n : Nat) (lim : Int) (g : Nat → Int) (t : TypeId) (hi : i < 5) (hn : n ≤ 5) (hb : W.heap[M]? = some (.cells (mvC lim n g) t)) : RdI W (M + 1) (.slice (some ⟨M, 2 + i * 5, none⟩) (rowG n g i).length 5) (rowG n g i) := by
  have hl : (rowG n g i).length = n := rowL_len _ _
  refine ⟨_, 5, rfl, by rw [hl]; exact hn, by simp [maxLen], fun _ => ⟨_, rfl, by simp, fun k hk => ?_⟩⟩
  rw [hl] at hk
  rw [Addr.add_lit]
  refine (cell_of_row _ _ _ _ _ _ hb).trans ?_
  rw [Nat.add_assoc, mvC_get lim n g (i * 5 + k) (by omega)]
  unfold rowG
  rw [rowL_get _ hk]
theorem stt_below {W W' : World} {M C : Nat} {x : Value} (h : W.cell? ⟨M, 1, none⟩ = some x) (hb : Below C W W') (hC : M < C) : W'.cell? ⟨M, 1, none⟩ = some x := (hb.cell (p := ⟨M, 1, none⟩) hC).trans h
theorem stt_blk {W W' : World} {M : Nat} {x : Value} (h : W.cell? ⟨M, 1, none⟩ = some x) (hb : W'.heap[M]? = W.heap[M]?) : W'.cell? ⟨M, 1, none⟩ = some x := ((blk2 hb).1 1).trans h
theorem stt_set {W : World} {M : Nat} {x : Value} (h : W.cell? ⟨M, 1, none⟩ = some x) (b o : Nat) (u : Value) (hb : b ≠ M) : (W.setCell ⟨b, o, none⟩ u).cell? ⟨M, 1, none⟩ = some x := (World.cell?_setCell_far _ _ _ _ hb).trans h
/-- What the loop knows of the blocks of the call. -/
def SttF (w wr : World) (lim : Int) (n : Nat) (g : Nat → Int) (i : Nat) : Prop := ∃ A cap, wr.cell? ⟨w.heap.size + 2, 0, none⟩ = some (.int .i64 lim) ∧ wr.cell? ⟨w.heap.size + 2, 1, none⟩ = some (.slice A i cap) ∧ wr.frozen? ⟨w.heap.size + 2, 1, none⟩ = false ∧
  OwnM wr (w.heap.size + 3) wr.heap.size (.slice A i cap) (rowsG n g i) ∧ wr.heap[w.heap.size]? = some (.cells (mvC lim n g) 76) ∧ wr.heap[w.heap.size + 1]? = some (.cells #[.int .i64 0, nilS] 47) ∧ Below w.heap.size w wr ∧ w.heap.size + 2 < wr.heap.size

set_option maxRecDepth 100000 in
set_option maxHeartbeats 6400000 in
theorem states_any (lim : Int) (n : Nat) (g : Nat → Int) (w : World) (h1 : 1 ≤ n) (hn : n ≤ 5) :
    Calls Try.prog 38 #[.agg (mvC lim n g)] w fun e w' => ∃ v, e = .returned (sts lim v) ∧ OwnM w' w.heap.size w'.heap.size v (rowsG n g n) ∧ Below w.heap.size w w' := by
  have g0 : (mvC lim n g)[0]? = some (.int .i64 lim) := rfl
  have g1 : (mvC lim n g)[1]? = some (.int .i64 n) := rfl
  go_enter Try.func38, Try.ntmps38
  go_wp2_with fail
  go_loopw [10] (fun x wr => ∃ i : Nat, i ≤ n ∧ x = .int .i64 i ∧ Hid (SttF w wr lim n g i)) (fun x _ => n - (intOf x).toNat)
  case atStart =>
    refine ⟨0, by omega, rfl, Lib.hid ⟨none, 0, ?_, ?_, ?_, OwnM.empty _ (Nat.le_refl _), ?_, ?_, bel_alloc (bel_alloc (bel_alloc (Below.refl _ w) _) _) _, by show _ < (((w.heap.push _).push _).push _).size; simp⟩⟩
    · simp [go_sem]
    · simp [go_sem]
    · simp [go_sem]
    · rw [heap_alloc_old _ _ (by show _ < ((w.heap.push _).push _).size; simp; omega), heap_alloc_old _ _ (by rw [← size1]; omega)]
      exact heap_alloc_new w _
    · rw [heap_alloc_old _ _ (by show _ < ((w.heap.push _).push _).size; simp)]
      exact heap_alloc2_new w _ _
  case round =>
    obtain ⟨i, hi, rfl, hF⟩ := hrel
    obtain ⟨A, cap, k0, k1, kf, ho, hblk, hres, hb, hlt⟩ := hF.out
    have n1 : wr.cell? ⟨w.heap.size, 1, none⟩ = some (.int .i64 n) := (cell_of_row _ _ _ _ _ _ hblk).trans g1
    by_cases hlti : i < n
    · have HO := Lib.hid ho
      have HB := Lib.hid hb
      have HK := Lib.hid hblk
      have HR := Lib.hid hres
      have hRd : Hid (∀ W : World, Below wr.heap.size wr W → RdI W (w.heap.size + 1) (.slice (some ⟨w.heap.size, 2 + i * 5, none⟩) (rowG n g i).length 5) (rowG n g i)) := Lib.hid (fun W hW => rdI_grid W w.heap.size i n lim g 76 (by omega) hn ((hW.block w.heap.size (by omega)).trans hblk))
      have hs0 : (0 : Int) ≤ (n : Int) := by omega
      have hs5 : (n : Int) ≤ 5 := by omega
      have hi5 : (i : Int) < 5 := by omega
      clear ho hb hblk hres
      go_wp2_with fail
      refine wp_region_held_drew (S := fun w' => w'.cell? ⟨w.heap.size, 1, none⟩ = some (.int .i64 n)) (by kernel_rfl) (by first | assumption | exact n1 | exact stt_below (by assumption) hq (by show w.heap.size < wr.heap.size; omega) | exact stt_below (by assumption) (bel_alloc (Below.refl _ _) _) (by first | omega | (simp; omega)) | exact stt_blk (by assumption) (hk2 _ (by omega) (.inl (by omega))) | exact stt_set (by assumption) _ _ _ (by omega)) (fun hHeld => ?_)
      refine wpAnyH_take (i := 0) (oi := _) (v := ?v0_1) rfl (by kernel_rfl) (by kernel_rfl) (by kernel_rfl) (fun _ _ _ h => h) (Or.inl ⟨by rfl, ?y0_1⟩) (by assumption) ?r0_1
      case y0_1 => (intro w hSw; (try dsimp only at hSw); go_simp; try with_reducible rfl)
      try simp only [Act.put, List.setIfInBounds_toArray, List.set_cons_zero, List.set_cons_succ]
      refine wpAnyH_take (i := 2) (oi := _) (v := ?v2_2) rfl (by kernel_rfl) (by kernel_rfl) (by kernel_rfl) (fun _ _ _ h => h) (Or.inl ⟨by rfl, ?y2_2⟩) (by assumption) ?r2_2
      case y2_2 => (intro w hSw; (try dsimp only at hSw); go_simp; try with_reducible rfl)
      try simp only [Act.put, List.setIfInBounds_toArray, List.set_cons_zero, List.set_cons_succ]
      refine wpAnyH_take (i := 3) (oi := _) (v := ?v3_3) rfl (by kernel_rfl) (by kernel_rfl) (by kernel_rfl) (fun _ _ _ h => h) (Or.inl ⟨by rfl, ?y3_3⟩) (by assumption) ?r3_3
      case y3_3 => (intro w hSw; (try dsimp only at hSw); go_simp; try with_reducible rfl)
      try simp only [Act.put, List.setIfInBounds_toArray, List.set_cons_zero, List.set_cons_succ]
      refine wpAnyH_take (i := 4) (oi := _) (v := ?v4_4) rfl (by kernel_rfl) (by kernel_rfl) (by kernel_rfl) (fun _ _ _ h => h) (Or.inl ⟨by rfl, ?y4_4⟩) (by assumption) ?r4_4
      case y4_4 => (intro w hSw; (try dsimp only at hSw); go_simp; try with_reducible rfl)
      try simp only [Act.put, List.setIfInBounds_toArray, List.set_cons_zero, List.set_cons_succ]
      refine wpAnyH_take (i := 5) (oi := _) (v := ?v5_5) rfl (by kernel_rfl) (by kernel_rfl) (by kernel_rfl) (fun _ _ _ h => h) (Or.inl ⟨by rfl, ?y5_5⟩) (by assumption) ?r5_5
      case y5_5 => (intro w hSw; (try dsimp only at hSw); go_simp; try with_reducible rfl)
      try simp only [Act.put, List.setIfInBounds_toArray, List.set_cons_zero, List.set_cons_succ]
      refine wpAnyH_take (i := 6) (oi := _) (v := ?v6_6) rfl (by kernel_rfl) (by kernel_rfl) (by kernel_rfl) (fun _ _ _ h => h) (Or.inl ⟨by rfl, ?y6_6⟩) (by assumption) ?r6_6
      case y6_6 => (intro w hSw; (try dsimp only at hSw); go_simp; try with_reducible rfl)
      try simp only [Act.put, List.setIfInBounds_toArray, List.set_cons_zero, List.set_cons_succ]
      refine wpAnyH_take (i := 7) (oi := _) (v := ?v7_7) rfl (by kernel_rfl) (by kernel_rfl) (by kernel_rfl) (fun _ _ _ h => h) (Or.inl ⟨by rfl, ?y7_7⟩) (by assumption) ?r7_7
      case y7_7 => (intro w hSw; (try dsimp only at hSw); go_simp; try with_reducible rfl)
      try simp only [Act.put, List.setIfInBounds_toArray, List.set_cons_zero, List.set_cons_succ]
      refine wpAnyH_ready (rs := [1, 8]) (by kernel_rfl) (by simp) ?_
      refine AllReadyH.cons (o := _) rfl (fun K hK => ?_) ?_
      · (go_simp)
        refine hK.out _ _ ?_ (fun hHeld => ?_)
        · (try dsimp only); first | assumption | exact n1 | exact stt_below (by assumption) hq (by show w.heap.size < wr.heap.size; omega) | exact stt_below (by assumption) (bel_alloc (Below.refl _ _) _) (by first | omega | (simp; omega)) | exact stt_blk (by assumption) (hk2 _ (by omega) (.inl (by omega))) | exact stt_set (by assumption) _ _ _ (by omega)
        clear hK K
        try simp only [Act.put, List.setIfInBounds_toArray, List.set_cons_zero, List.set_cons_succ]
        refine wpAnyH_ready (rs := [8]) (by kernel_rfl) (by simp) ?_
        refine AllReadyH.cons (o := _) rfl (fun K hK => ?_) ?_
        · (go_simp; go_at_call 49; refine (clone_n (rowG n g i) n (rowL_len _ _) w.heap.size (2 + i * 5) 5 (w.heap.size + 1) _ (hRd.out _ ((Below.refl _ wr).drew)) (by show w.heap.size + 1 ≤ wr.heap.size; omega) (by omega) (by omega)).mono ?_; rintro e w2 ⟨u7, rfl, hr7, hq⟩; obtain ⟨kq, cq, rfl⟩ := rowG_form hr7 h1; have G2 := Lib.hid (bel_trans ((Below.refl _ wr).drew) hq); have n2 : w.heap.size + 2 < w2.heap.size := Nat.lt_of_lt_of_le hlt G2.out.size; have c2 := (G2.out.cell (p := ⟨w.heap.size + 2, 1, none⟩) hlt).trans k1; have c2a : ∀ o, (w2.alloc o).cell? ⟨w.heap.size + 2, 1, none⟩ = some (.slice A i cap) := fun o => ((bel_alloc (Below.refl _ w2) o).cell (p := ⟨w.heap.size + 2, 1, none⟩) n2).trans c2; have Hr7 := Lib.hid hr7; clear hr7)
          refine hK.out _ _ ?_ (fun hHeld => ?_)
          · (try dsimp only); first | assumption | exact n1 | exact stt_below (by assumption) hq (by show w.heap.size < wr.heap.size; omega) | exact stt_below (by assumption) (bel_alloc (Below.refl _ _) _) (by first | omega | (simp; omega)) | exact stt_blk (by assumption) (hk2 _ (by omega) (.inl (by omega))) | exact stt_set (by assumption) _ _ _ (by omega)
          clear hK K
          try simp only [Act.put, List.setIfInBounds_toArray, List.set_cons_zero, List.set_cons_succ]
          refine wpAnyH_ready (rs := [9]) (by kernel_rfl) (by simp) ?_
          refine AllReadyH.cons (o := _) rfl (fun K hK => ?_) ?_
          · (go_simp)
            refine hK.out _ _ ?_ (fun hHeld => ?_)
            · (try dsimp only); first | assumption | exact n1 | exact stt_below (by assumption) hq (by show w.heap.size < wr.heap.size; omega) | exact stt_below (by assumption) (bel_alloc (Below.refl _ _) _) (by first | omega | (simp; omega)) | exact stt_blk (by assumption) (hk2 _ (by omega) (.inl (by omega))) | exact stt_set (by assumption) _ _ _ (by omega)
            clear hK K
            try simp only [Act.put, List.setIfInBounds_toArray, List.set_cons_zero, List.set_cons_succ]
            refine wpAnyH_ready (rs := [10]) (by kernel_rfl) (by simp) ?_
            refine AllReadyH.cons (o := _) rfl (fun K hK => ?_) ?_
            · (refine step_pushV rfl (.tmp 14) (.tmp 22) rfl (w.heap.size + 3) wr.heap.size (.slice A i cap) (rowsG n g i) (HO.out.below G2.out (Nat.le_refl _)) (by omega) (by rw [rowsG_len]; omega) (.slice (some ⟨kq, 0, none⟩) n cq) (rowG n g i) Hr7.out rfl w2.heap.size rfl (by simp [Act.eval, Act.put]) (by simp [Act.eval, Act.put]) ?_; intro v4 w4 ho4 hb4 hk2; rw [rowsG_succ] at ho4; obtain ⟨A4, cap4, hv4⟩ := rowsG_form ho4; subst hv4; have c4 := ((blk2 (hk2 (w.heap.size + 2) n2 (.inl (by omega)))).1 1).trans c2; have f4 : w4.frozen? ⟨w.heap.size + 2, 1, none⟩ = false := ((blk2 (hk2 (w.heap.size + 2) n2 (.inl (by omega)))).2 1).trans ((G2.out.frozen (p := ⟨w.heap.size + 2, 1, none⟩) hlt).trans kf))
              refine hK.out _ _ ?_ (fun hHeld => ?_)
              · (try dsimp only); first | assumption | exact n1 | exact stt_below (by assumption) hq (by show w.heap.size < wr.heap.size; omega) | exact stt_below (by assumption) (bel_alloc (Below.refl _ _) _) (by first | omega | (simp; omega)) | exact stt_blk (by assumption) (hk2 _ (by omega) (.inl (by omega))) | exact stt_set (by assumption) _ _ _ (by omega)
              clear hK K
              try simp only [Act.put, List.setIfInBounds_toArray, List.set_cons_zero, List.set_cons_succ]
              refine wpAnyH_take (i := 11) (oi := _) (v := ?v11_8) rfl (by kernel_rfl) (by kernel_rfl) (by kernel_rfl) (fun _ _ _ h => h) (Or.inl ⟨by rfl, ?y11_8⟩) (by assumption) ?r11_8
              case y11_8 => (intro w hSw; (try dsimp only at hSw); go_simp; try with_reducible rfl)
              try simp only [Act.put, List.setIfInBounds_toArray, List.set_cons_zero, List.set_cons_succ]
              refine wpAnyH_ready (rs := [12]) (by kernel_rfl) (by simp) ?_
              refine AllReadyH.cons (o := _) rfl (fun K hK => ?_) ?_
              · (go_simp)
                refine hK.out _ _ ?_ (fun hHeld => ?_)
                · (try dsimp only); first | assumption | exact n1 | exact stt_below (by assumption) hq (by show w.heap.size < wr.heap.size; omega) | exact stt_below (by assumption) (bel_alloc (Below.refl _ _) _) (by first | omega | (simp; omega)) | exact stt_blk (by assumption) (hk2 _ (by omega) (.inl (by omega))) | exact stt_set (by assumption) _ _ _ (by omega)
                clear hK K
                try simp only [Act.put, List.setIfInBounds_toArray, List.set_cons_zero, List.set_cons_succ]
                refine wpAnyH_done (by kernel_rfl) ?_ _
                have hz := hb4.size
                have b2 := G2.out.size
                have hS := (by assumption : (w4.setCell ⟨w.heap.size + 2, 1, none⟩ (.slice A4 (i + 1) cap4)).cell? ⟨w.heap.size, 1, none⟩ = some (.int .i64 n))
                have e0 : (w4.setCell ⟨w.heap.size + 2, 1, none⟩ (.slice A4 (i + 1) cap4)).cell? ⟨w.heap.size + 2, 0, none⟩ = some (.int .i64 lim) := by
                  have q : w4.cell? ⟨w.heap.size + 2, 0, none⟩ = some (.int .i64 lim) := ((blk2 (hk2 (w.heap.size + 2) n2 (.inl (by omega)))).1 0).trans ((G2.out.cell (p := ⟨w.heap.size + 2, 0, none⟩) hlt).trans k0)
                  simp [go_sem, q]
                have e1 : (w4.setCell ⟨w.heap.size + 2, 1, none⟩ (.slice A4 (i + 1) cap4)).cell? ⟨w.heap.size + 2, 1, none⟩ = some (.slice A4 (i + 1) cap4) := by
                  simp [go_sem, c4]
                have e2 : (w4.setCell ⟨w.heap.size + 2, 1, none⟩ (.slice A4 (i + 1) cap4)).frozen? ⟨w.heap.size + 2, 1, none⟩ = false := by
                  simpa using f4
                have e3 : OwnM (w4.setCell ⟨w.heap.size + 2, 1, none⟩ (.slice A4 (i + 1) cap4)) (w.heap.size + 3) (w4.setCell ⟨w.heap.size + 2, 1, none⟩ (.slice A4 (i + 1) cap4)).heap.size (.slice A4 (i + 1) cap4) (rowsG n g (i + 1)) := by
                  refine OwnM.more (OwnM.set_ ho4 (by show w.heap.size + 2 < w.heap.size + 3; omega) _) (by simp [World.setCell]) (Nat.le_refl _)
                have e4 : (w4.setCell ⟨w.heap.size + 2, 1, none⟩ (.slice A4 (i + 1) cap4)).heap[w.heap.size]? = some (.cells (mvC lim n g) 76) := by
                  have q := (hk2 w.heap.size (by omega) (.inl (by omega))).trans ((G2.out.block w.heap.size (by omega)).trans HK.out)
                  simp only [World.setCell, Array.getElem?_modify]
                  rw [if_neg (by omega)]
                  exact q
                have e5 : (w4.setCell ⟨w.heap.size + 2, 1, none⟩ (.slice A4 (i + 1) cap4)).heap[w.heap.size + 1]? = some (.cells #[.int .i64 0, nilS] 47) := by
                  have q := (hk2 (w.heap.size + 1) (by omega) (.inl (by omega))).trans ((G2.out.block (w.heap.size + 1) (by omega)).trans HR.out)
                  simp only [World.setCell, Array.getElem?_modify]
                  rw [if_neg (by omega)]
                  exact q
                have e6 : Below w.heap.size w (w4.setCell ⟨w.heap.size + 2, 1, none⟩ (.slice A4 (i + 1) cap4)) := Below.setCell ((bel_trans HB.out G2.out).trans (hb4.mono (by omega))) (by show w.heap.size ≤ w.heap.size + 2; omega) _
                have e7 : w.heap.size + 2 < (w4.setCell ⟨w.heap.size + 2, 1, none⟩ (.slice A4 (i + 1) cap4)).heap.size := by
                  show _ < (w4.heap.modify _ _).size
                  rw [Array.size_modify]
                  omega
                have hE : Hid (SttF w (w4.setCell ⟨w.heap.size + 2, 1, none⟩ (.slice A4 (i + 1) cap4)) lim n g (i + 1)) := Lib.hid ⟨A4, cap4, e0, e1, e2, e3, e4, e5, e6, e7⟩
                clear e0 e1 e2 e3 e4 e5 e6 e7 hk2 ho4 hb4 c4 f4 hS
                go_wp2_with fail
                exact ⟨⟨i + 1, by omega, by go_num, hE⟩, by simp [intOf]; omega⟩
              exact AllReadyH.nil
            exact AllReadyH.nil
          exact AllReadyH.nil
        exact AllReadyH.nil
      refine AllReadyH.cons (o := _) rfl (fun K hK => ?_) ?_
      · (go_simp; go_at_call 49; refine (clone_n (rowG n g i) n (rowL_len _ _) w.heap.size (2 + i * 5) 5 (w.heap.size + 1) _ (hRd.out _ ((Below.refl _ wr).drew)) (by show w.heap.size + 1 ≤ wr.heap.size; omega) (by omega) (by omega)).mono ?_; rintro e w2 ⟨u7, rfl, hr7, hq⟩; obtain ⟨kq, cq, rfl⟩ := rowG_form hr7 h1; have G2 := Lib.hid (bel_trans ((Below.refl _ wr).drew) hq); have n2 : w.heap.size + 2 < w2.heap.size := Nat.lt_of_lt_of_le hlt G2.out.size; have c2 := (G2.out.cell (p := ⟨w.heap.size + 2, 1, none⟩) hlt).trans k1; have c2a : ∀ o, (w2.alloc o).cell? ⟨w.heap.size + 2, 1, none⟩ = some (.slice A i cap) := fun o => ((bel_alloc (Below.refl _ w2) o).cell (p := ⟨w.heap.size + 2, 1, none⟩) n2).trans c2; have Hr7 := Lib.hid hr7; clear hr7)
        refine hK.out _ _ ?_ (fun hHeld => ?_)
        · (try dsimp only); first | assumption | exact n1 | exact stt_below (by assumption) hq (by show w.heap.size < wr.heap.size; omega) | exact stt_below (by assumption) (bel_alloc (Below.refl _ _) _) (by first | omega | (simp; omega)) | exact stt_blk (by assumption) (hk2 _ (by omega) (.inl (by omega))) | exact stt_set (by assumption) _ _ _ (by omega)
        clear hK K
        try simp only [Act.put, List.setIfInBounds_toArray, List.set_cons_zero, List.set_cons_succ]
        refine wpAnyH_ready (rs := [1, 9]) (by kernel_rfl) (by simp) ?_
        refine AllReadyH.cons (o := _) rfl (fun K hK => ?_) ?_
        · (go_simp)
          refine hK.out _ _ ?_ (fun hHeld => ?_)
          · (try dsimp only); first | assumption | exact n1 | exact stt_below (by assumption) hq (by show w.heap.size < wr.heap.size; omega) | exact stt_below (by assumption) (bel_alloc (Below.refl _ _) _) (by first | omega | (simp; omega)) | exact stt_blk (by assumption) (hk2 _ (by omega) (.inl (by omega))) | exact stt_set (by assumption) _ _ _ (by omega)
          clear hK K
          try simp only [Act.put, List.setIfInBounds_toArray, List.set_cons_zero, List.set_cons_succ]
          refine wpAnyH_ready (rs := [9]) (by kernel_rfl) (by simp) ?_
          refine AllReadyH.cons (o := _) rfl (fun K hK => ?_) ?_
          · (go_simp)
            refine hK.out _ _ ?_ (fun hHeld => ?_)
            · (try dsimp only); first | assumption | exact n1 | exact stt_below (by assumption) hq (by show w.heap.size < wr.heap.size; omega) | exact stt_below (by assumption) (bel_alloc (Below.refl _ _) _) (by first | omega | (simp; omega)) | exact stt_blk (by assumption) (hk2 _ (by omega) (.inl (by omega))) | exact stt_set (by assumption) _ _ _ (by omega)
            clear hK K
            try simp only [Act.put, List.setIfInBounds_toArray, List.set_cons_zero, List.set_cons_succ]
            refine wpAnyH_ready (rs := [10]) (by kernel_rfl) (by simp) ?_
            refine AllReadyH.cons (o := _) rfl (fun K hK => ?_) ?_
            · (refine step_pushV rfl (.tmp 14) (.tmp 22) rfl (w.heap.size + 3) wr.heap.size (.slice A i cap) (rowsG n g i) (HO.out.below G2.out (Nat.le_refl _)) (by omega) (by rw [rowsG_len]; omega) (.slice (some ⟨kq, 0, none⟩) n cq) (rowG n g i) Hr7.out rfl w2.heap.size rfl (by simp [Act.eval, Act.put]) (by simp [Act.eval, Act.put]) ?_; intro v4 w4 ho4 hb4 hk2; rw [rowsG_succ] at ho4; obtain ⟨A4, cap4, hv4⟩ := rowsG_form ho4; subst hv4; have c4 := ((blk2 (hk2 (w.heap.size + 2) n2 (.inl (by omega)))).1 1).trans c2; have f4 : w4.frozen? ⟨w.heap.size + 2, 1, none⟩ = false := ((blk2 (hk2 (w.heap.size + 2) n2 (.inl (by omega)))).2 1).trans ((G2.out.frozen (p := ⟨w.heap.size + 2, 1, none⟩) hlt).trans kf))
              refine hK.out _ _ ?_ (fun hHeld => ?_)
              · (try dsimp only); first | assumption | exact n1 | exact stt_below (by assumption) hq (by show w.heap.size < wr.heap.size; omega) | exact stt_below (by assumption) (bel_alloc (Below.refl _ _) _) (by first | omega | (simp; omega)) | exact stt_blk (by assumption) (hk2 _ (by omega) (.inl (by omega))) | exact stt_set (by assumption) _ _ _ (by omega)
              clear hK K
              try simp only [Act.put, List.setIfInBounds_toArray, List.set_cons_zero, List.set_cons_succ]
              refine wpAnyH_take (i := 11) (oi := _) (v := ?v11_9) rfl (by kernel_rfl) (by kernel_rfl) (by kernel_rfl) (fun _ _ _ h => h) (Or.inl ⟨by rfl, ?y11_9⟩) (by assumption) ?r11_9
              case y11_9 => (intro w hSw; (try dsimp only at hSw); go_simp; try with_reducible rfl)
              try simp only [Act.put, List.setIfInBounds_toArray, List.set_cons_zero, List.set_cons_succ]
              refine wpAnyH_ready (rs := [12]) (by kernel_rfl) (by simp) ?_
              refine AllReadyH.cons (o := _) rfl (fun K hK => ?_) ?_
              · (go_simp)
                refine hK.out _ _ ?_ (fun hHeld => ?_)
                · (try dsimp only); first | assumption | exact n1 | exact stt_below (by assumption) hq (by show w.heap.size < wr.heap.size; omega) | exact stt_below (by assumption) (bel_alloc (Below.refl _ _) _) (by first | omega | (simp; omega)) | exact stt_blk (by assumption) (hk2 _ (by omega) (.inl (by omega))) | exact stt_set (by assumption) _ _ _ (by omega)
                clear hK K
                try simp only [Act.put, List.setIfInBounds_toArray, List.set_cons_zero, List.set_cons_succ]
                refine wpAnyH_done (by kernel_rfl) ?_ _
                have hz := hb4.size
                have b2 := G2.out.size
                have hS := (by assumption : (w4.setCell ⟨w.heap.size + 2, 1, none⟩ (.slice A4 (i + 1) cap4)).cell? ⟨w.heap.size, 1, none⟩ = some (.int .i64 n))
                have e0 : (w4.setCell ⟨w.heap.size + 2, 1, none⟩ (.slice A4 (i + 1) cap4)).cell? ⟨w.heap.size + 2, 0, none⟩ = some (.int .i64 lim) := by
                  have q : w4.cell? ⟨w.heap.size + 2, 0, none⟩ = some (.int .i64 lim) := ((blk2 (hk2 (w.heap.size + 2) n2 (.inl (by omega)))).1 0).trans ((G2.out.cell (p := ⟨w.heap.size + 2, 0, none⟩) hlt).trans k0)
                  simp [go_sem, q]
                have e1 : (w4.setCell ⟨w.heap.size + 2, 1, none⟩ (.slice A4 (i + 1) cap4)).cell? ⟨w.heap.size + 2, 1, none⟩ = some (.slice A4 (i + 1) cap4) := by
                  simp [go_sem, c4]
                have e2 : (w4.setCell ⟨w.heap.size + 2, 1, none⟩ (.slice A4 (i + 1) cap4)).frozen? ⟨w.heap.size + 2, 1, none⟩ = false := by
                  simpa using f4
                have e3 : OwnM (w4.setCell ⟨w.heap.size + 2, 1, none⟩ (.slice A4 (i + 1) cap4)) (w.heap.size + 3) (w4.setCell ⟨w.heap.size + 2, 1, none⟩ (.slice A4 (i + 1) cap4)).heap.size (.slice A4 (i + 1) cap4) (rowsG n g (i + 1)) := by
                  refine OwnM.more (OwnM.set_ ho4 (by show w.heap.size + 2 < w.heap.size + 3; omega) _) (by simp [World.setCell]) (Nat.le_refl _)
                have e4 : (w4.setCell ⟨w.heap.size + 2, 1, none⟩ (.slice A4 (i + 1) cap4)).heap[w.heap.size]? = some (.cells (mvC lim n g) 76) := by
                  have q := (hk2 w.heap.size (by omega) (.inl (by omega))).trans ((G2.out.block w.heap.size (by omega)).trans HK.out)
                  simp only [World.setCell, Array.getElem?_modify]
                  rw [if_neg (by omega)]
                  exact q
                have e5 : (w4.setCell ⟨w.heap.size + 2, 1, none⟩ (.slice A4 (i + 1) cap4)).heap[w.heap.size + 1]? = some (.cells #[.int .i64 0, nilS] 47) := by
                  have q := (hk2 (w.heap.size + 1) (by omega) (.inl (by omega))).trans ((G2.out.block (w.heap.size + 1) (by omega)).trans HR.out)
                  simp only [World.setCell, Array.getElem?_modify]
                  rw [if_neg (by omega)]
                  exact q
                have e6 : Below w.heap.size w (w4.setCell ⟨w.heap.size + 2, 1, none⟩ (.slice A4 (i + 1) cap4)) := Below.setCell ((bel_trans HB.out G2.out).trans (hb4.mono (by omega))) (by show w.heap.size ≤ w.heap.size + 2; omega) _
                have e7 : w.heap.size + 2 < (w4.setCell ⟨w.heap.size + 2, 1, none⟩ (.slice A4 (i + 1) cap4)).heap.size := by
                  show _ < (w4.heap.modify _ _).size
                  rw [Array.size_modify]
                  omega
                have hE : Hid (SttF w (w4.setCell ⟨w.heap.size + 2, 1, none⟩ (.slice A4 (i + 1) cap4)) lim n g (i + 1)) := Lib.hid ⟨A4, cap4, e0, e1, e2, e3, e4, e5, e6, e7⟩
                clear e0 e1 e2 e3 e4 e5 e6 e7 hk2 ho4 hb4 c4 f4 hS
                go_wp2_with fail
                exact ⟨⟨i + 1, by omega, by go_num, hE⟩, by simp [intOf]; omega⟩
              exact AllReadyH.nil
            exact AllReadyH.nil
          exact AllReadyH.nil
        refine AllReadyH.cons (o := _) rfl (fun K hK => ?_) ?_
        · (go_simp)
          refine hK.out _ _ ?_ (fun hHeld => ?_)
          · (try dsimp only); first | assumption | exact n1 | exact stt_below (by assumption) hq (by show w.heap.size < wr.heap.size; omega) | exact stt_below (by assumption) (bel_alloc (Below.refl _ _) _) (by first | omega | (simp; omega)) | exact stt_blk (by assumption) (hk2 _ (by omega) (.inl (by omega))) | exact stt_set (by assumption) _ _ _ (by omega)
          clear hK K
          try simp only [Act.put, List.setIfInBounds_toArray, List.set_cons_zero, List.set_cons_succ]
          refine wpAnyH_ready (rs := [1]) (by kernel_rfl) (by simp) ?_
          refine AllReadyH.cons (o := _) rfl (fun K hK => ?_) ?_
          · (go_simp)
            refine hK.out _ _ ?_ (fun hHeld => ?_)
            · (try dsimp only); first | assumption | exact n1 | exact stt_below (by assumption) hq (by show w.heap.size < wr.heap.size; omega) | exact stt_below (by assumption) (bel_alloc (Below.refl _ _) _) (by first | omega | (simp; omega)) | exact stt_blk (by assumption) (hk2 _ (by omega) (.inl (by omega))) | exact stt_set (by assumption) _ _ _ (by omega)
            clear hK K
            try simp only [Act.put, List.setIfInBounds_toArray, List.set_cons_zero, List.set_cons_succ]
            refine wpAnyH_ready (rs := [10]) (by kernel_rfl) (by simp) ?_
            refine AllReadyH.cons (o := _) rfl (fun K hK => ?_) ?_
            · (refine step_pushV rfl (.tmp 14) (.tmp 22) rfl (w.heap.size + 3) wr.heap.size (.slice A i cap) (rowsG n g i) (HO.out.below G2.out (Nat.le_refl _)) (by omega) (by rw [rowsG_len]; omega) (.slice (some ⟨kq, 0, none⟩) n cq) (rowG n g i) Hr7.out rfl w2.heap.size rfl (by simp [Act.eval, Act.put]) (by simp [Act.eval, Act.put]) ?_; intro v4 w4 ho4 hb4 hk2; rw [rowsG_succ] at ho4; obtain ⟨A4, cap4, hv4⟩ := rowsG_form ho4; subst hv4; have c4 := ((blk2 (hk2 (w.heap.size + 2) n2 (.inl (by omega)))).1 1).trans c2; have f4 : w4.frozen? ⟨w.heap.size + 2, 1, none⟩ = false := ((blk2 (hk2 (w.heap.size + 2) n2 (.inl (by omega)))).2 1).trans ((G2.out.frozen (p := ⟨w.heap.size + 2, 1, none⟩) hlt).trans kf))
              refine hK.out _ _ ?_ (fun hHeld => ?_)
              · (try dsimp only); first | assumption | exact n1 | exact stt_below (by assumption) hq (by show w.heap.size < wr.heap.size; omega) | exact stt_below (by assumption) (bel_alloc (Below.refl _ _) _) (by first | omega | (simp; omega)) | exact stt_blk (by assumption) (hk2 _ (by omega) (.inl (by omega))) | exact stt_set (by assumption) _ _ _ (by omega)
              clear hK K
              try simp only [Act.put, List.setIfInBounds_toArray, List.set_cons_zero, List.set_cons_succ]
              refine wpAnyH_take (i := 11) (oi := _) (v := ?v11_10) rfl (by kernel_rfl) (by kernel_rfl) (by kernel_rfl) (fun _ _ _ h => h) (Or.inl ⟨by rfl, ?y11_10⟩) (by assumption) ?r11_10
              case y11_10 => (intro w hSw; (try dsimp only at hSw); go_simp; try with_reducible rfl)
              try simp only [Act.put, List.setIfInBounds_toArray, List.set_cons_zero, List.set_cons_succ]
              refine wpAnyH_ready (rs := [12]) (by kernel_rfl) (by simp) ?_
              refine AllReadyH.cons (o := _) rfl (fun K hK => ?_) ?_
              · (go_simp)
                refine hK.out _ _ ?_ (fun hHeld => ?_)
                · (try dsimp only); first | assumption | exact n1 | exact stt_below (by assumption) hq (by show w.heap.size < wr.heap.size; omega) | exact stt_below (by assumption) (bel_alloc (Below.refl _ _) _) (by first | omega | (simp; omega)) | exact stt_blk (by assumption) (hk2 _ (by omega) (.inl (by omega))) | exact stt_set (by assumption) _ _ _ (by omega)
                clear hK K
                try simp only [Act.put, List.setIfInBounds_toArray, List.set_cons_zero, List.set_cons_succ]
                refine wpAnyH_done (by kernel_rfl) ?_ _
                have hz := hb4.size
                have b2 := G2.out.size
                have hS := (by assumption : (w4.setCell ⟨w.heap.size + 2, 1, none⟩ (.slice A4 (i + 1) cap4)).cell? ⟨w.heap.size, 1, none⟩ = some (.int .i64 n))
                have e0 : (w4.setCell ⟨w.heap.size + 2, 1, none⟩ (.slice A4 (i + 1) cap4)).cell? ⟨w.heap.size + 2, 0, none⟩ = some (.int .i64 lim) := by
                  have q : w4.cell? ⟨w.heap.size + 2, 0, none⟩ = some (.int .i64 lim) := ((blk2 (hk2 (w.heap.size + 2) n2 (.inl (by omega)))).1 0).trans ((G2.out.cell (p := ⟨w.heap.size + 2, 0, none⟩) hlt).trans k0)
                  simp [go_sem, q]
                have e1 : (w4.setCell ⟨w.heap.size + 2, 1, none⟩ (.slice A4 (i + 1) cap4)).cell? ⟨w.heap.size + 2, 1, none⟩ = some (.slice A4 (i + 1) cap4) := by
                  simp [go_sem, c4]
                have e2 : (w4.setCell ⟨w.heap.size + 2, 1, none⟩ (.slice A4 (i + 1) cap4)).frozen? ⟨w.heap.size + 2, 1, none⟩ = false := by
                  simpa using f4
                have e3 : OwnM (w4.setCell ⟨w.heap.size + 2, 1, none⟩ (.slice A4 (i + 1) cap4)) (w.heap.size + 3) (w4.setCell ⟨w.heap.size + 2, 1, none⟩ (.slice A4 (i + 1) cap4)).heap.size (.slice A4 (i + 1) cap4) (rowsG n g (i + 1)) := by
                  refine OwnM.more (OwnM.set_ ho4 (by show w.heap.size + 2 < w.heap.size + 3; omega) _) (by simp [World.setCell]) (Nat.le_refl _)
                have e4 : (w4.setCell ⟨w.heap.size + 2, 1, none⟩ (.slice A4 (i + 1) cap4)).heap[w.heap.size]? = some (.cells (mvC lim n g) 76) := by
                  have q := (hk2 w.heap.size (by omega) (.inl (by omega))).trans ((G2.out.block w.heap.size (by omega)).trans HK.out)
                  simp only [World.setCell, Array.getElem?_modify]
                  rw [if_neg (by omega)]
                  exact q
                have e5 : (w4.setCell ⟨w.heap.size + 2, 1, none⟩ (.slice A4 (i + 1) cap4)).heap[w.heap.size + 1]? = some (.cells #[.int .i64 0, nilS] 47) := by
                  have q := (hk2 (w.heap.size + 1) (by omega) (.inl (by omega))).trans ((G2.out.block (w.heap.size + 1) (by omega)).trans HR.out)
                  simp only [World.setCell, Array.getElem?_modify]
                  rw [if_neg (by omega)]
                  exact q
                have e6 : Below w.heap.size w (w4.setCell ⟨w.heap.size + 2, 1, none⟩ (.slice A4 (i + 1) cap4)) := Below.setCell ((bel_trans HB.out G2.out).trans (hb4.mono (by omega))) (by show w.heap.size ≤ w.heap.size + 2; omega) _
                have e7 : w.heap.size + 2 < (w4.setCell ⟨w.heap.size + 2, 1, none⟩ (.slice A4 (i + 1) cap4)).heap.size := by
                  show _ < (w4.heap.modify _ _).size
                  rw [Array.size_modify]
                  omega
                have hE : Hid (SttF w (w4.setCell ⟨w.heap.size + 2, 1, none⟩ (.slice A4 (i + 1) cap4)) lim n g (i + 1)) := Lib.hid ⟨A4, cap4, e0, e1, e2, e3, e4, e5, e6, e7⟩
                clear e0 e1 e2 e3 e4 e5 e6 e7 hk2 ho4 hb4 c4 f4 hS
                go_wp2_with fail
                exact ⟨⟨i + 1, by omega, by go_num, hE⟩, by simp [intOf]; omega⟩
              exact AllReadyH.nil
            exact AllReadyH.nil
          exact AllReadyH.nil
        exact AllReadyH.nil
      exact AllReadyH.nil
    · obtain rfl : i = n := by omega
      have HO := Lib.hid ho
      have r0 : wr.cell? ⟨w.heap.size + 1, 0, none⟩ = some (.int .i64 0) := cell_heap hres rfl
      have r1 : wr.cell? ⟨w.heap.size + 1, 1, none⟩ = some nilS := cell_heap hres rfl
      have f0 : wr.frozen? ⟨w.heap.size + 1, 0, none⟩ = false := froz_heap hres
      have f1 : wr.frozen? ⟨w.heap.size + 1, 1, none⟩ = false := froz_heap hres
      clear ho hblk hres
      go_wp2
      refine bodyPost_ret (v := sts lim (.slice A i cap)) (by simp [results, Try.results38, go_sem, r0, r1, f0, f1]) rfl ⟨_, rfl, ?_, ?_⟩
      · refine OwnM.low (lo := w.heap.size + 3) ?_ (by omega)
        refine OwnM.more (OwnM.set_ (OwnM.set_ HO.out (by first | (dsimp only; omega) | (simp; omega)) _) (by first | (dsimp only; omega) | (simp; omega)) _) (by simp [World.setCell]) (Nat.le_refl _)
      · refine Below.setCell ?_ (by first | (dsimp only; omega) | simp) _
        refine Below.setCell ?_ (by first | (dsimp only; omega) | simp) _
        exact hb
end Go.Proofs.Ytcfafgdgmkiibaa
