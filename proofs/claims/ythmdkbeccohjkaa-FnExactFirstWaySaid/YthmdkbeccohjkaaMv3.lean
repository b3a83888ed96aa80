/- Moves: the program's test of states, whole; AreStates; moves with asked states. -/
import Derived.Test.YthmdkbeccohjkaaMv2
namespace Go.Proofs.Ythmdkbeccohjkaa
set_option linter.unusedSimpArgs false
open Go.ChangeShapes Go.WideShapes Go.ChangeAt Go.RowKit
set_option linter.unusedVariables false

theorem movesOf_any (lim : Int) (m : List (List Int)) (v : Value) (B : Nat) (w : World) (h : RdM w B v m) (hB : B ≤ w.heap.size) :
    Calls Try.prog 25 #[sts lim v] w (MvAns lim m w) := by
  cases h1 : inB lim 1 10 with
  | false => exact movesOf_head lim m v B w h hB (.inl h1)
  | true =>
    cases h2 : inB (m.length : Int) 1 5 with
    | false => exact movesOf_head lim m v B w h hB (.inr h2)
    | true => exact movesOf_body lim m v B w h hB h1 h2

theorem mvOf_form (lim : Int) (m : List (List Int)) : ∃ a b g, mvOf lim m = mvC a b g ∧ (saG lim m = true → a = lim ∧ b = m.length ∧ g = gridM m) := by
  cases h : saG lim m with
  | false => exact ⟨0, 0, zer, mvOf_no h, fun h => by cases h⟩
  | true => exact ⟨lim, m.length, gridM m, mvOf_yes h, fun _ => ⟨rfl, rfl, rfl⟩⟩

def askB (n : Int) (xs : List Int) : Bool := xs.all (fun x => inB x 0 (n - 1))
def okK (ok : Bool) (n : Int) (xs : List Int) : Nat → Bool
  | 0 => ok
  | k + 1 => okK ok n xs k && inB (xs.getD k 0) 0 (n - 1)
theorem okK_all (ok : Bool) (n : Int) (xs : List Int) : okK ok n xs xs.length = (ok && askB n xs) := by
  have key : ∀ k, okK ok n xs k = true ↔ ok = true ∧ ∀ j, j < k → inB (xs.getD j 0) 0 (n - 1) = true := by
    intro k
    induction k with
    | zero => simp [okK]
    | succ k ih =>
      simp only [okK, Bool.and_eq_true, ih]
      constructor
      · rintro ⟨⟨a, b⟩, c⟩
        refine ⟨a, fun j hj => ?_⟩
        rcases Nat.lt_or_ge j k with h1 | h1
        · exact b j h1
        · obtain rfl : j = k := by omega
          exact c
      · rintro ⟨a, b⟩
        exact ⟨⟨a, fun j hj => b j (by omega)⟩, b k (by omega)⟩
  rw [Bool.eq_iff_iff, key, Bool.and_eq_true, askB, all_getD]
def MvAtAns (lim : Int) (m : List (List Int)) (xs : List Int) (w : World) (e : Ending) (w' : World) : Prop := e = .returned (.tuple #[.agg (mvOf lim m), .bool (saG lim m && askB m.length xs)]) ∧ Below w.heap.size w w'

set_option maxRecDepth 100000 in
set_option maxHeartbeats 1600000 in
theorem movesAt_any (lim : Int) (m : List (List Int)) (v : Value) (B : Nat) (xs : List Int) (u : Value) (B' : Nat) (w : World) (h : RdM w B v m) (hB : B ≤ w.heap.size) (hx : RdI w B' u xs) (hB' : B' ≤ w.heap.size) :
    Calls Try.prog 17 #[sts lim v, u] w (MvAtAns lim m xs w) := by
  obtain ⟨A, cap, rfl, l0, m0⟩ := h.form
  obtain ⟨A2, cap2, rfl, l2, m2⟩ := hx.form
  unfold maxLen at m2
  have hbl := bel_alloc (bel_alloc (Below.refl _ w) (.cells #[.int .i64 lim, .slice A m.length cap] 29)) (.cells (mvC 0 0 zer) 45)
  have H := Lib.hid (h.below hbl hB)
  obtain ⟨a, b, g, hm, hy⟩ := mvOf_form lim m
  have Hm := Lib.hid hm
  have hE : Hid (okK (saG lim m) b xs xs.length = (saG lim m && askB m.length xs)) := by
    refine Lib.hid ?_
    rw [okK_all]
    cases hs : saG lim m with
    | false => simp
    | true => rw [(hy hs).2.1]
  clear h hm hy
  unfold MvAtAns
  rw [Hm.out, ← hE.out]
  generalize hN : xs.length = N at *
  have HN := Lib.hid hN
  clear hN
  go_enter Try.func17, Try.ntmps17
  go_wp2_with (first
    | (refine wpList_alloc_row rfl 45 rfl (mvC 0 0 zer) (mv_zero _) ?_))
  refine (movesOf_any lim m _ _ _ H.out (Nat.le_trans hB hbl.size)).mono ?_
  unfold MvAns
  rw [Hm.out]
  rintro e w1 ⟨rfl, b1⟩
  have hb1 := bel_trans hbl b1
  have HK : Hid (∀ o : Obj, (w1.alloc o).heap[w.heap.size + 1]? = some (.cells (mvC 0 0 zer) 45 (0, 0))) := fun o => by
    have hsz : w.heap.size + 1 < w1.heap.size := by have := b1.size; rw [← size2] at this; omega
    rw [heap_alloc_old _ _ hsz, b1.block (w.heap.size + 1) (by rw [← size2]; omega)]
    exact heap_alloc2_new w _ _
  have HX := Lib.hid (hx.below (bel_alloc hb1 (.cells (mvC a b g) 45)) hB')
  clear hx
  have HB := Lib.hid (bel_alloc hb1 (.cells (mvC a b g) 45))
  generalize hs : saG lim m = s at *
  have Hs := Lib.hid hs
  clear hs
  have g1 : (mvC a b g)[1]? = some (.int .i64 b) := rfl
  have h00 : Hid (okK s b xs 0 = s) := rfl
  go_wp2_with (first
    | (refine wpList_alloc_row rfl 45 rfl (mvC 0 0 zer) (mv_zero _) ?_)
    | (refine wpList_store_new (k := w1.heap.size) (c' := mvC a b g) rfl 45 (.tmp 6) (.tmp 13) rfl rfl ?_ ?_ mv_info rfl (mvC_one _ _ _) ?_; (· simp [Act.put, Act.eval]); (· simp [Act.put, Act.eval])))
  go_loop [7, 17] (fun x i => ∃ k : Nat, k ≤ N ∧ i = .int .i64 k ∧ x = .bool (okK s b xs k)) (fun _ i => N - (intOf i).toNat)
  case atStart => exact ⟨0, by omega, rfl, by rw [h00.out]⟩
  case round =>
    obtain ⟨k, hk, rfl, rfl⟩ := hrel
    by_cases hlt : k < N
    · obtain ⟨ad, rfl, _, e0⟩ := HX.out.at_ (by rw [HN.out]; exact hlt)
      have hS : Hid (okK s b xs (k + 1) = (okK s b xs k && inB (xs.getD k 0) 0 (b - 1))) := rfl
      generalize xs.getD k 0 = x at *
      cases ho : okK s b xs k with
      | false =>
        rw [ho] at hS
        have hS2 : Hid (okK s b xs (k + 1) = false) := hS.out
        clear hS ho
        go_wp2_with fail
        exact ⟨⟨k + 1, by omega, by go_num, by rw [hS2.out]⟩, by simp [intOf]; omega⟩
      | true =>
        rw [ho] at hS
        clear ho
        by_cases hx0 : 0 ≤ x
        · have hd : decide (0 ≤ x) = true := by simpa using hx0
          have hS2 : Hid (okK s b xs (k + 1) = decide (x < b)) := by
            refine Lib.hid ?_
            rw [hS.out]
            simp only [inB, hd, Bool.true_and]
            rw [Bool.eq_iff_iff]
            simp
            omega
          clear hS
          go_wp2_with fail
          exact ⟨⟨k + 1, by omega, by go_num, by rw [hS2.out]⟩, by simp [intOf]; omega⟩
        · have hd : decide (0 ≤ x) = false := by simpa using hx0
          have hS2 : Hid (okK s b xs (k + 1) = false) := by
            refine Lib.hid ?_
            rw [hS.out]
            simp only [inB, hd, Bool.false_and, Bool.and_false]
          clear hS
          go_wp2_with fail
          exact ⟨⟨k + 1, by omega, by go_num, by rw [hS2.out]⟩, by simp [intOf]; omega⟩
    · obtain rfl : k = N := by omega
      go_wp2_with (first
        | (refine wpList_load_row rfl 45 (.tmp 6) rfl w1.heap.size (by simp [Act.put, Act.eval]) _ (mvC a b g) _ _ (heap_alloc_new w1 _) Try.underlying45 rfl mv_info ?_)
        | (refine wpList_store_row rfl 45 (.tmp 4) (.tmp 33) rfl (w.heap.size + 1) (mvC a b g) (by simp [Act.put, Act.eval]) (by simp [Act.put, Act.eval]) _ _ (HK.out _) mv_info rfl (mvC_one _ _ _) ?_))
      refine bodyPost_ret (results_cell_tmp2 rfl _ _ (w.heap.size + 1) _ (mvC a b g) _ _ (by simp [Act.put, Act.eval]) (setRow_heap _ _ _ _ _ _ (HK.out _)) Try.underlying45 rfl mv_info) rfl ⟨by rw [Hs.out]; simp [Act.put, Act.eval], ?_⟩
      exact bel_setRow HB.out (by omega) _
end Go.Proofs.Ythmdkbeccohjkaa
