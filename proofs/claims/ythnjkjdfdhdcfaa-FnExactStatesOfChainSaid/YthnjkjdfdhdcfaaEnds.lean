/- EndStates: the contracts of the program and of its model. -/
import Derived.Test.YthnjkjdfdhdcfaaWays
namespace Go.Proofs.Ythnjkjdfdhdcfaa
open Go.ChangeShapes Go.WideShapes Go.ChangeAt Go.RowKit
set_option linter.unusedVariables false

/-- The numbers below k that are told by p, increasing. -/
def selK (p : Nat → Bool) : Nat → List Int
  | 0 => []
  | k + 1 => if p k then selK p k ++ [(k : Int)] else selK p k
theorem selK_len (p : Nat → Bool) : ∀ k, (selK p k).length ≤ k
  | 0 => by simp [selK]
  | k + 1 => by
    have := selK_len p k
    unfold selK
    split
    · simp; omega
    · omega
theorem selK_yes {p : Nat → Bool} {k : Nat} (h : p k = true) : selK p (k + 1) = selK p k ++ [(k : Int)] := by simp [selK, h]
theorem selK_no {p : Nat → Bool} {k : Nat} (h : p k = false) : selK p (k + 1) = selK p k := by simp [selK, h]
theorem selK_congr {p q : Nat → Bool} : ∀ k, (∀ i, i < k → p i = q i) → selK p k = selK q k
  | 0, _ => rfl
  | k + 1, h => by
    unfold selK
    rw [h k (by omega), selK_congr k (fun i hi => h i (by omega))]
/-- A state that follows itself with the chance 1. -/
def endB (lim : Int) (m : List (List Int)) (i : Nat) : Bool := atM m i i == lim

set_option maxHeartbeats 800000 in
theorem saEnd_any (lim : Int) (m : List (List Int)) (v : Value) (B : Nat) (i : Nat) (w : World) (h : RdM w B v m) (hB : B ≤ w.heap.size) (hi : i < m.length) (hr : (m.getD i []).length = m.length) :
    Calls Try.prog 85 #[sts lim v, .int .i64 i] w fun e w' => e = .returned (.bool (endB lim m i)) ∧ Below w.heap.size w w' := by
  obtain ⟨A, cap, rfl, l0, m0⟩ := h.form
  have hbl := bel_alloc (Below.refl _ w) (.cells #[.int .i64 lim, .slice A m.length cap] 27)
  obtain ⟨ad, A', cap', rfl, hab, e0, r0, l1, m1⟩ := (h.below hbl hB).at_ hi
  obtain ⟨ad2, rfl, _, e1⟩ := r0.at_ (k := i) (by omega)
  have e2 : (w.alloc (.cells #[.int .i64 lim, .slice (some ad) m.length cap] 27)).cell? (ad2.add i) = some (.int .i64 (atM m i i)) := e1
  rw [hr] at e0
  have k1 : (i : Int) < (m.length : Int) := by omega
  clear h e1 r0 hr
  unfold endB
  generalize atM m i i = x at *
  go_enter Try.func85, Try.ntmps85
  go_wp2_with fail
  go_quiet (fail)
  go_wp2_with fail
  go_ret
  exact ⟨rfl, bel_drewN hbl _⟩
set_option maxHeartbeats 800000 in
theorem isEnd_any (a : Int) (m : List (List Int)) (i : Nat) (w : World) (hi : i < 5) :
    Calls Try.prog 86 #[.agg (mvC a m.length (gridM m)), .int .i64 i] w fun e w' => e = .returned (.bool (endB a m i)) ∧ Below w.heap.size w w' := by
  have hgt := mvC_get a (m.length : Int) (gridM m) (i * 5 + i) (by omega)
  rw [← Nat.add_assoc, gridM_at m i i hi] at hgt
  have g0 : (mvC a m.length (gridM m))[0]? = some (.int .i64 a) := rfl
  have k1 : (i : Int) < 5 := by omega
  unfold endB
  generalize atM m i i = x at *
  go_enter Try.func86, Try.ntmps86
  go_wp2_with fail
  go_quiet (fail)
  go_wp2_with fail
  go_ret
  exact ⟨rfl, bel_drewN (bel_alloc (Below.refl _ w) _) _⟩

theorem IRow.push {w : World} {base : Nat} {v : Value} {xs : List Int} {u : Int} (h : w.ownsRow base 3 1 v (xs.length + 1) (xs.map (Value.int .i64) ++ [.int .i64 u])) : IRow w base v (xs ++ [u]) := by
  unfold IRow
  rw [List.map_append, List.length_append]
  exact h
theorem new_cell (w : World) (u : Value) (t : TypeId) : (w.alloc (.cells #[u] t)).cell? ⟨w.heap.size, 0, none⟩ = some u := by simp [go_sem]
/-- One number is appended that was just laid into a block of its own. -/
theorem wpList_push1 {ops : Array Oper} {rest : List Oper} {o : Oper} {a : Act} {Q : Exit → Act → World → Prop} {W : World} (hgd : o.guard = none) (s x : Operand)
    (ho : o.op = .call { callee := .builtin .append, args := #[s, x], argTypes := #[34, 34] }) (base : Nat) (v : Value) (xs : List Int) (hown : IRow W base v xs) (hlen : xs.length ≤ 1000000) (hbase : base ≤ W.heap.size) (u : Int)
    (hs : a.eval s = v) (hx : a.eval x = .slice (some ⟨W.heap.size, 0, none⟩) 1 1)
    (h : ∀ v' w', IRow w' base v' (xs ++ [u]) → Below base W w' → wpList Try.prog ops Q rest (a.put o.dst v') w') : wpList Try.prog ops Q (o :: rest) a (W.alloc (.cells #[.int .i64 u] 3)) := by
  obtain ⟨i0, hi, hz0, hz1, hz2⟩ := info_parts info_int
  refine wpList_append_own _ hgd s x 34 ho base 3 i0 (.int .i64 0) 1 8 Try.underlying34 hi hz0 hz1 hz2 rfl (by decide) v xs.length (xs.map (Value.int .i64)) hs (World.ownsRow.alloc hown _) ⟨W.heap.size, 0, none⟩ 1 1 [.int .i64 u] hx rfl ?_ ?_ ?_ ?_ ?_ ?_
  · intro j y hy
    cases j with
    | zero => simp at hy; subst hy; exact new_cell _ _ _
    | succ j => simp at hy
  · intro y hy; simp at hy; subst hy; rfl
  · unfold maxLen; omega
  · omega
  · rw [← size1]; omega
  · intro v' w' h1 h2 _
    refine h v' w' (IRow.push h1) ?_
    refine Below.grown (((Below.refl base W).alloc hbase _)) h2 (by rw [← size1]; omega) fun k hk => ?_
    exact (World.ownsRow.lt hown k hk).1

def ansEnds (lim : Int) (m : List (List Int)) : List Int := if saG lim m then selK (endB lim m) m.length else []
theorem ansEnds_len (lim : Int) (m : List (List Int)) : (ansEnds lim m).length ≤ 1000 := by
  unfold ansEnds
  split
  · rename_i h
    have := selK_len (endB lim m) m.length
    have := (good_of h).five
    omega
  · simp

set_option maxRecDepth 100000 in
set_option maxHeartbeats 3200000 in
theorem specEnds_any (lim : Int) (m : List (List Int)) (v : Value) (B : Nat) (w : World) (h : RdM w B v m) (hB : B ≤ w.heap.size) :
    Calls Try.prog 44 #[sts lim v] w (RowAns (ansEnds lim m) (saG lim m) w) := by
  obtain ⟨A, cap, rfl, l0, m0⟩ := h.form
  unfold maxLen at m0
  have hbl := bel_alloc (Below.refl _ w) (.cells #[.int .i64 lim, .slice A m.length cap] 27)
  have H := Lib.hid (h.below hbl hB)
  have hBs := Nat.le_trans hB hbl.size
  have bx := Lib.hid (Box2.new w (.int .i64 lim) (.slice A m.length cap) 27)
  clear h
  cases h1 : saG lim m with
  | false =>
    rw [show ansEnds lim m = [] from by simp [ansEnds, h1]]
    have H1 := Lib.hid h1
    clear h1
    go_enter Try.func44, Try.ntmps44
    go_wp2_with fail
    refine (saGood_any lim m _ _ _ H.out hBs).mono ?_
    rw [H1.out]
    rintro e w1 ⟨rfl, b1⟩
    go_wp2_with fail
    go_ret2
    exact ⟨_, rfl, IRow.nil _ _, bel_trans hbl b1⟩
  | true =>
    rw [show ansEnds lim m = selK (endB lim m) m.length from by simp [ansEnds, h1]]
    have H1 := Lib.hid h1
    have hg := good_of h1
    have n5 := hg.five
    have HG := Lib.hid hg
    clear h1 hg
    go_enter Try.func44, Try.ntmps44
    go_wp2_with fail
    refine (saGood_any lim m _ _ _ H.out hBs).mono ?_
    rw [H1.out]
    rintro e w1 ⟨rfl, b1⟩
    obtain ⟨c0, c1, c2⟩ := bx.out.keep b1
    go_wp2_with fail
    obtain ⟨Bz, hBz⟩ : ∃ n, n = (w.alloc (.cells #[.int .i64 lim, .slice A m.length cap] 27)).heap.size := ⟨_, rfl⟩
    rw [← hBz] at b1 hBs
    have hbz : w.heap.size ≤ Bz := by rw [hBz]; exact hbl.size
    have hszB : Bz ≤ w1.heap.size := by rw [hBz]; exact (Below.size (hBz ▸ b1))
    have HBz := Lib.hid hBz
    clear hBz
    go_loopw [4, 12] (fun u x wr => ∃ k : Nat, k ≤ m.length ∧ x = .int .i64 k ∧ Hid (IRow wr Bz u (selK (endB lim m) k)) ∧ Below Bz (w.alloc (.cells #[.int .i64 lim, .slice A m.length cap] 27)) wr) (fun _ x _ => m.length - (intOf x).toNat)
    case atStart => exact ⟨0, by omega, rfl, IRow.nil _ _, b1⟩
    case round =>
      obtain ⟨k, hk, rfl, hI, hb⟩ := hrel
      obtain ⟨wa, rfl⟩ : ∃ wa : World, wa = wr := ⟨_, rfl⟩
      have hsa : Bz ≤ wa.heap.size := by have := hb.size; rw [← HBz.out] at this; exact this
      obtain ⟨d0, d1, d2⟩ := bx.out.keep (HBz.out ▸ hb)
      clear c0 c1 c2
      by_cases hlt : k < m.length
      · have hl := selK_len (endB lim m) k
        cases hq : endB lim m k with
        | true =>
          have hS := Lib.hid (selK_yes hq)
          have Hq := Lib.hid hq
          clear hq
          go_wp2_with fail
          refine (saEnd_any lim m _ _ k _ (H.out.below hb hBs) (Nat.le_trans hBs hsa) hlt (HG.out.row k hlt)).mono ?_
          rw [Hq.out]
          rintro e w2 ⟨rfl, b2⟩
          have hI2 := Lib.hid (hI.out.below b2)
          have hb2 := hb.trans (b2.mono hsa)
          go_wp2_with (at_builtin; refine wpList_push1 rfl (.tmp 18) (.tmp 20) rfl _ _ _ hI2.out (by omega) (Nat.le_trans hsa b2.size) (k : Int) rfl rfl ?_)
          intro v' w3 hI3 hb3
          go_wp2_with fail
          exact ⟨⟨k + 1, by omega, by go_num, by rw [hS.out]; exact hI3, hb2.trans hb3⟩, by simp [intOf]; omega⟩
        | false =>
          have hS := Lib.hid (selK_no hq)
          have Hq := Lib.hid hq
          clear hq
          go_wp2_with fail
          refine (saEnd_any lim m _ _ k _ (H.out.below hb hBs) (Nat.le_trans hBs hsa) hlt (HG.out.row k hlt)).mono ?_
          rw [Hq.out]
          rintro e w2 ⟨rfl, b2⟩
          have hI2 := Lib.hid (hI.out.below b2)
          have hb2 := hb.trans (b2.mono hsa)
          go_wp2_with fail
          exact ⟨⟨k + 1, by omega, by go_num, by rw [hS.out]; exact hI2, hb2⟩, by simp [intOf]; omega⟩
      · obtain rfl : k = m.length := by omega
        go_wp2_with fail
        go_ret2
        exact ⟨_, rfl, hI.out.mono hbz, bel_trans hbl (HBz.out ▸ hb)⟩

set_option maxRecDepth 100000 in
set_option maxHeartbeats 3200000 in
theorem implEnds_any (lim : Int) (m : List (List Int)) (v : Value) (B : Nat) (w : World) (h : RdM w B v m) (hB : B ≤ w.heap.size) :
    Calls Try.prog 45 #[sts lim v] w (RowAns (ansEnds lim m) (saG lim m) w) := by
  obtain ⟨A, cap, rfl, l0, m0⟩ := h.form
  have hbl := bel_alloc (Below.refl _ w) (.cells #[.int .i64 lim, .slice A m.length cap] 27)
  have H := Lib.hid (h.below hbl hB)
  have hBs := Nat.le_trans hB hbl.size
  obtain ⟨a, b, g, hm, hy⟩ := mvOf_form lim m
  have Hm := Lib.hid hm
  clear h hm
  cases h1 : saG lim m with
  | false =>
    rw [show ansEnds lim m = [] from by simp [ansEnds, h1]]
    have H1 := Lib.hid h1
    clear h1 hy
    go_enter Try.func45, Try.ntmps45
    go_wp2_with fail
    refine (movesOf_any lim m _ _ _ H.out hBs).mono ?_
    unfold MvAns
    rw [H1.out, Hm.out]
    rintro e w1 ⟨rfl, b1⟩
    go_wp2_with (first
      | (refine wpList_alloc_row rfl 72 rfl (mvC 0 0 zer) (mv_zero _) ?_)
      | (refine wpList_store_new (k := w1.heap.size) (c' := mvC a b g) rfl 72 (.tmp 4) (.tmp 11) rfl rfl ?_ ?_ mv_info rfl (mvC_one _ _ _) ?_; (· simp [Act.put, Act.eval]); (· simp [Act.put, Act.eval])))
    go_ret2
    exact ⟨_, rfl, IRow.nil _ _, bel_alloc (bel_trans hbl b1) _⟩
  | true =>
    rw [show ansEnds lim m = selK (endB lim m) m.length from by simp [ansEnds, h1]]
    have H1 := Lib.hid h1
    obtain ⟨rfl, rfl, rfl⟩ := hy h1
    have n5 := (good_of h1).five
    have g1 : (mvC a m.length (gridM m))[1]? = some (.int .i64 m.length) := rfl
    clear h1 hy
    go_enter Try.func45, Try.ntmps45
    go_wp2_with fail
    refine (movesOf_any a m _ _ _ H.out hBs).mono ?_
    unfold MvAns
    rw [H1.out, Hm.out]
    rintro e w1 ⟨rfl, b1⟩
    have hb1 := bel_trans hbl b1
    go_wp2_with (first
      | (refine wpList_alloc_row rfl 72 rfl (mvC 0 0 zer) (mv_zero _) ?_)
      | (refine wpList_store_new (k := w1.heap.size) (c' := mvC a m.length (gridM m)) rfl 72 (.tmp 4) (.tmp 11) rfl rfl ?_ ?_ mv_info rfl (mvC_one _ _ _) ?_; (· simp [Act.put, Act.eval]); (· simp [Act.put, Act.eval])))
    obtain ⟨Bz, hBz⟩ : ∃ n, n = (w1.alloc (.cells (mvC a m.length (gridM m)) 72)).heap.size := ⟨_, rfl⟩
    have hbz : w.heap.size ≤ Bz := by rw [hBz]; exact (bel_alloc hb1 _).size
    have hb0 : w1.heap.size < Bz := by rw [hBz, ← size1]; omega
    have HBz := Lib.hid hBz
    clear hBz
    go_loopw [6, 17] (fun u x wr => ∃ k : Nat, k ≤ m.length ∧ x = .int .i64 k ∧ Hid (IRow wr Bz u (selK (endB a m) k)) ∧ Below Bz (w1.alloc (.cells (mvC a m.length (gridM m)) 72)) wr) (fun _ x _ => m.length - (intOf x).toNat)
    case atStart => exact ⟨0, by omega, rfl, IRow.nil _ _, Below.refl _ _⟩
    case round =>
      obtain ⟨k, hk, rfl, hI, hb⟩ := hrel
      obtain ⟨wa, rfl⟩ : ∃ wa : World, wa = wr := ⟨_, rfl⟩
      have hK := Lib.hid ((hb.block w1.heap.size hb0).trans (heap_alloc_new _ _))
      have hsa : Bz ≤ wa.heap.size := by have := hb.size; rw [← HBz.out] at this; exact this
      by_cases hlt : k < m.length
      · have hl := selK_len (endB a m) k
        cases hq : endB a m k with
        | true =>
          have hS := Lib.hid (selK_yes hq)
          have Hq := Lib.hid hq
          clear hq
          go_wp2_with (refine wpList_load_row rfl 72 (.tmp 4) rfl w1.heap.size (by simp [Act.put, Act.eval]) _ (mvC a m.length (gridM m)) _ _ hK.out Try.underlying72 rfl mv_info ?_)
          refine (isEnd_any a m k _ (by omega)).mono ?_
          rw [Hq.out]
          rintro e w2 ⟨rfl, b2⟩
          have hI2 := Lib.hid (hI.out.below b2)
          have hb2 := hb.trans (b2.mono hsa)
          go_wp2_with (at_builtin; refine wpList_push1 rfl (.tmp 23) (.tmp 25) rfl _ _ _ hI2.out (by omega) (Nat.le_trans hsa b2.size) (k : Int) rfl rfl ?_)
          intro v' w3 hI3 hb3
          go_wp2_with fail
          exact ⟨⟨k + 1, by omega, by go_num, by rw [hS.out]; exact hI3, hb2.trans hb3⟩, by simp [intOf]; omega⟩
        | false =>
          have hS := Lib.hid (selK_no hq)
          have Hq := Lib.hid hq
          clear hq
          go_wp2_with (refine wpList_load_row rfl 72 (.tmp 4) rfl w1.heap.size (by simp [Act.put, Act.eval]) _ (mvC a m.length (gridM m)) _ _ hK.out Try.underlying72 rfl mv_info ?_)
          refine (isEnd_any a m k _ (by omega)).mono ?_
          rw [Hq.out]
          rintro e w2 ⟨rfl, b2⟩
          have hI2 := Lib.hid (hI.out.below b2)
          have hb2 := hb.trans (b2.mono hsa)
          go_wp2_with fail
          exact ⟨⟨k + 1, by omega, by go_num, by rw [hS.out]; exact hI2, hb2⟩, by simp [intOf]; omega⟩
      · obtain rfl : k = m.length := by omega
        go_wp2_with fail
        go_ret2
        exact ⟨_, rfl, hI.out.mono hbz, (bel_trans (bel_alloc hb1 _) (HBz.out ▸ hb))⟩
end Go.Proofs.Ythnjkjdfdhdcfaa
