/- What is reached from each state: the program's contract. -/
import Derived.Test.YtbcngdamligpbaaEnds
namespace Go.Proofs.Ytbcngdamligpbaa
set_option linter.unusedSimpArgs false
open Go.ChangeShapes Go.WideShapes Go.ChangeAt Go.RowKit
set_option linter.unusedVariables false

/-- The cells of marks of all states. -/
def marC (r : Nat → Bool) : Array Value := #[.bool (r 0), .bool (r 1), .bool (r 2), .bool (r 3), .bool (r 4), .bool (r 5), .bool (r 6), .bool (r 7), .bool (r 8), .bool (r 9), .bool (r 10), .bool (r 11), .bool (r 12), .bool (r 13), .bool (r 14), .bool (r 15), .bool (r 16), .bool (r 17), .bool (r 18), .bool (r 19), .bool (r 20), .bool (r 21), .bool (r 22), .bool (r 23), .bool (r 24)]
def noB : Nat → Bool := fun _ => false
def updB (g : Nat → Bool) (q : Nat) (x : Bool) : Nat → Bool := fun p => if p = q then x else g p
theorem marC_one (r : Nat → Bool) : (marC r).all (·.oneCell') = true := by simp [marC, Value.oneCell']
theorem marC_get (r : Nat → Bool) : ∀ q, q < 25 → (marC r)[q]? = some (.bool (r q)) := by apply cases25 <;> rfl
theorem marC_set (r : Nat → Bool) (x : Bool) : ∀ q, q < 25 → (marC r).setIfInBounds q (.bool x) = marC (updB r q x) := by apply cases25 <;> rfl
theorem marC_ext {r r' : Nat → Bool} (h : ∀ q, q < 25 → r q = r' q) : marC r = marC r' := by
  unfold marC
  simp only [h 0 (by omega), h 1 (by omega), h 2 (by omega), h 3 (by omega), h 4 (by omega), h 5 (by omega), h 6 (by omega), h 7 (by omega), h 8 (by omega), h 9 (by omega), h 10 (by omega), h 11 (by omega), h 12 (by omega), h 13 (by omega), h 14 (by omega), h 15 (by omega), h 16 (by omega), h 17 (by omega), h 18 (by omega), h 19 (by omega), h 20 (by omega), h 21 (by omega), h 22 (by omega), h 23 (by omega), h 24 (by omega)]
theorem mar_info : (Try.prog.info? 90).map (·.size) = some 25 := by kernel_rfl
theorem mar_zero (w : World) : (zeroValue 90).run Try.prog w = .ok (.agg (marC noB)) w := Try.zeroValue90 w

/-- There is a chance from i to j. -/
def edgeB (m : List (List Int)) (i j : Nat) : Bool := decide (0 < atM m i j)
/-- From i to j over states below k, of n states. -/
def reachG (m : List (List Int)) (n k : Nat) : Nat → Bool := fun q => decide (q / 5 < n) && decide (q % 5 < n) && thr (edgeB m) k (q / 5) (q % 5)
/-- The first marks, those ahead of row i, and of row i those ahead of j. -/
def firstG (m : List (List Int)) (n i j : Nat) : Nat → Bool := fun q => if q / 5 < i ∨ (q / 5 = i ∧ q % 5 < j) then reachG m n 0 q else false
def overG (m : List (List Int)) (n k i j : Nat) : Nat → Bool := fun q => if q / 5 < i ∨ (q / 5 = i ∧ q % 5 < j) then reachG m n (k + 1) q else reachG m n k q
theorem reachG_at (m : List (List Int)) (n k i j : Nat) (hi : i < n) (hj : j < n) (hj5 : j < 5) : reachG m n k (i * 5 + j) = thr (edgeB m) k i j := by
  unfold reachG
  have h1 : (i * 5 + j) / 5 = i := by omega
  have h2 : (i * 5 + j) % 5 = j := by omega
  rw [h1, h2]
  simp [hi, hj]
theorem firstG_next (m : List (List Int)) (n i j : Nat) (hj5 : j < 5) : updB (firstG m n i j) (i * 5 + j) (reachG m n 0 (i * 5 + j)) = firstG m n i (j + 1) := by
  funext q
  unfold updB firstG
  by_cases e : q = i * 5 + j
  · subst e; rw [if_pos rfl, if_pos (by omega)]
  · rw [if_neg e]
    by_cases h : q / 5 < i ∨ (q / 5 = i ∧ q % 5 < j)
    · rw [if_pos h, if_pos (by omega)]
    · rw [if_neg h, if_neg (by omega)]
theorem firstG_row (m : List (List Int)) (n i : Nat) : firstG m n i n = firstG m n (i + 1) 0 := by
  funext q
  unfold firstG
  by_cases h : q / 5 < i ∨ (q / 5 = i ∧ q % 5 < n)
  · rw [if_pos h, if_pos (by omega)]
  · rw [if_neg h]
    by_cases h2 : q / 5 < i + 1 ∨ (q / 5 = i + 1 ∧ q % 5 < 0)
    · rw [if_pos h2]
      unfold reachG
      have : ¬ q % 5 < n := by omega
      simp [this]
    · rw [if_neg h2]
theorem firstG_all (m : List (List Int)) (n : Nat) : firstG m n n 0 = reachG m n 0 := by
  funext q
  unfold firstG
  by_cases h : q / 5 < n ∨ (q / 5 = n ∧ q % 5 < 0)
  · rw [if_pos h]
  · rw [if_neg h]
    unfold reachG
    have : ¬ q / 5 < n := by omega
    simp [this]
theorem firstG_zero (m : List (List Int)) (n : Nat) : firstG m n 0 0 = noB := by
  funext q; unfold firstG noB; rw [if_neg (by omega)]
theorem overG_zero (m : List (List Int)) (n k : Nat) : overG m n k 0 0 = reachG m n k := by
  funext q; unfold overG; rw [if_neg (by omega)]
theorem overG_next (m : List (List Int)) (n k i j : Nat) (hj5 : j < 5) : updB (overG m n k i j) (i * 5 + j) (reachG m n (k + 1) (i * 5 + j)) = overG m n k i (j + 1) := by
  funext q
  unfold updB overG
  by_cases e : q = i * 5 + j
  · subst e; rw [if_pos rfl, if_pos (by omega)]
  · rw [if_neg e]
    by_cases h : q / 5 < i ∨ (q / 5 = i ∧ q % 5 < j)
    · rw [if_pos h, if_pos (by omega)]
    · rw [if_neg h, if_neg (by omega)]
theorem overG_row (m : List (List Int)) (n k i : Nat) : overG m n k i n = overG m n k (i + 1) 0 := by
  funext q
  unfold overG
  by_cases h : q / 5 < i ∨ (q / 5 = i ∧ q % 5 < n)
  · rw [if_pos h, if_pos (by omega)]
  · rw [if_neg h]
    by_cases h2 : q / 5 < i + 1 ∨ (q / 5 = i + 1 ∧ q % 5 < 0)
    · rw [if_pos h2]
      unfold reachG
      have : ¬ q % 5 < n := by omega
      simp [this]
    · rw [if_neg h2]
theorem overG_all (m : List (List Int)) (n k : Nat) : overG m n k n 0 = reachG m n (k + 1) := by
  funext q
  unfold overG
  by_cases h : q / 5 < n ∨ (q / 5 = n ∧ q % 5 < 0)
  · rw [if_pos h]
  · rw [if_neg h]
    unfold reachG
    have : ¬ q / 5 < n := by omega
    simp [this]
/-- What the marks hold that an update reads. -/
theorem overG_reads (m : List (List Int)) (n k i j : Nat) (hi : i < n) (hj : j < n) (hk : k < n) (h5 : n ≤ 5) :
    overG m n k i j (i * 5 + j) = thr (edgeB m) k i j ∧ overG m n k i j (i * 5 + k) = thr (edgeB m) k i k ∧ overG m n k i j (k * 5 + j) = thr (edgeB m) k k j := by
  refine ⟨?_, ?_, ?_⟩
  · unfold overG; rw [if_neg (by omega), reachG_at _ _ _ _ _ hi hj (by omega)]
  · unfold overG
    split
    · rw [reachG_at _ _ _ _ _ hi hk (by omega), thr_col]
    · rw [reachG_at _ _ _ _ _ hi hk (by omega)]
  · unfold overG
    split
    · rw [reachG_at _ _ _ _ _ hk hj (by omega), thr_row]
    · rw [reachG_at _ _ _ _ _ hk hj (by omega)]

theorem set3 (w : World) (A B : Obj) (c c' : Array Value) (t : TypeId) (n i : Nat) (v : Value) (h : c.setIfInBounds i v = c') :
    ((((w.alloc A).alloc B).alloc (.cells c t)).drewN n).setCell ⟨w.heap.size + 1 + 1, i, none⟩ v = (((w.alloc A).alloc B).alloc (.cells c' t)).drewN n := by
  show (((((w.alloc A).alloc B).alloc (.cells c t))).setCell ⟨w.heap.size + 1 + 1, i, none⟩ v).drewN n = _
  rw [World.setCell_alloc_at _ _ _ _ _ (size2 _ _ _), h]

set_option maxRecDepth 100000 in
set_option maxHeartbeats 6400000 in
theorem reached_any (a : Int) (m : List (List Int)) (w : World) (hN : m.length ≤ 5) :
    Calls Try.prog 62 #[.agg (mvC a m.length (gridM m))] w fun e w' => e = .returned (.agg (marC (reachG m m.length m.length))) ∧ Below w.heap.size w w' := by
  have g1 : (mvC a m.length (gridM m))[1]? = some (.int .i64 m.length) := rfl
  generalize hN' : m.length = N at *
  have HN := Lib.hid hN'
  clear hN'
  have h0 : Hid ((((w.alloc (.cells (mvC a N (gridM m)) 66)).alloc (.cells (marC noB) 90)).alloc (.cells (marC noB) 90)) = (((w.alloc (.cells (mvC a N (gridM m)) 66)).alloc (.cells (marC noB) 90)).alloc (.cells (marC (firstG m N 0 0)) 90)).drewN 0) := by
    refine Lib.hid ?_
    rw [firstG_zero]; rfl
  go_enter Try.func62, Try.ntmps62
  go_wp2_with (first
    | (refine wpList_alloc_row rfl 90 rfl (marC noB) (mar_zero _) ?_))
  go_loopw [11] (fun x wr => ∃ i : Nat, i ≤ N ∧ x = .int .i64 i ∧ ∃ n, wr = (((w.alloc (.cells (mvC a N (gridM m)) 66)).alloc (.cells (marC noB) 90)).alloc (.cells (marC (firstG m N i 0)) 90)).drewN n) (fun x _ => N - (intOf x).toNat)
  case atStart => exact ⟨0, by omega, rfl, 0, h0.out⟩
  case round =>
    obtain ⟨i, hi, rfl, n, rfl⟩ := hrel
    by_cases hlt : i < N
    · go_wp2_with fail
      go_loopw [16] (fun x wr => ∃ j : Nat, j ≤ N ∧ x = .int .i64 j ∧ ∃ n, wr = (((w.alloc (.cells (mvC a N (gridM m)) 66)).alloc (.cells (marC noB) 90)).alloc (.cells (marC (firstG m N i j)) 90)).drewN n) (fun x _ => N - (intOf x).toNat)
      case atStart => exact ⟨0, by omega, rfl, n, rfl⟩
      case round =>
        obtain ⟨j, hj, rfl, n2, rfl⟩ := hrel
        by_cases hlj : j < N
        · have e3 := mvC_get a (N : Int) (gridM m) (i * 5 + j) (by omega)
          rw [← Nat.add_assoc, gridM_at m i j (by omega)] at e3
          have e1 := marC_get (firstG m N i j) (i * 5 + j) (by omega)
          have e4 := marC_set (firstG m N i j) (reachG m N 0 (i * 5 + j)) (i * 5 + j) (by omega)
          rw [firstG_next _ _ _ _ (by omega), reachG_at _ _ _ _ _ hlt hlj (by omega)] at e4
          have e5 : thr (edgeB m) 0 i j = ((i == j) || decide (0 < atM m i j)) := rfl
          rw [e5] at e4
          have k1 : (i : Int) < 5 := by omega
          have k2 : (j : Int) < 5 := by omega
          clear e5
          generalize firstG m N i j (i * 5 + j) = z0 at *
          generalize atM m i j = z at *
          by_cases hij : i = j
          · subst hij
            have hd : ((i : Int) == (i : Int)) = true := by simp
            simp only [beq_self_eq_true, Bool.true_or] at e4
            go_wp2_with fail
            go_region
            go_wp2_with fail
            exact ⟨⟨i + 1, by omega, by go_num, _, set3 _ _ _ _ _ _ _ _ _ e4⟩, by simp [intOf]; omega⟩
          · have hd : ((i : Int) == (j : Int)) = false := by simp; omega
            have hd2 : (i == j) = false := by simp; omega
            rw [hd2, Bool.false_or] at e4
            go_wp2_with fail
            go_region
            go_wp2_with fail
            exact ⟨⟨j + 1, by omega, by go_num, _, set3 _ _ _ _ _ _ _ _ _ e4⟩, by simp [intOf]; omega⟩
        · obtain rfl : j = N := by omega
          have hr := Lib.hid (firstG_row m j i)
          go_wp2_with fail
          exact ⟨⟨i + 1, by omega, by go_num, n2, by rw [hr.out]⟩, by simp [intOf]; omega⟩
    · obtain rfl : i = N := by omega
      have hr : Hid (firstG m i i 0 = overG m i 0 0 0) := (firstG_all m i).trans (overG_zero m i 0).symm
      rw [hr.out]
      go_wp2_with fail
      go_loopw [39] (fun x wr => ∃ k : Nat, k ≤ i ∧ x = .int .i64 k ∧ ∃ n, wr = (((w.alloc (.cells (mvC a i (gridM m)) 66)).alloc (.cells (marC noB) 90)).alloc (.cells (marC (overG m i k 0 0)) 90)).drewN n) (fun x _ => i - (intOf x).toNat)
      case atStart => exact ⟨0, by omega, rfl, n, rfl⟩
      case round =>
        obtain ⟨k, hk, rfl, n, rfl⟩ := hrel
        by_cases hlk : k < i
        · go_wp2_with fail
          go_loopw [44] (fun x wr => ∃ p : Nat, p ≤ i ∧ x = .int .i64 p ∧ ∃ n, wr = (((w.alloc (.cells (mvC a i (gridM m)) 66)).alloc (.cells (marC noB) 90)).alloc (.cells (marC (overG m i k p 0)) 90)).drewN n) (fun x _ => i - (intOf x).toNat)
          case atStart => exact ⟨0, by omega, rfl, n, rfl⟩
          case round =>
            obtain ⟨p, hp, rfl, n, rfl⟩ := hrel
            by_cases hlp : p < i
            · go_wp2_with fail
              go_loopw [49] (fun x wr => ∃ q : Nat, q ≤ i ∧ x = .int .i64 q ∧ ∃ n, wr = (((w.alloc (.cells (mvC a i (gridM m)) 66)).alloc (.cells (marC noB) 90)).alloc (.cells (marC (overG m i k p q)) 90)).drewN n) (fun x _ => i - (intOf x).toNat)
              case atStart => exact ⟨0, by omega, rfl, n, rfl⟩
              case round =>
                obtain ⟨q, hq, rfl, n, rfl⟩ := hrel
                by_cases hlq : q < i
                · obtain ⟨r1, r2, r3⟩ := overG_reads m i k p q hlp hlq hlk hN
                  have e1 := marC_get (overG m i k p q) (p * 5 + q) (by omega)
                  have e2 := marC_get (overG m i k p q) (p * 5 + k) (by omega)
                  have e3 := marC_get (overG m i k p q) (k * 5 + q) (by omega)
                  rw [r1] at e1
                  rw [r2] at e2
                  rw [r3] at e3
                  have e4 := marC_set (overG m i k p q) (reachG m i (k + 1) (p * 5 + q)) (p * 5 + q) (by omega)
                  rw [overG_next _ _ _ _ _ (by omega), reachG_at _ _ _ _ _ hlp hlq (by omega)] at e4
                  have e5 : thr (edgeB m) (k + 1) p q = (thr (edgeB m) k p q || thr (edgeB m) k p k && thr (edgeB m) k k q) := rfl
                  rw [e5] at e4
                  have k1 : (p : Int) < 5 := by omega
                  have k2 : (q : Int) < 5 := by omega
                  have k3 : (k : Int) < 5 := by omega
                  clear r1 r2 r3 e5
                  generalize thr (edgeB m) k p q = b1 at *
                  generalize thr (edgeB m) k p k = b2 at *
                  generalize thr (edgeB m) k k q = b3 at *
                  cases b1 with
                  | true =>
                    rw [Bool.true_or] at e4
                    go_wp2_with fail
                    go_region
                    go_wp2_with fail
                    exact ⟨⟨q + 1, by omega, by go_num, _, set3 _ _ _ _ _ _ _ _ _ e4⟩, by simp [intOf]; omega⟩
                  | false =>
                    rw [Bool.false_or] at e4
                    cases b2 with
                    | true =>
                      rw [Bool.true_and] at e4
                      go_wp2_with fail
                      go_region
                      go_wp2_with fail
                      exact ⟨⟨q + 1, by omega, by go_num, _, set3 _ _ _ _ _ _ _ _ _ e4⟩, by simp [intOf]; omega⟩
                    | false =>
                      rw [Bool.false_and] at e4
                      go_wp2_with fail
                      go_region
                      go_wp2_with fail
                      exact ⟨⟨q + 1, by omega, by go_num, _, set3 _ _ _ _ _ _ _ _ _ e4⟩, by simp [intOf]; omega⟩
                · obtain rfl : q = i := by omega
                  have hr := Lib.hid (overG_row m q k p)
                  go_wp2_with fail
                  exact ⟨⟨p + 1, by omega, by go_num, n, by rw [hr.out]⟩, by simp [intOf]; omega⟩
            · obtain rfl : p = i := by omega
              have hr : Hid (overG m p k p 0 = overG m p (k + 1) 0 0) := (overG_all m p k).trans (overG_zero m p (k + 1)).symm
              go_wp2_with fail
              exact ⟨⟨k + 1, by omega, by go_num, n, by rw [hr.out]⟩, by simp [intOf]; omega⟩
        · obtain rfl : k = i := by omega
          have hr : Hid (overG m k k 0 0 = reachG m k k) := overG_zero m k k
          go_wp2_with (first
            | (refine wpList_load_row rfl 90 (.tmp 3) rfl (w.heap.size + 1 + 1) (by simp [Act.put, Act.eval]) _ (marC (overG m k k 0 0)) _ _ (heap_alloc3_new w _ _ _) Try.underlying90 rfl mar_info ?_)
            | (refine wpList_store_row rfl 90 (.tmp 2) (.tmp 78) rfl (w.heap.size + 1) (marC (overG m k k 0 0)) (by simp [Act.put, Act.eval]) (by simp [Act.put, Act.eval]) _ _ (heap_alloc3_second w _ _ _) mar_info rfl (marC_one _) ?_))
          refine bodyPost_ret (results_cell_row rfl _ _ (w.heap.size + 1) _ (marC (overG m k k 0 0)) _ _ (by simp [Act.put, Act.eval]) (setRow_heap _ _ _ _ _ _ (heap_alloc3_second w _ _ _)) Try.underlying90 rfl mar_info) rfl ⟨by rw [hr.out], ?_⟩
          exact bel_setRow (bel_drewN (bel_alloc (bel_alloc (bel_alloc (Below.refl _ w) _) _) _) _) (by omega) _
end Go.Proofs.Ytbcngdamligpbaa
