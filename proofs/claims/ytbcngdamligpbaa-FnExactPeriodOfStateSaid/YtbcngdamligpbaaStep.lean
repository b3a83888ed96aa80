/- A step of moves from a row of chances, and so many steps: the program's contracts. -/
import Derived.Test.YtbcngdamligpbaaSt2
import Derived.RegionTactic
import Derived.ChangeAlike
namespace Go.Proofs.Ytbcngdamligpbaa
set_option linter.unusedSimpArgs false
open Go.ChangeShapes Go.WideShapes Go.ChangeAt Go.RowKit
set_option linter.unusedVariables false

/-- The cells of a row. -/
def rowC (h : Nat → Int) : Array Value := #[.int .i64 (h 0), .int .i64 (h 1), .int .i64 (h 2), .int .i64 (h 3), .int .i64 (h 4)]
theorem rowC_one (h : Nat → Int) : (rowC h).all (·.oneCell') = true := by simp [rowC, Value.oneCell']
theorem cases5 {p : Nat → Prop} (h0 : p 0) (h1 : p 1) (h2 : p 2) (h3 : p 3) (h4 : p 4) : ∀ q, q < 5 → p q
  | 0, _ => h0 | 1, _ => h1 | 2, _ => h2 | 3, _ => h3 | 4, _ => h4
  | n + 5, h => absurd h (by omega)
theorem rowC_get (h : Nat → Int) : ∀ q, q < 5 → (rowC h)[q]? = some (.int .i64 (h q)) := by apply cases5 <;> rfl
theorem rowC_set (h : Nat → Int) (x : Int) : ∀ q, q < 5 → (rowC h).setIfInBounds q (.int .i64 x) = rowC (upd h q x) := by apply cases5 <;> rfl
theorem rowC_ext {h h' : Nat → Int} (e : ∀ q, q < 5 → h q = h' q) : rowC h = rowC h' := by
  unfold rowC; rw [e 0 (by omega), e 1 (by omega), e 2 (by omega), e 3 (by omega), e 4 (by omega)]
theorem row_info : (Try.prog.info? 62).map (·.size) = some 5 := by kernel_rfl
theorem row_zero (w : World) : (zeroValue 62).run Try.prog w = .ok (.agg (rowC zer)) w := Try.zeroValue62 w

/-- The next row, of state i the numbers before j. -/
def partS (f : Nat → Nat → Int) (h : Nat → Int) (i j : Nat) : Nat → Int := fun q => if q < j then psum f h q (i + 1) else psum f h q i
theorem partS_zero (f : Nat → Nat → Int) (h : Nat → Int) : partS f h 0 0 = zer := by funext q; simp [partS, psum, zer]
theorem partS_next (f : Nat → Nat → Int) (h : Nat → Int) (i j : Nat) : upd (partS f h i j) j (partS f h i j j + h i * f i j) = partS f h i (j + 1) := by
  funext q
  unfold upd partS
  by_cases e : q = j
  · subst e; simp [psum]
  · rw [if_neg e]
    by_cases h1 : q < j
    · rw [if_pos h1, if_pos (by omega)]
    · rw [if_neg h1, if_neg (by omega)]
theorem partS_row (f : Nat → Nat → Int) (h : Nat → Int) (i n : Nat) (hz : ∀ q, n ≤ q → f i q = 0) : partS f h i n = partS f h (i + 1) 0 := by
  funext q
  unfold partS
  by_cases h1 : q < n
  · simp [h1]
  · simp [h1, psum, hz q (by omega)]
theorem partS_all (f : Nat → Nat → Int) (h : Nat → Int) (n : Nat) : partS f h n 0 = fun q => psum f h q n := by funext q; simp [partS]
def rowF (g : Nat → Int) (i j : Nat) : Int := if j < 5 then g (i * 5 + j) else 0
theorem psum_inB (f : Nat → Nat → Int) (h : Nat → Int) (to : Nat) (B : Int) (hf : ∀ i, 0 ≤ f i to ∧ f i to ≤ 10) (hh : ∀ i, 0 ≤ h i ∧ h i ≤ B) : ∀ i : Nat, 0 ≤ psum f h to i ∧ psum f h to i ≤ i * (10 * B)
  | 0 => by simp [psum]
  | i + 1 => by
    obtain ⟨a, b⟩ := psum_inB f h to B hf hh i
    have h1 := hh i
    have h2 := hf i
    have h3 : 0 ≤ h i * f i to := Int.mul_nonneg h1.1 h2.1
    have h4 : h i * f i to ≤ B * 10 := Int.mul_le_mul h1.2 h2.2 h2.1 (by omega)
    unfold psum
    refine ⟨by omega, ?_⟩
    have : ((i + 1 : Nat) : Int) * (10 * B) = i * (10 * B) + 10 * B := by rw [Int.natCast_add, Int.add_mul]; simp
    omega

theorem size3 (w : World) (a b c : Obj) : w.heap.size + 1 + 1 + 1 = (((w.alloc a).alloc b).alloc c).heap.size := by
  show _ = (((w.heap.push a).push b).push c).size
  simp
theorem set4 (w : World) (A B C : Obj) (c c' : Array Value) (t : TypeId) (n i : Nat) (v : Value) (h : c.setIfInBounds i v = c') :
    (((((w.alloc A).alloc B).alloc C).alloc (.cells c t)).drewN n).setCell ⟨w.heap.size + 1 + 1 + 1, i, none⟩ v = ((((w.alloc A).alloc B).alloc C).alloc (.cells c' t)).drewN n := by
  show ((((((w.alloc A).alloc B).alloc C).alloc (.cells c t))).setCell ⟨w.heap.size + 1 + 1 + 1, i, none⟩ v).drewN n = _
  rw [World.setCell_alloc_at _ _ _ _ _ (size3 _ _ _ _), h]
theorem heap4_new (w : World) (A B C D : Obj) (n : Nat) : (((((w.alloc A).alloc B).alloc C).alloc D).drewN n).heap[w.heap.size + 1 + 1 + 1]? = some D := by
  have h := heap_alloc_new (((w.alloc A).alloc B).alloc C) D
  rw [← size3] at h
  exact h
theorem heap4_second (w : World) (A B C D : Obj) (n : Nat) : (((((w.alloc A).alloc B).alloc C).alloc D).drewN n).heap[w.heap.size + 1 + 1]? = some C := by
  have h := heap_alloc3_new w A B C
  refine (?_ : ((((w.alloc A).alloc B).alloc C).alloc D).heap[w.heap.size + 1 + 1]? = some C)
  rw [heap_alloc_old _ _ (by rw [← size3]; omega)]
  exact h

set_option maxRecDepth 100000 in
set_option maxHeartbeats 3200000 in
theorem stepFrom_any (a : Int) (N : Nat) (g : Nat → Int) (h : Nat → Int) (w : World) (hN : N ≤ 5) (hg : ∀ i j, 0 ≤ rowF g i j ∧ rowF g i j ≤ 10) (hz : ∀ i j, N ≤ j → rowF g i j = 0) (hh : ∀ i, 0 ≤ h i ∧ h i ≤ 10000000000000000) :
    Calls Try.prog 64 #[.agg (mvC a N g), .agg (rowC h)] w fun e w' => e = .returned (.agg (rowC (fun q => psum (rowF g) h q N))) ∧ Below w.heap.size w w' := by
  have HG := Lib.hid hg
  have HZ := Lib.hid hz
  have HH := Lib.hid hh
  have h0 : Hid (rowC zer = rowC (partS (rowF g) h 0 0)) := by rw [partS_zero]; exact rfl
  clear hg hz hh
  have g1 : (mvC a N g)[1]? = some (.int .i64 N) := rfl
  go_enter Try.func64, Try.ntmps64
  go_wp2_with (first
    | (refine wpList_alloc_row rfl 62 rfl (rowC zer) (row_zero _) ?_))
  have hW0 : Hid ((((w.alloc (.cells (mvC a N g) 66)).alloc (.cells (rowC h) 62)).alloc (.cells (rowC zer) 62)).alloc (.cells (rowC zer) 62) = ((((w.alloc (.cells (mvC a N g) 66)).alloc (.cells (rowC h) 62)).alloc (.cells (rowC zer) 62)).alloc (.cells (rowC (partS (rowF g) h 0 0)) 62)).drewN 0) := by
    refine Lib.hid ?_
    exact congrArg (fun c => (((w.alloc (.cells (mvC a N g) 66)).alloc (.cells (rowC h) 62)).alloc (.cells (rowC zer) 62)).alloc (.cells c 62)) h0.out
  go_loopw [10] (fun x wr => ∃ i : Nat, i ≤ N ∧ x = .int .i64 i ∧ ∃ n, wr = ((((w.alloc (.cells (mvC a N g) 66)).alloc (.cells (rowC h) 62)).alloc (.cells (rowC zer) 62)).alloc (.cells (rowC (partS (rowF g) h i 0)) 62)).drewN n) (fun x _ => N - (intOf x).toNat)
  case atStart => exact ⟨0, by omega, rfl, 0, hW0.out⟩
  case round =>
    obtain ⟨i, hi, rfl, n, rfl⟩ := hrel
    by_cases hlt : i < N
    · go_wp2_with fail
      go_loopw [15] (fun x wr => ∃ j : Nat, j ≤ N ∧ x = .int .i64 j ∧ ∃ n, wr = ((((w.alloc (.cells (mvC a N g) 66)).alloc (.cells (rowC h) 62)).alloc (.cells (rowC zer) 62)).alloc (.cells (rowC (partS (rowF g) h i j)) 62)).drewN n) (fun x _ => N - (intOf x).toNat)
      case atStart => exact ⟨0, by omega, rfl, n, rfl⟩
      case round =>
        obtain ⟨j, hj, rfl, n2, rfl⟩ := hrel
        by_cases hlj : j < N
        · have e1 := rowC_get (partS (rowF g) h i j) j (by omega)
          have e2 := rowC_get h i (by omega)
          have e3 := mvC_get a (N : Int) g (i * 5 + j) (by omega)
          rw [← Nat.add_assoc] at e3
          have e4 := rowC_set (partS (rowF g) h i j) (partS (rowF g) h i j j + h i * rowF g i j) j (by omega)
          rw [partS_next] at e4
          have ez : g (i * 5 + j) = rowF g i j := by unfold rowF; rw [if_pos (by omega)]
          rw [ez] at e3
          have ep : partS (rowF g) h i j j = psum (rowF g) h j i := by simp [partS]
          obtain ⟨q0, q1⟩ := psum_inB (rowF g) h j 10000000000000000 (fun i => HG.out i j) HH.out i
          obtain ⟨r0, r1⟩ := HG.out i j
          obtain ⟨s0, s1⟩ := HH.out i
          rw [← ep] at q0 q1
          have t0 : 0 ≤ h i * rowF g i j := Int.mul_nonneg s0 r0
          have t1 : h i * rowF g i j ≤ 10000000000000000 * 10 := Int.mul_le_mul s1 r1 r0 (by omega)
          have w1 : IntKind.i64.wrap (h i * rowF g i j) = h i * rowF g i j := IntWalk.i64_in _ (by omega)
          have w2 : IntKind.i64.wrap (partS (rowF g) h i j j + h i * rowF g i j) = partS (rowF g) h i j j + h i * rowF g i j := IntWalk.i64_in _ (by omega)
          have k1 : (i : Int) < 5 := by omega
          have k2 : (j : Int) < 5 := by omega
          clear ez ep q0 q1 r0 r1 s0 s1 t0 t1
          generalize partS (rowF g) h i j j = p at *
          generalize hy : h i = y at *
          generalize hz : rowF g i j = z at *
          clear hy hz
          go_wp2_with fail
          go_region
          go_wp2_with fail
          exact ⟨⟨j + 1, by omega, by go_num, _, set4 _ _ _ _ _ _ _ _ _ _ e4⟩, by simp [intOf]; omega⟩
        · obtain rfl : j = N := by omega
          have hr := Lib.hid (partS_row (rowF g) h i j (HZ.out i))
          go_wp2_with fail
          exact ⟨⟨i + 1, by omega, by go_num, n2, by rw [hr.out]⟩, by simp [intOf]; omega⟩
    · obtain rfl : i = N := by omega
      have hr : Hid (partS (rowF g) h i 0 = fun q => psum (rowF g) h q i) := partS_all _ _ _
      go_wp2_with (first
        | (refine wpList_load_row rfl 62 (.tmp 5) rfl (w.heap.size + 1 + 1 + 1) (by simp [Act.put, Act.eval]) _ (rowC (partS (rowF g) h i 0)) _ _ (heap4_new w _ _ _ _ n) Try.underlying62 rfl row_info ?_)
        | (refine wpList_store_row rfl 62 (.tmp 4) (.tmp 35) rfl (w.heap.size + 1 + 1) (rowC (partS (rowF g) h i 0)) (by simp [Act.put, Act.eval]) (by simp [Act.put, Act.eval]) _ _ (heap4_second w _ _ _ _ n) row_info rfl (rowC_one _) ?_))
      refine bodyPost_ret (results_cell_row rfl _ _ (w.heap.size + 1 + 1) _ (rowC (partS (rowF g) h i 0)) _ _ (by simp [Act.put, Act.eval]) (setRow_heap _ _ _ _ _ _ (heap4_second w _ _ _ _ n)) Try.underlying62 rfl row_info) rfl ⟨by rw [hr.out], ?_⟩
      exact bel_setRow (bel_drewN (bel_alloc (bel_alloc (bel_alloc (bel_alloc (Below.refl _ w) _) _) _) _) _) (by omega) _
end Go.Proofs.Ytbcngdamligpbaa
