/- Lists of tosses that are counted by timid play: the contract of the program's countTimid. -/
import Derived.Test.YtfogipdhipipfabSkA
namespace Go.Proofs.Ytfogipdhipipfab
set_option linter.unusedSimpArgs false
open Go.ChangeShapes Go.WideShapes Go.ChangeAt Go.RowKit
set_option linter.unusedVariables false

/-- What the purses 1 .. k - 1 lead to. -/
def ctS (f : Nat → Int) (k q : Nat) : Int := (if q + 1 < k then f (q + 1) else 0) + (if 2 ≤ q ∧ q ≤ k then f (q - 1) else 0)
/-- And that of k by a loss. -/
def ctH (f : Nat → Int) (k q : Nat) : Int := ctS f k q + (if q + 1 = k then f k else 0)
theorem ctS_one (f : Nat → Int) : ctS f 1 = noI := by
  funext q
  unfold ctS
  rw [if_neg (by omega), if_neg (by omega)]
  rfl
theorem ctH_at (f : Nat → Int) (j : Nat) : ctH f (j + 1) j = ctS f (j + 1) j + f (j + 1) := by unfold ctH; rw [if_pos rfl]
theorem ctH_old (f : Nat → Int) (j i : Nat) (h : i ≠ j) : ctH f (j + 1) i = ctS f (j + 1) i := by unfold ctH; rw [if_neg (by omega), Int.add_zero]
theorem ctS_at (f : Nat → Int) (j : Nat) : ctS f (j + 2) (j + 2) = ctH f (j + 1) (j + 2) + f (j + 1) := by
  unfold ctH ctS
  rw [if_neg (by omega), if_pos (by omega), if_neg (by omega), if_neg (by omega), if_neg (by omega)]
  simp
theorem ctS_old (f : Nat → Int) (j i : Nat) (h : i ≠ j + 2) : ctS f (j + 2) i = ctH f (j + 1) i := by
  unfold ctH ctS
  by_cases a : i = j
  · subst a
    repeat' split
    all_goals omega
  · repeat' split
    all_goals omega
/-- By how many lists of so many tosses each purse comes. -/
def ctV (P G : Nat) : Nat → Nat → Int
  | 0, q => if q = P then 1 else 0
  | n + 1, q => ctS (ctV P G n) G q
theorem ctS_in (f : Nat → Int) (B : Int) (h : ∀ q, 0 ≤ f q ∧ f q ≤ B) (k q : Nat) : 0 ≤ ctS f k q ∧ ctS f k q ≤ 2 * B := by
  have h1 := h (q + 1)
  have h2 := h (q - 1)
  unfold ctS
  split <;> split <;> omega
theorem ctH_in (f : Nat → Int) (B : Int) (h : ∀ q, 0 ≤ f q ∧ f q ≤ B) (k q : Nat) : 0 ≤ ctH f k q ∧ ctH f k q ≤ 3 * B := by
  have h1 := ctS_in f B h k q
  have h2 := h k
  unfold ctH
  split <;> omega
theorem ctV_in (P G : Nat) : ∀ n q, 0 ≤ ctV P G n q ∧ ctV P G n q ≤ 2 ^ n
  | 0, q => by unfold ctV; split <;> simp
  | n + 1, q => by
    have := ctS_in (ctV P G n) (2 ^ n) (ctV_in P G n) G q
    unfold ctV
    rw [Int.pow_succ]
    omega
theorem two30 (n : Nat) (h : n ≤ 30) : (2 : Int) ^ n ≤ 1073741824 := by
  have : (2 : Nat) ^ n ≤ 2 ^ 30 := Nat.pow_le_pow_right (by omega) h
  have h2 : ((2 ^ n : Nat) : Int) ≤ ((2 ^ 30 : Nat) : Int) := by omega
  simpa using h2
/-- The blocks of the call: the stakes, its answer, here. -/
structure CtT (w : World) (P G : Nat) (F : Nat → Int) (wr : World) : Prop where
  box : Box2 wr w.heap.size (.int .i64 P) (.int .i64 G)
  res : wr.heap[w.heap.size + 1]? = some (.cells (iN 17 noI) 64)
  here : wr.heap[w.heap.size + 1 + 1]? = some (.cells (iN 17 F) 64)
  big : w.heap.size + 1 + 1 < wr.heap.size
  bel : Below w.heap.size w wr
theorem CtT.keep {w : World} {P G : Nat} {F : Nat → Int} {wr wv : World} (h : CtT w P G F wr) (hb : Below wr.heap.size wr wv) : CtT w P G F wv := by
  have h2 := h.big
  exact ⟨h.box.keep hb, (hb.block (w.heap.size + 1) (by omega)).trans h.res, (hb.block (w.heap.size + 1 + 1) (by omega)).trans h.here, Nat.lt_of_lt_of_le h2 hb.size, bel_trans h.bel hb⟩
theorem Box2.setRow {w : World} {k b : Nat} {x y : Value} (h : Box2 w k x y) (hb : b ≠ k) (cs : Array Value) : Box2 (w.setRow b cs) k x y := by
  have hl := h.2.2
  have e : (w.setRow b cs).heap[k]? = w.heap[k]? := setRow_other _ _ _ _ (by omega)
  exact ⟨(World.cell?_of_block (w := w) (a := ⟨k, 0, none⟩) e).trans h.1, (World.cell?_of_block (w := w) (a := ⟨k, 1, none⟩) e).trans h.2.1, by simpa [World.setRow] using hl⟩
theorem CtT.setHere {w : World} {P G : Nat} {F F' : Nat → Int} {wr : World} (h : CtT w P G F wr) : CtT w P G F' (wr.setRow (w.heap.size + 1 + 1) (iN 17 F')) := by
  have h2 := h.big
  exact ⟨h.box.setRow (by omega) _, (setRow_other _ _ _ _ (by omega)).trans h.res, setRow_heap _ _ _ _ _ _ h.here, by simpa [World.setRow] using h2, bel_setRow h.bel (by omega) _⟩

set_option maxRecDepth 100000 in
set_option maxHeartbeats 3200000 in
theorem countTimid_any (P G n : Nat) (w : World) (hP : P ≤ G) (h1 : 1 ≤ G) (h16 : G ≤ 16) (hn : n ≤ 30) :
    Calls Try.prog 36 #[sk P G, .int .i64 n] w fun e w' => e = .returned (.agg (iN 17 (ctV P G n))) ∧ Below w.heap.size w w' := by
  have hV := Lib.hid (ctV_in P G)
  have hset : (iN 17 noI).setIfInBounds P (.int .i64 1) = iN 17 (ctV P G 0) := iN_set 17 _ _ 1 P (by omega) (by unfold ctV; rw [if_pos rfl]) (fun i _ hi => by unfold ctV; rw [if_neg hi])
  have hst : Hid (CtT w P G (ctV P G 0) (((w.alloc (.cells #[.int .i64 P, .int .i64 G] 26)).alloc (.cells (iN 17 noI) 64)).alloc (.cells (iN 17 (ctV P G 0)) 64))) := by
    refine Lib.hid ?_
    have hb := Box2.new w (.int .i64 P) (.int .i64 G) 26
    generalize hw0 : w.alloc (.cells #[.int .i64 P, .int .i64 G] 26) = w0 at *
    have hs0 : w0.heap.size = w.heap.size + 1 := by rw [← hw0, ← size1]
    have hb0 : Below w.heap.size w w0 := by rw [← hw0]; exact bel_alloc (Below.refl _ _) _
    generalize hw1 : w0.alloc (.cells (iN 17 noI) 64) = w1 at *
    have hs1 : w1.heap.size = w.heap.size + 1 + 1 := by rw [← hw1, ← size1, hs0]
    have hb1 : Below w0.heap.size w0 w1 := by rw [← hw1]; exact bel_alloc (Below.refl _ _) _
    have hk := bel_alloc (Below.refl _ w1) (.cells (iN 17 (ctV P G 0)) 64)
    have hr1 : w1.heap[w.heap.size + 1]? = some (.cells (iN 17 noI) 64) := by rw [← hw1, ← hs0]; exact heap_alloc_new w0 _
    refine ⟨(hb.keep hb1).keep hk, (hk.block _ (by omega)).trans hr1, by rw [← hs1]; exact heap_alloc_new w1 _, ?_, bel_trans (bel_trans hb0 hb1) hk⟩
    rw [← size1]
    omega
  have x0 : (((w.alloc (.cells #[.int .i64 P, .int .i64 G] 26)).alloc (.cells (iN 17 noI) 64)).alloc (.cells (iN 17 noI) 64)).cell? ⟨w.heap.size + 1 + 1, P, none⟩ = some (.int .i64 0) := by
    have := cell_heap (b := ((w.alloc (.cells #[.int .i64 P, .int .i64 G] 26)).alloc (.cells (iN 17 noI) 64)).heap.size) (heap_alloc_new ((w.alloc (.cells #[.int .i64 P, .int .i64 G] 26)).alloc (.cells (iN 17 noI) 64)) (.cells (iN 17 noI) 64)) (iN_get 17 noI P (by omega))
    rw [← size1, ← size1] at this
    exact this
  have x1 : (((w.alloc (.cells #[.int .i64 P, .int .i64 G] 26)).alloc (.cells (iN 17 noI) 64)).alloc (.cells (iN 17 noI) 64)).frozen? ⟨w.heap.size + 1 + 1, P, none⟩ = false := by
    have := froz_heap (b := ((w.alloc (.cells #[.int .i64 P, .int .i64 G] 26)).alloc (.cells (iN 17 noI) 64)).heap.size) (q := P) (heap_alloc_new ((w.alloc (.cells #[.int .i64 P, .int .i64 G] 26)).alloc (.cells (iN 17 noI) 64)) (.cells (iN 17 noI) 64))
    rw [← size1, ← size1] at this
    exact this
  have g1 : (P : Int) < 17 := by omega
  go_enter Try.func36, Try.ntmps36
  go_wp2_with (first
    | (refine wpList_alloc_row rfl 64 rfl (iN 17 noI) (pu_zero _) ?_))
  clear x0 x1 g1
  generalize ((w.alloc (.cells #[.int .i64 P, .int .i64 G] 26)).alloc (.cells (iN 17 noI) 64)).alloc (.cells (iN 17 (ctV P G 0)) 64) = w1 at *
  go_loopw [12] (fun x wr => ∃ i : Nat, i ≤ n ∧ x = .int .i64 i ∧ Hid (CtT w P G (ctV P G i) wr)) (fun x _ => n - (intOf x).toNat)
  case atStart => exact ⟨0, by omega, rfl, hst⟩
  case round =>
    obtain ⟨i, hi, rfl, hS⟩ := hrel
    obtain ⟨wa, rfl⟩ : ∃ wa : World, wa = wr := ⟨_, rfl⟩
    by_cases hlt : i < n
    · have h2 := two30 i (by omega)
      have HF : Hid (∀ q, 0 ≤ ctV P G i q ∧ ctV P G i q ≤ 1073741824) := Lib.hid (fun q => ⟨(hV.out i q).1, Int.le_trans (hV.out i q).2 h2⟩)
      clear h2
      have hnx : Hid (iN 17 (ctS (ctV P G i) G) = iN 17 (ctV P G (i + 1))) := rfl
      generalize ctV P G i = F at *
      have hN0 := Lib.hid (PuN.start wa)
      have hbig := hS.out.big
      go_wp2_with (first
        | (refine wpList_alloc_row rfl 64 rfl (iN 17 noI) (pu_zero _) ?_))
      go_loopw [7] (fun x wr => ∃ j : Nat, j + 1 ≤ G ∧ x = .int .i64 ((j : Int) + 1) ∧ Hid (PuN wa (ctS F (j + 1)) wr)) (fun x _ => G - (intOf x).toNat)
      case atStart => exact ⟨0, by omega, rfl, by rw [ctS_one]; exact hN0⟩
      case round =>
        obtain ⟨j, hj, rfl, hN⟩ := hrel
        obtain ⟨wb, rfl⟩ : ∃ wb : World, wb = wr := ⟨_, rfl⟩
        have hSb := Lib.hid (hS.out.keep hN.out.2)
        obtain ⟨c0, c1, hk⟩ := hSb.out.box
        by_cases hjl : j + 1 < G
        · have a0 := cell_heap hSb.out.here (iN_get 17 F (j + 1) (by omega))
          obtain ⟨x0, x1⟩ := hN.out.cells j (by omega)
          obtain ⟨f0, f1⟩ := HF.out (j + 1)
          obtain ⟨s0, s1⟩ := ctS_in F _ HF.out (j + 1) j
          obtain ⟨s2, s3⟩ := ctH_in F _ HF.out (j + 1) (j + 2)
          have hw1 : IntKind.i64.wrap (ctS F (j + 1) j + F (j + 1)) = ctS F (j + 1) j + F (j + 1) := IntWalk.i64_in _ (by omega)
          have hw2 : IntKind.i64.wrap (ctH F (j + 1) (j + 2) + F (j + 1)) = ctH F (j + 1) (j + 2) + F (j + 1) := IntWalk.i64_in _ (by omega)
          have hM := Lib.hid (hN.out.set j (by omega) (ctS F (j + 1) j + F (j + 1)) (G' := ctH F (j + 1)) (ctH_at F j) (fun q _ hq => ctH_old F j q hq))
          have hji : (j : Int) + 1 < (G : Int) := by omega
          have hj17 : (j : Int) + 1 < 17 := by omega
          have hj18 : (j : Int) < 17 := by omega
          go_wp2_with fail
          go_region
          have hM2 := Lib.hid (hM.out.drewN 1)
          obtain ⟨wc, hwc⟩ : ∃ wc, wc = (wb.setCell ⟨wa.heap.size, j, none⟩ (.int .i64 (ctS F (j + 1) j + F (j + 1)))).drewN 1 := ⟨_, rfl⟩
          have hwd : (wb.setCell ⟨wa.heap.size, j, none⟩ (.int .i64 (ctS F (j + 1) j + F (j + 1)))).drew = wc := hwc.symm
          rw [← hwc] at hM2
          rw [hwd]
          clear hwc hwd hM x0 x1 a0 c0 c1 hk hSb hN
          have hSc := Lib.hid (hS.out.keep hM2.out.2)
          have a0 := cell_heap hSc.out.here (iN_get 17 F (j + 1) (by omega))
          obtain ⟨x0, x1⟩ := hM2.out.cells (j + 2) (by omega)
          have hK := Lib.hid (hM2.out.set (j + 2) (by omega) (ctH F (j + 1) (j + 2) + F (j + 1)) (G' := ctS F (j + 2)) (ctS_at F j) (fun q _ hq => ctS_old F j q hq))
          have hj19 : (j : Int) + 2 < 17 := by omega
          go_wp2_with fail
          go_region
          go_wp2_with fail
          exact ⟨⟨j + 1, by omega, by go_num, Lib.hid (hK.out.drewN 1)⟩, by simp [intOf]; omega⟩
        · have hge : ¬ (j : Int) + 1 < (G : Int) := by omega
          have hNG : Hid (PuN wa (ctS F G) wb) := by rw [show G = j + 1 from by omega]; exact hN
          clear hN hj hjl
          go_wp2_with (first
            | (refine wpList_load_row rfl 64 (.tmp 6) rfl wa.heap.size (by simp [Act.put, Act.eval]) _ (iN 17 (ctS F G)) _ _ hNG.out.1 Try.underlying64 rfl (by rw [iN_size]; exact pu_info) ?_)
            | (refine wpList_store_row rfl 64 (.tmp 5) (.tmp 38) rfl (w.heap.size + 1 + 1) (iN 17 (ctS F G)) (by simp [Act.put, Act.eval]) (by simp [Act.put, Act.eval]) _ _ hSb.out.here (by rw [iN_size]; exact pu_info) (by rw [iN_size, iN_size]) (iN_one _ _) ?_))
          rw [hnx.out]
          exact ⟨⟨i + 1, by omega, by go_num, Lib.hid hSb.out.setHere⟩, by simp [intOf]; omega⟩
    · obtain rfl : i = n := by omega
      go_wp2_with (first
        | (refine wpList_load_row rfl 64 (.tmp 5) rfl (w.heap.size + 1 + 1) (by simp [Act.put, Act.eval]) _ (iN 17 (ctV P G i)) _ _ hS.out.here Try.underlying64 rfl (by rw [iN_size]; exact pu_info) ?_)
        | (refine wpList_store_row rfl 64 (.tmp 4) (.tmp 40) rfl (w.heap.size + 1) (iN 17 (ctV P G i)) (by simp [Act.put, Act.eval]) (by simp [Act.put, Act.eval]) _ _ hS.out.res (by rw [iN_size]; exact pu_info) (by rw [iN_size, iN_size]) (iN_one _ _) ?_))
      refine bodyPost_ret (results_cell_row rfl _ _ (w.heap.size + 1) _ (iN 17 (ctV P G i)) _ _ (by simp [Act.put, Act.eval]) (setRow_heap _ _ _ _ _ _ hS.out.res) Try.underlying64 rfl (by rw [iN_size]; exact pu_info)) rfl ⟨rfl, ?_⟩
      exact bel_setRow hS.out.bel (by omega) _
end Go.Proofs.Ytfogipdhipipfab
