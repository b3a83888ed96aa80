/- Moves: valid states as arrays; the contract of the program's test of states. -/
import Derived.Test.YthmdkbeccohjkaaArr
namespace Go.Proofs.Ythmdkbeccohjkaa
set_option linter.unusedSimpArgs false
open Go.ChangeShapes Go.WideShapes Go.ChangeAt Go.RowKit
set_option linter.unusedVariables false

/-- The rows filled so far: all before row k, and of row k the first j numbers. -/
def fillG (m : List (List Int)) (k j : Nat) : Nat → Int := fun q => if q / 5 < k ∨ (q / 5 = k ∧ q % 5 < j) then gridM m q else 0
theorem fillG_zero (m : List (List Int)) : fillG m 0 0 = zer := by
  funext q; unfold fillG zer; rw [if_neg (by omega)]
theorem fillG_next (m : List (List Int)) (k j : Nat) (hj : j < 5) : upd (fillG m k j) (k * 5 + j) (atM m k j) = fillG m k (j + 1) := by
  funext q
  unfold upd fillG
  by_cases e : q = k * 5 + j
  · subst e
    have h1 : (k * 5 + j) / 5 = k := by omega
    have h2 : (k * 5 + j) % 5 = j := by omega
    rw [if_pos rfl, if_pos (by omega)]
    unfold gridM
    rw [h1, h2]
  · rw [if_neg e]
    by_cases h : q / 5 < k ∨ (q / 5 = k ∧ q % 5 < j)
    · rw [if_pos h, if_pos (by omega)]
    · rw [if_neg h, if_neg (by omega)]
theorem fillG_row (m : List (List Int)) (k : Nat) (hl : (m.getD k []).length ≤ 5) : fillG m k (m.getD k []).length = fillG m (k + 1) 0 := by
  funext q
  unfold fillG
  by_cases h : q / 5 < k ∨ (q / 5 = k ∧ q % 5 < (m.getD k []).length)
  · rw [if_pos h, if_pos (by omega)]
  · rw [if_neg h]
    by_cases h2 : q / 5 < k + 1 ∨ (q / 5 = k + 1 ∧ q % 5 < 0)
    · rw [if_pos h2]
      have e : q / 5 = k := by omega
      unfold gridM atM
      rw [e, getD_out _ _ _ (by omega)]
    · rw [if_neg h2]
theorem fillG_all (m : List (List Int)) : fillG m m.length 0 = gridM m := by
  funext q
  unfold fillG
  by_cases h : q / 5 < m.length ∨ (q / 5 = m.length ∧ q % 5 < 0)
  · rw [if_pos h]
  · rw [if_neg h]
    unfold gridM atM
    rw [getD_out m (q / 5) _ (by omega)]
    simp
/-- What the program's test of states answers. -/
def mvOf (lim : Int) (m : List (List Int)) : Array Value := if saG lim m then mvC lim m.length (gridM m) else mvC 0 0 zer
theorem mvOf_no {lim : Int} {m : List (List Int)} (h : saG lim m = false) : mvOf lim m = mvC 0 0 zer := by simp [mvOf, h]
theorem mvOf_yes {lim : Int} {m : List (List Int)} (h : saG lim m = true) : mvOf lim m = mvC lim m.length (gridM m) := by simp [mvOf, h]
theorem mvOf_size (lim : Int) (m : List (List Int)) : (mvOf lim m).size = 27 := by unfold mvOf; split <;> rfl
theorem mvOf_one (lim : Int) (m : List (List Int)) : (mvOf lim m).all (·.oneCell') = true := by unfold mvOf; split <;> exact mvC_one _ _ _

def MvAns (lim : Int) (m : List (List Int)) (w : World) (e : Ending) (w' : World) : Prop := e = .returned (.tuple #[.agg (mvOf lim m), .bool (saG lim m)]) ∧ Below w.heap.size w w'

set_option maxRecDepth 100000 in
set_option maxHeartbeats 1000000 in
theorem movesOf_head (lim : Int) (m : List (List Int)) (v : Value) (B : Nat) (w : World) (h : RdM w B v m) (hB : B ≤ w.heap.size) (h1 : inB lim 1 10 = false ∨ inB (m.length : Int) 1 5 = false) :
    Calls Try.prog 25 #[sts lim v] w (MvAns lim m w) := by
  obtain ⟨A, cap, rfl, l0, m0⟩ := h.form
  unfold maxLen at m0
  have hr : saG lim m = false := by
    unfold saG
    rcases h1 with h1 | h1 <;> rw [h1] <;> simp
  unfold MvAns
  rw [hr, mvOf_no hr]
  clear hr
  have hbl := bel_alloc (bel_alloc (Below.refl _ w) (.cells #[.int .i64 lim, .slice A m.length cap] 29)) (.cells (mvC 0 0 zer) 45)
  have key : ∀ (c : Int), (c < 1 ∨ (1 ≤ c ∧ 10 < c)) ∨ (1 ≤ c ∧ c ≤ 10) := fun c => by omega
  rcases key lim with (hc | ⟨hc, hc'⟩) | ⟨hc, hc'⟩
  · clear h h1 key
    go_enter Try.func25, Try.ntmps25
    go_wp2_with (first
      | (refine wpList_alloc_row rfl 45 rfl (mvC 0 0 zer) (mv_zero _) ?_)
      | (refine wpList_built rfl 45 _ rfl (mvC 0 0 zer) (by simpa using mv_built0) ?_)
      | (refine wpList_store_new (k := w.heap.size + 1) rfl 45 (.tmp 2) (.tmp 30) rfl (by simp) rfl rfl mv_info rfl (mvC_one _ _ _) ?_))
    exact bodyPost_ret (results_cell_tmp2 rfl _ _ (w.heap.size + 1) _ (mvC 0 0 zer) _ _ rfl (heap_alloc2_new w _ _) Try.underlying45 rfl mv_info) rfl ⟨rfl, hbl⟩
  · clear h h1 key
    have hd : decide (lim < 1) = false := by simp; omega
    go_enter Try.func25, Try.ntmps25
    go_wp2_with (first
      | (refine wpList_alloc_row rfl 45 rfl (mvC 0 0 zer) (mv_zero _) ?_)
      | (refine wpList_built rfl 45 _ rfl (mvC 0 0 zer) (by simpa using mv_built0) ?_)
      | (refine wpList_store_new (k := w.heap.size + 1) rfl 45 (.tmp 2) (.tmp 30) rfl (by simp) rfl rfl mv_info rfl (mvC_one _ _ _) ?_))
    exact bodyPost_ret (results_cell_tmp2 rfl _ _ (w.heap.size + 1) _ (mvC 0 0 zer) _ _ rfl (heap_alloc2_new w _ _) Try.underlying45 rfl mv_info) rfl ⟨rfl, hbl⟩
  · have hn : m.length < 1 ∨ (1 ≤ m.length ∧ 5 < m.length) := by
      rcases h1 with h1 | h1
      · exfalso; have : inB lim 1 10 = true := (inB_iff _ _ _).2 ⟨hc, hc'⟩
        rw [this] at h1; cases h1
      · rcases Nat.lt_or_ge 5 m.length with h2 | h2
        · exact .inr ⟨by omega, h2⟩
        · refine .inl (Nat.lt_of_not_le fun h3 => ?_)
          have : inB (m.length : Int) 1 5 = true := (inB_iff _ _ _).2 ⟨by omega, by omega⟩
          rw [this] at h1; cases h1
    have hd : decide (lim < 1) = false := by simp; omega
    have hd2 : decide (10 < lim) = false := by simp; omega
    clear h h1 key
    clear l0
    generalize m.length = N at *
    rcases hn with hn | ⟨hn, hn'⟩
    · obtain rfl : N = 0 := by omega
      go_enter Try.func25, Try.ntmps25
      go_wp2_with (first
        | (refine wpList_alloc_row rfl 45 rfl (mvC 0 0 zer) (mv_zero _) ?_)
        | (refine wpList_built rfl 45 _ rfl (mvC 0 0 zer) (by simpa using mv_built0) ?_)
        | (refine wpList_store_new (k := w.heap.size + 1) rfl 45 (.tmp 2) (.tmp 30) rfl (by simp) rfl rfl mv_info rfl (mvC_one _ _ _) ?_))
      exact bodyPost_ret (results_cell_tmp2 rfl _ _ (w.heap.size + 1) _ (mvC 0 0 zer) _ _ rfl (heap_alloc2_new w _ _) Try.underlying45 rfl mv_info) rfl ⟨rfl, hbl⟩
    · have hd3 : ¬ N = 0 := by omega
      have hd5 : decide (N = 0) = false := by simp; omega
      go_enter Try.func25, Try.ntmps25
      go_wp2_with (first
        | (refine wpList_alloc_row rfl 45 rfl (mvC 0 0 zer) (mv_zero _) ?_)
        | (refine wpList_built rfl 45 _ rfl (mvC 0 0 zer) (by simpa using mv_built0) ?_)
        | (refine wpList_store_new (k := w.heap.size + 1) rfl 45 (.tmp 2) (.tmp 30) rfl (by simp) rfl rfl mv_info rfl (mvC_one _ _ _) ?_))
      exact bodyPost_ret (results_cell_tmp2 rfl _ _ (w.heap.size + 1) _ (mvC 0 0 zer) _ _ rfl (heap_alloc2_new w _ _) Try.underlying45 rfl mv_info) rfl ⟨rfl, hbl⟩
end Go.Proofs.Ythmdkbeccohjkaa
