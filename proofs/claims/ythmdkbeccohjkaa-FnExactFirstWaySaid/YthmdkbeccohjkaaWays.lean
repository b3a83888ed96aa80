/- CountWays, StatesAfter: the contracts of the program and of its model. -/
import Derived.Test.YthmdkbeccohjkaaSaA
namespace Go.Proofs.Ythmdkbeccohjkaa
set_option linter.unusedSimpArgs false
open Go.ChangeShapes Go.WideShapes Go.ChangeAt Go.RowKit
set_option linter.unusedVariables false

theorem atM_out {lim : Int} {m : List (List Int)} (h : Good lim m) {i j : Nat} (hj : m.length ≤ j) : atM m i j = 0 := by
  unfold atM
  rcases Nat.lt_or_ge i m.length with hi | hi
  · rw [getD_out _ j _ (by rw [h.row i hi]; exact hj)]
  · rw [getD_out m i _ hi]; simp
theorem gridM_at (m : List (List Int)) (i j : Nat) (hj : j < 5) : gridM m (i * 5 + j) = atM m i j := by unfold gridM; congr 1 <;> omega
theorem rowF_grid {lim : Int} {m : List (List Int)} (h : Good lim m) : rowF (gridM m) = wayM false m := by
  funext i j
  unfold rowF wayM
  by_cases hj : j < 5
  · rw [if_pos hj, gridM_at m i j hj]; simp
  · rw [if_neg hj]
    have := h.five
    simp [atM_out h (i := i) (j := j) (by omega)]
theorem rowF_cnt {lim : Int} {m : List (List Int)} (h : Good lim m) : rowF (cntG (gridM m)) = wayM true m := by
  funext i j
  unfold rowF wayM cntG
  by_cases hj : j < 5
  · rw [if_pos hj, gridM_at m i j hj]
    have := (h.num i j).1
    unfold one sig
    simp
    split <;> split <;> omega
  · rw [if_neg hj]
    have := h.five
    simp [atM_out h (i := i) (j := j) (by omega), sig]
theorem way_out {lim : Int} {m : List (List Int)} (h : Good lim m) (ways : Bool) (i j : Nat) (hj : m.length ≤ j) : wayM ways m i j = 0 := by
  unfold wayM sig
  rw [atM_out h hj]
  cases ways <;> simp
theorem way_aft {lim : Int} {m : List (List Int)} (h : Good lim m) (ways : Bool) (frm n : Nat) (hn : n ≤ 8) : ∀ k j, k ≤ n → 0 ≤ aft (wayM ways m) m.length frm k j ∧ aft (wayM ways m) m.length frm k j ≤ 10000000000000000 := by
  intro k j hk
  obtain ⟨a, b⟩ := aft_in (wayM ways m) m.length frm h.five (wayM_in h ways) k j
  have := fifty k (by omega)
  exact ⟨a, by omega⟩
theorem grid_col {lim : Int} {m : List (List Int)} (h : Good lim m) (q : Nat) (hq : m.length ≤ q % 5) : gridM m q = 0 := by
  unfold gridM
  exact atM_out h hq
theorem grid_row {lim : Int} {m : List (List Int)} (h : Good lim m) (q : Nat) (hq : m.length ≤ q / 5) : gridM m q = 0 := by
  unfold gridM atM
  rw [getD_out m _ _ hq]; simp

theorem idx_row (h : Nat → Int) (w : World) : ∀ j : Nat, j < 5 → (Instr.index 41 (.agg (rowC h)) (.int .i64 (j : Int))).run Try.prog w = .ok (.int .i64 (h j)) w := by
  apply cases5 <;> kernel_rfl

def ansWays (lim : Int) (m : List (List Int)) (f t n : Int) : Value :=
  if ask2 lim m f t && inB n 0 8 then .tuple #[.int .i64 (aft (wayM true m) m.length f.toNat n.toNat t.toNat), .bool true] else .tuple #[.int .i64 0, .bool false]
theorem ansWays_form (lim : Int) (m : List (List Int)) (f t n : Int) : ∃ (x : Int) (o : Bool), ansWays lim m f t n = .tuple #[.int .i64 x, .bool o] := by
  unfold ansWays
  split
  · exact ⟨_, _, rfl⟩
  · exact ⟨_, _, rfl⟩

end Go.Proofs.Ythmdkbeccohjkaa
