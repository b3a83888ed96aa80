/- Moves: the program's test of states, whole; AreStates; moves with asked states. -/
import Derived.Test.YtbfgieolehbedaaDoorMv2
namespace Go.Proofs.YtbfgieolehbedaaDoor
set_option linter.unusedSimpArgs false
open Go.ChangeShapes Go.WideShapes Go.ChangeAt Go.RowKit
set_option linter.unusedVariables false

theorem movesOf_any (lim : Int) (m : List (List Int)) (v : Value) (B : Nat) (w : World) (h : RdM w B v m) (hB : B ≤ w.heap.size) :
    Calls Tryd.prog 54 #[sts lim v] w (MvAns lim m w) := by
  cases h1 : inB lim 1 10 with
  | false => exact movesOf_head lim m v B w h hB (.inl h1)
  | true =>
    cases h2 : inB (m.length : Int) 1 5 with
    | false => exact movesOf_head lim m v B w h hB (.inr h2)
    | true => exact movesOf_body lim m v B w h hB h1 h2

theorem mvOf_form (lim : Int) (m : List (List Int)) : ∃ a b g, mvOf lim m = mvC a b g ∧ (saG lim m = true → a = lim ∧ b = m.length ∧ g = gridM m) := by
  cases h : saG lim m with
  | false => exact ⟨0, 0, zer, mvOf_no h, fun h => by cases h⟩
  | true => exact ⟨lim, m.length, gridM m, mvOf_yes h, fun _ => ⟨rfl, rfl, rfl⟩⟩

set_option maxHeartbeats 800000 in
theorem implAreStates_any (lim : Int) (m : List (List Int)) (v : Value) (B : Nat) (w : World) (h : RdM w B v m) (hB : B ≤ w.heap.size) :
    Calls Tryd.prog 38 #[sts lim v] w fun e w' => e = .returned (.bool (saG lim m)) ∧ Below w.heap.size w w' := by
  obtain ⟨A, cap, rfl, l0, m0⟩ := h.form
  have hbl := bel_alloc (Below.refl _ w) (.cells #[.int .i64 lim, .slice A m.length cap] 24)
  have H := Lib.hid (h.below hbl hB)
  obtain ⟨a, b, g, hm, _⟩ := mvOf_form lim m
  have Hm := Lib.hid hm
  clear h hm
  go_enter Tryd.func38, Tryd.ntmps38
  go_wp2_with fail
  refine (movesOf_any lim m _ _ _ H.out (Nat.le_trans hB hbl.size)).mono ?_
  unfold MvAns
  rw [Hm.out]
  rintro e w1 ⟨rfl, b1⟩
  have hb1 := bel_trans hbl b1
  generalize hs : saG lim m = s at *
  have Hs := Lib.hid hs
  clear hs
  go_wp2_with (first
    | (refine wpList_alloc_row rfl 72 rfl (mvC 0 0 zer) (mv_zero _) ?_)
    | (refine wpList_store_new (k := w1.heap.size) (c' := mvC a b g) rfl 72 (.tmp 3) (.tmp 8) rfl rfl ?_ ?_ mv_info rfl (mvC_one _ _ _) ?_; (· simp [Act.put, Act.eval]); (· simp [Act.put, Act.eval])))
  go_ret
  exact ⟨by rw [Hs.out]; simp [Act.put, Act.eval], bel_alloc hb1 _⟩

def askB (n : Int) (xs : List Int) : Bool := xs.all (fun x => inB x 0 (n - 1))
def okK (ok : Bool) (n : Int) (xs : List Int) : Nat → Bool
  | 0 => ok
  | k + 1 => okK ok n xs k && inB (xs.getD k 0) 0 (n - 1)
theorem okK_all (ok : Bool) (n : Int) (xs : List Int) : okK ok n xs xs.length = (ok && askB n xs) := by
  have key : ∀ k, okK ok n xs k = true ↔ ok = true ∧ ∀ j, j < k → inB (xs.getD j 0) 0 (n - 1) = true := by
    intro k
    induction k with
    | zero => simp [okK]
    | succ k ih =>
      simp only [okK, Bool.and_eq_true, ih]
      constructor
      · rintro ⟨⟨a, b⟩, c⟩
        refine ⟨a, fun j hj => ?_⟩
        rcases Nat.lt_or_ge j k with h1 | h1
        · exact b j h1
        · obtain rfl : j = k := by omega
          exact c
      · rintro ⟨a, b⟩
        exact ⟨⟨a, fun j hj => b j (by omega)⟩, b k (by omega)⟩
  rw [Bool.eq_iff_iff, key, Bool.and_eq_true, askB, all_getD]
def MvAtAns (lim : Int) (m : List (List Int)) (xs : List Int) (w : World) (e : Ending) (w' : World) : Prop := e = .returned (.tuple #[.agg (mvOf lim m), .bool (saG lim m && askB m.length xs)]) ∧ Below w.heap.size w w'

end Go.Proofs.YtbfgieolehbedaaDoor
