/- Whether a chain fits a clue, fits all of them; the solutions: contracts of the program. -/
import Derived.Test.YtggflgmjncjmbaaPzF
import Derived.Deep.RegionHeld3
namespace Go.Proofs.Ytggflgmjncjmbaa
set_option linter.unusedSimpArgs false
open Go.ChangeShapes Go.WideShapes Go.ChangeAt Go.RowKit
set_option linter.unusedVariables false

theorem held33_start {w W : World} {k l : Nat} {x y z p q r : Value} (h : Box3 W k x y z) (g : Box3 W l p q r) (hb : Below w.heap.size w W) : let V := W.drew
    V.cell? ⟨k, 0, none⟩ = some x ∧ V.cell? ⟨k, 1, none⟩ = some y ∧ V.cell? ⟨k, 2, none⟩ = some z ∧ k < V.heap.size ∧ V.cell? ⟨l, 0, none⟩ = some p ∧ V.cell? ⟨l, 1, none⟩ = some q ∧ V.cell? ⟨l, 2, none⟩ = some r ∧ l < V.heap.size ∧ Below w.heap.size w V :=
  ⟨h.1, h.2.1, h.2.2.1, h.2.2.2, g.1, g.2.1, g.2.2.1, g.2.2.2, hb.drew⟩
theorem held33_keep {w W w1 : World} {k l : Nat} {x y z p q r : Value} (h : W.cell? ⟨k, 0, none⟩ = some x ∧ W.cell? ⟨k, 1, none⟩ = some y ∧ W.cell? ⟨k, 2, none⟩ = some z ∧ k < W.heap.size ∧ W.cell? ⟨l, 0, none⟩ = some p ∧ W.cell? ⟨l, 1, none⟩ = some q ∧ W.cell? ⟨l, 2, none⟩ = some r ∧ l < W.heap.size ∧ Below w.heap.size w W)
    (hb : Below W.heap.size W w1) : w1.cell? ⟨k, 0, none⟩ = some x ∧ w1.cell? ⟨k, 1, none⟩ = some y ∧ w1.cell? ⟨k, 2, none⟩ = some z ∧ k < w1.heap.size ∧ w1.cell? ⟨l, 0, none⟩ = some p ∧ w1.cell? ⟨l, 1, none⟩ = some q ∧ w1.cell? ⟨l, 2, none⟩ = some r ∧ l < w1.heap.size ∧ Below w.heap.size w w1 := by
  have b : Box3 w1 k x y z := Box3.keep ⟨h.1, h.2.1, h.2.2.1, h.2.2.2.1⟩ hb
  have c : Box3 w1 l p q r := Box3.keep ⟨h.2.2.2.2.1, h.2.2.2.2.2.1, h.2.2.2.2.2.2.1, h.2.2.2.2.2.2.2.1⟩ hb
  exact ⟨b.1, b.2.1, b.2.2.1, b.2.2.2, c.1, c.2.1, c.2.2.1, c.2.2.2, bel_trans h.2.2.2.2.2.2.2.2 hb⟩
theorem held33_below {w W : World} {k l : Nat} {x y z p q r : Value} (h : W.cell? ⟨k, 0, none⟩ = some x ∧ W.cell? ⟨k, 1, none⟩ = some y ∧ W.cell? ⟨k, 2, none⟩ = some z ∧ k < W.heap.size ∧ W.cell? ⟨l, 0, none⟩ = some p ∧ W.cell? ⟨l, 1, none⟩ = some q ∧ W.cell? ⟨l, 2, none⟩ = some r ∧ l < W.heap.size ∧ Below w.heap.size w W) : Below w.heap.size w W := h.2.2.2.2.2.2.2.2
theorem fit_eq (k a b : Int) (c : Tri) : fit (k, a, b) c = (decide (a = (clv k c).1) && decide (b = (clv k c).2)) := by
  unfold fit
  by_cases h1 : a = (clv k c).1 <;> by_cases h2 : b = (clv k c).2 <;> simp [h1, h2, eq_comm]
theorem eq_clue (k a b l c d : Int) (w : World) : (binOp .eql 39 (chn k a b) (chn l c d)).run Try.prog w = .ok (.bool (decide (k = l) && (decide (a = c) && decide (b = d)))) w := by
  have hS : Try.prog.underlying 39 = some (.struct (Try.prog.fieldsOf 39)) := by kernel_rfl
  have hp : Try.prog.stoodInHeld 39 = false := by kernel_rfl
  have u3 := Try.underlying3
  have a3 := Try.isAgg3
  have z3 := Try.sizeOf3
  rw [run_eql_struct, show (10000 : Nat) = 9999 + 1 from rfl, run_equalIn_agg w 9999 39 _ _ hS hp]
  simp only [Program.fieldsOf, Try.underlying39]
  go_simp
  by_cases h1 : k = l <;> by_cases h2 : a = c <;> by_cases h3 : b = d <;> simp [h1, h2, h3]
set_option maxRecDepth 100000 in
set_option maxHeartbeats 1600000 in
theorem cFits_any (k a b u d o : Int) (w : World) (hk : clG (k, a, b) = true) (h : hidG (u, d, o) = true) :
    Calls Try.prog 68 #[chn k a b, chn u d o] w fun e w' => e = .returned (.bool (fit (k, a, b) (u, d, o))) ∧ Below w.heap.size w w' := by
  obtain ⟨k0, k5, _⟩ := clG_in hk
  have k0 : 0 ≤ k := k0
  have k5 : k ≤ 5 := k5
  have hcall := fun W => clueOf_any k u d o W h k0 k5
  have hfe := fit_eq k a b (u, d, o)
  generalize fit (k, a, b) (u, d, o) = F at *
  generalize (clv k (u, d, o)).1 = X at *
  generalize (clv k (u, d, o)).2 = Y at *
  have heq : ∀ W : World, (binOp .eql 39 (chn k a b) (chn k X Y)).run Try.prog W = .ok (.bool F) W := fun W => by
    rw [eq_clue, hfe]
    simp
  clear hfe hk h
  have bl := Lib.hid (bel_alloc (bel_alloc (Below.refl _ w) (.cells #[.int .i64 k, .int .i64 a, .int .i64 b] 39)) (.cells #[.int .i64 u, .int .i64 d, .int .i64 o] 41))
  have b0 := Lib.hid ((Box3.new w (.int .i64 k) (.int .i64 a) (.int .i64 b) 39).keep (bel_alloc (Below.refl _ _) (.cells #[.int .i64 u, .int .i64 d, .int .i64 o] 41)))
  have b1 := Lib.hid (Box3.new (w.alloc (.cells #[.int .i64 k, .int .i64 a, .int .i64 b] 39)) (.int .i64 u) (.int .i64 d) (.int .i64 o) 41)
  have hz : (w.alloc (.cells #[.int .i64 k, .int .i64 a, .int .i64 b] 39)).heap.size = w.heap.size + 1 := (size1 _ _).symm
  rw [hz] at b1
  clear hz
  go_enter Try.func68, Try.ntmps68
  go_wp2_with fail
  go_region_held3 (fun w' => w'.cell? ⟨w.heap.size, 0, none⟩ = some (.int .i64 k) ∧ w'.cell? ⟨w.heap.size, 1, none⟩ = some (.int .i64 a) ∧ w'.cell? ⟨w.heap.size, 2, none⟩ = some (.int .i64 b) ∧ w.heap.size < w'.heap.size ∧ w'.cell? ⟨w.heap.size + 1, 0, none⟩ = some (.int .i64 u) ∧ w'.cell? ⟨w.heap.size + 1, 1, none⟩ = some (.int .i64 d) ∧ w'.cell? ⟨w.heap.size + 1, 2, none⟩ = some (.int .i64 o) ∧ w.heap.size + 1 < w'.heap.size ∧ Below w.heap.size w w')
    (first | exact held33_start b0.out b1.out bl.out | exact held33_keep (by assumption) hb2 | assumption | go_keep)
    (first | (go_at_call 94; refine (hcall _).mono ?_; rintro e w2 ⟨rfl, hb2⟩))
  all_goals
    have hgE := held33_below (by assumption)
    go_wp2
    go_ret
    exact ⟨rfl, hgE⟩
end Go.Proofs.Ytggflgmjncjmbaa
