/- Chances within some plays: the contracts of the program's steps. -/
import Derived.Test.YtfogipdhipipfaaSkG
import Derived.Test.YtfogipdhipipfaaSkB
namespace Go.Proofs.Ytfogipdhipipfaa
set_option linter.unusedSimpArgs false
open Go.ChangeShapes Go.WideShapes Go.ChangeAt Go.RowKit
set_option linter.unusedVariables false

theorem behindH_any (p g s : Int) (w : World) (h0 : 0 ≤ p) (h1 : p ≤ 16) (h2 : 0 ≤ s) (h3 : s ≤ 16) :
    Calls Try.prog 76 #[sk p g, .int .i64 s, .string ⟨#[104]⟩] w fun e w' => e = .returned (sk (p + s) g) ∧ Below w.heap.size w w' := by
  have hw : IntKind.i64.wrap (p + s) = p + s := IntWalk.i64_in _ (by omega)
  have hne : (@BEq.beq (List UInt8) _ (ByteArray.toList ⟨#[104]⟩) (ByteArray.toList ⟨#[116]⟩)) = false := by kernel_rfl
  go_enter Try.func76, Try.ntmps76
  go_wp2
  refine bodyPost_ret (v := sk (p + s) g) (by simp [results, Try.results76, go_sem]) rfl ⟨rfl, ?_⟩
  repeat (first | assumption | with_reducible exact Below.refl _ _ | refine bel_alloc ?_ _ | refine bel_drewN ?_ _ | refine Below.drew ?_ | (refine Below.setCell ?_ (by simp) _) | (refine bel_trans ?_ (by assumption)))
theorem behindT_any (p g s : Int) (w : World) (h0 : 0 ≤ p) (h1 : p ≤ 16) (h2 : 0 ≤ s) (h3 : s ≤ 16) :
    Calls Try.prog 76 #[sk p g, .int .i64 s, .string ⟨#[116]⟩] w fun e w' => e = .returned (sk (p - s) g) ∧ Below w.heap.size w w' := by
  have hw : IntKind.i64.wrap (-s) = -s := IntWalk.i64_in _ (by omega)
  have hw2 : IntKind.i64.wrap (p + -s) = p - s := by rw [show p + -s = p - s from by omega]; exact IntWalk.i64_in _ (by omega)
  have heq : (@BEq.beq (List UInt8) _ (ByteArray.toList ⟨#[116]⟩) (ByteArray.toList ⟨#[116]⟩)) = true := by kernel_rfl
  go_enter Try.func76, Try.ntmps76
  go_wp2
  refine bodyPost_ret (v := sk (p - s) g) (by simp [results, Try.results76, go_sem]) rfl ⟨rfl, ?_⟩
  repeat (first | assumption | with_reducible exact Below.refl _ _ | refine bel_alloc ?_ _ | refine bel_drewN ?_ _ | refine Below.drew ?_ | (refine Below.setCell ?_ (by simp) _) | (refine bel_trans ?_ (by assumption)))

theorem sk_field (a b : Int) (W : World) : (Instr.field 25 (.agg #[.int .i64 a, .int .i64 b]) 0).run Try.prog W = .ok (.int .i64 a) W := by kernel_rfl
/-- What holds in the regions of a step: three boxes. -/
theorem h24_start {w W : World} {k l A i j : Nat} {a b c d x y : Value} (p : Box2 W k a b) (q : Box2 W l c d) (r : W.cell? ⟨A, i, none⟩ = some x) (r2 : W.cell? ⟨A, j, none⟩ = some y) (s : A < W.heap.size) (z : Below w.heap.size w W) : let V := W.drew
    V.cell? ⟨k, 0, none⟩ = some a ∧ V.cell? ⟨k, 1, none⟩ = some b ∧ k < V.heap.size ∧ V.cell? ⟨l, 0, none⟩ = some c ∧ V.cell? ⟨l, 1, none⟩ = some d ∧ l < V.heap.size ∧ V.cell? ⟨A, i, none⟩ = some x ∧ V.cell? ⟨A, j, none⟩ = some y ∧ A < V.heap.size ∧ Below w.heap.size w V :=
  ⟨p.1, p.2.1, p.2.2, q.1, q.2.1, q.2.2, r, r2, s, z.drew⟩
theorem h24_keep {w W w1 : World} {k l A i j : Nat} {a b c d x y : Value} (h : W.cell? ⟨k, 0, none⟩ = some a ∧ W.cell? ⟨k, 1, none⟩ = some b ∧ k < W.heap.size ∧ W.cell? ⟨l, 0, none⟩ = some c ∧ W.cell? ⟨l, 1, none⟩ = some d ∧ l < W.heap.size ∧ W.cell? ⟨A, i, none⟩ = some x ∧ W.cell? ⟨A, j, none⟩ = some y ∧ A < W.heap.size ∧ Below w.heap.size w W) (hb : Below W.heap.size W w1) :
    w1.cell? ⟨k, 0, none⟩ = some a ∧ w1.cell? ⟨k, 1, none⟩ = some b ∧ k < w1.heap.size ∧ w1.cell? ⟨l, 0, none⟩ = some c ∧ w1.cell? ⟨l, 1, none⟩ = some d ∧ l < w1.heap.size ∧ w1.cell? ⟨A, i, none⟩ = some x ∧ w1.cell? ⟨A, j, none⟩ = some y ∧ A < w1.heap.size ∧ Below w.heap.size w w1 := by
  obtain ⟨h1, h2, h3, h4, h5, h6, h7, h7b, h8, h9⟩ := h
  have x1 := Box2.keep ⟨h1, h2, h3⟩ hb
  have y1 := Box2.keep ⟨h4, h5, h6⟩ hb
  exact ⟨x1.1, x1.2.1, x1.2.2, y1.1, y1.2.1, y1.2.2, (hb.cell (p := ⟨A, i, none⟩) h8).trans h7, (hb.cell (p := ⟨A, j, none⟩) h8).trans h7b, Nat.lt_of_lt_of_le h8 hb.size, bel_trans h9 hb⟩
theorem h24_drewN {w W : World} {k l A i j : Nat} {a b c d x y : Value} (h : W.cell? ⟨k, 0, none⟩ = some a ∧ W.cell? ⟨k, 1, none⟩ = some b ∧ k < W.heap.size ∧ W.cell? ⟨l, 0, none⟩ = some c ∧ W.cell? ⟨l, 1, none⟩ = some d ∧ l < W.heap.size ∧ W.cell? ⟨A, i, none⟩ = some x ∧ W.cell? ⟨A, j, none⟩ = some y ∧ A < W.heap.size ∧ Below w.heap.size w W) (n : Nat) : let V := W.drewN n
    V.cell? ⟨k, 0, none⟩ = some a ∧ V.cell? ⟨k, 1, none⟩ = some b ∧ k < V.heap.size ∧ V.cell? ⟨l, 0, none⟩ = some c ∧ V.cell? ⟨l, 1, none⟩ = some d ∧ l < V.heap.size ∧ V.cell? ⟨A, i, none⟩ = some x ∧ V.cell? ⟨A, j, none⟩ = some y ∧ A < V.heap.size ∧ Below w.heap.size w V := by
  obtain ⟨h1, h2, h3, h4, h5, h6, h7, h7b, h8, h9⟩ := h
  exact ⟨h1, h2, h3, h4, h5, h6, h7, h7b, h8, bel_drewN h9 n⟩
/-- The part of a stake. -/
def ptI (H T : Int) (F : Nat → Int) (q s : Nat) : Int := H * F (q + s) + T * F (q - s)
set_option maxRecDepth 100000 in
set_option maxHeartbeats 6400000 in
theorem pbehind_any (H T o : Int) (F : Nat → Int) (q s G : Nat) (w : World) (hc : coinG H o = true) (hT : o - H = T) (hG : G ≤ 16) (h1 : q + s ≤ G) (h2 : s ≤ q) (hF : ∀ i, 0 ≤ F i ∧ F i ≤ 1000000) :
    Calls Try.prog 75 #[.agg (iN 17 F), cn H o, sk q G, .int .i64 s] w fun e w' => e = .returned (.int .i64 (ptI H T F q s)) ∧ Below w.heap.size w w' := by
  obtain ⟨r1, r2, r3, r4⟩ := coin_in hc
  have hta : Hid (∀ W : World, Calls Try.prog 51 #[cn H o] W fun e w' => e = .returned (.int .i64 T) ∧ Below W.heap.size W w') := Lib.hid (fun W => by
    have := tails_any H o W hc
    rw [hT] at this
    exact this)
  have hbh : Hid (∀ W : World, Calls Try.prog 76 #[sk q G, .int .i64 s, .string ⟨#[104]⟩] W fun e w' => e = .returned (.agg #[.int .i64 ((q + s : Nat) : Int), .int .i64 G]) ∧ Below W.heap.size W w') := Lib.hid (fun W => by
    have := behindH_any (q : Int) (G : Int) (s : Int) W (by omega) (by omega) (by omega) (by omega)
    rw [show (q : Int) + (s : Int) = ((q + s : Nat) : Int) from by omega] at this
    exact this)
  have hbt : Hid (∀ W : World, Calls Try.prog 76 #[sk q G, .int .i64 s, .string ⟨#[116]⟩] W fun e w' => e = .returned (.agg #[.int .i64 ((q - s : Nat) : Int), .int .i64 G]) ∧ Below W.heap.size W w') := Lib.hid (fun W => by
    have := behindT_any (q : Int) (G : Int) (s : Int) W (by omega) (by omega) (by omega) (by omega)
    rw [show (q : Int) - (s : Int) = ((q - s : Nat) : Int) from by omega] at this
    exact this)
  have st : Hid (let W := ((w.alloc (.cells (iN 17 F) 51)).alloc (.cells #[.int .i64 H, .int .i64 o] 32)).alloc (.cells #[.int .i64 q, .int .i64 G] 25); Box2 W (w.heap.size + 1) (.int .i64 H) (.int .i64 o) ∧ Box2 W (w.heap.size + 1 + 1) (.int .i64 q) (.int .i64 G) ∧ W.cell? ⟨w.heap.size, q + s, none⟩ = some (.int .i64 (F (q + s))) ∧ W.cell? ⟨w.heap.size, q - s, none⟩ = some (.int .i64 (F (q - s))) ∧ w.heap.size < W.heap.size ∧ Below w.heap.size w W) := by
    refine Lib.hid ?_
    have b0 := bel_alloc (Below.refl _ w) (.cells (iN 17 F) 51)
    have hr := heap_alloc_new w (.cells (iN 17 F) 51)
    have hs0 := size1 w (.cells (iN 17 F) 51)
    generalize w.alloc (.cells (iN 17 F) 51) = w0 at *
    have b1 := bel_alloc (Below.refl _ w0) (.cells #[.int .i64 H, .int .i64 o] 32)
    have x1 := Box2.new w0 (.int .i64 H) (.int .i64 o) 32
    have hs1 := size1 w0 (.cells #[.int .i64 H, .int .i64 o] 32)
    generalize w0.alloc (.cells #[.int .i64 H, .int .i64 o] 32) = w1 at *
    have b2 := bel_alloc (Below.refl _ w1) (.cells #[.int .i64 q, .int .i64 G] 25)
    have x2 := Box2.new w1 (.int .i64 q) (.int .i64 G) 25
    have hs2 := size1 w1 (.cells #[.int .i64 q, .int .i64 G] 25)
    generalize w1.alloc (.cells #[.int .i64 q, .int .i64 G] 25) = w2 at *
    have hr2 := (b2.block w.heap.size (by omega)).trans ((b1.block w.heap.size (by omega)).trans hr)
    have e0 : w0.heap.size = w.heap.size + 1 := by omega
    have e1 : w1.heap.size = w.heap.size + 1 + 1 := by omega
    rw [e0] at x1
    rw [e1] at x2
    exact ⟨x1.keep b2, x2, cell_heap hr2 (iN_get 17 F (q + s) (by omega)), cell_heap hr2 (iN_get 17 F (q - s) (by omega)), by omega, bel_trans (bel_trans b0 b1) b2⟩
  obtain ⟨f0, f1⟩ := hF (q + s)
  obtain ⟨f2, f3⟩ := hF (q - s)
  unfold ptI
  generalize F (q + s) = X at *
  generalize F (q - s) = Y at *
  have m0 := Int.mul_nonneg (show (0 : Int) ≤ H by omega) f0
  have m1 := Int.mul_le_mul (show H ≤ 10 by omega) f1 f0 (by omega)
  have m2 := Int.mul_nonneg (show (0 : Int) ≤ T by omega) f2
  have m3 := Int.mul_le_mul (show T ≤ 10 by omega) f3 f2 (by omega)
  have hw1 : IntKind.i64.wrap (H * X) = H * X := IntWalk.i64_in _ (by omega)
  have hw2 : IntKind.i64.wrap (T * Y) = T * Y := IntWalk.i64_in _ (by omega)
  have hw3 : IntKind.i64.wrap (H * X + T * Y) = H * X + T * Y := IntWalk.i64_in _ (by omega)
  have b1 : ((q + s : Nat) : Int) < 17 := by omega
  have b2 : ((q - s : Nat) : Int) < 17 := by omega
  generalize q + s = Q1 at *
  generalize q - s = Q2 at *
  have hfi : ∀ (a b : Int) (W : World), (Instr.field 25 (.agg #[.int .i64 a, .int .i64 b]) 0).run Try.prog W = .ok (.int .i64 a) W := sk_field
  clear m0 m1 m2 m3 f0 f1 f2 f3 hF hT h1
  go_enter Try.func75, Try.ntmps75
  go_wp2_with fail
  go_region_held3 (fun w' => w'.cell? ⟨w.heap.size + 1, 0, none⟩ = some (.int .i64 H) ∧ w'.cell? ⟨w.heap.size + 1, 1, none⟩ = some (.int .i64 o) ∧ w.heap.size + 1 < w'.heap.size ∧ w'.cell? ⟨w.heap.size + 1 + 1, 0, none⟩ = some (.int .i64 (q : Int)) ∧ w'.cell? ⟨w.heap.size + 1 + 1, 1, none⟩ = some (.int .i64 (G : Int)) ∧ w.heap.size + 1 + 1 < w'.heap.size ∧ w'.cell? ⟨w.heap.size, Q1, none⟩ = some (.int .i64 X) ∧ w'.cell? ⟨w.heap.size, Q2, none⟩ = some (.int .i64 Y) ∧ w.heap.size < w'.heap.size ∧ Below w.heap.size w w')
    (first | exact h24_start st.out.1 st.out.2.1 st.out.2.2.1 st.out.2.2.2.1 st.out.2.2.2.2.1 st.out.2.2.2.2.2 | exact h24_keep (by assumption) hb1 | exact h24_keep (by assumption) hb2 | exact h24_keep (by assumption) hb3 | exact h24_drewN (by assumption) _ | assumption | go_keep)
    (first | (go_at_call 51; refine (hta.out _).mono ?_; rintro e w1 ⟨rfl, hb1⟩) | (go_at_call_of 76 (Value.string ⟨#[104]⟩); refine (hbh.out _).mono ?_; rintro e w2 ⟨rfl, hb2⟩) | (go_at_call_of 76 (Value.string ⟨#[116]⟩); refine (hbt.out _).mono ?_; rintro e w3 ⟨rfl, hb3⟩))
  all_goals
    obtain ⟨_, _, _, _, _, _, _, _, _, hbl⟩ := (by assumption : _ ∧ _ ∧ _ ∧ _ ∧ _ ∧ _ ∧ _ ∧ _ ∧ _ ∧ _)
    go_wp2
    go_ret
    exact ⟨rfl, hbl⟩
end Go.Proofs.Ytfogipdhipipfaa
