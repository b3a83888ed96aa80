/- Hidden days, apart from days and signs: contracts of the functions that look at them. -/
import Derived.Test.YtcfafgdgmkiibaaNum
import Derived.Test.YtcfafgdgmkiibaaRowI
namespace Go.Proofs.Ytcfafgdgmkiibaa
set_option linter.unusedSimpArgs false
open Go.ChangeShapes Go.WideShapes Go.ChangeAt Go.RowKit
set_option linter.unusedVariables false

abbrev hdn (a b c p q r : Int) : Value := .agg #[.int .i64 a, .int .i64 b, .int .i64 c, .int .i64 p, .int .i64 q, .int .i64 r]
abbrev pr2 (x y : Int) : Value := .agg #[.int .i64 x, .int .i64 y]
/-- Block k begins with the numbers of hidden days. -/
def Box6 (w : World) (k : Nat) (a b c p q r : Int) : Prop := w.cell? ⟨k, 0, none⟩ = some (.int .i64 a) ∧ w.cell? ⟨k, 1, none⟩ = some (.int .i64 b) ∧ w.cell? ⟨k, 2, none⟩ = some (.int .i64 c) ∧ w.cell? ⟨k, 3, none⟩ = some (.int .i64 p) ∧ w.cell? ⟨k, 4, none⟩ = some (.int .i64 q) ∧ w.cell? ⟨k, 5, none⟩ = some (.int .i64 r) ∧ k < w.heap.size
theorem Box6.new (w : World) (a b c p q r : Int) (t : TypeId) : Box6 (w.alloc (.cells #[.int .i64 a, .int .i64 b, .int .i64 c, .int .i64 p, .int .i64 q, .int .i64 r] t)) w.heap.size a b c p q r := by
  refine ⟨?_, ?_, ?_, ?_, ?_, ?_, ?_⟩ <;> simp [go_sem]
theorem Box6.keep {w w1 : World} {k : Nat} {a b c p q r : Int} (h : Box6 w k a b c p q r) (hb : Below w.heap.size w w1) : Box6 w1 k a b c p q r := by
  obtain ⟨h0, h1, h2, h3, h4, h5, h6⟩ := h
  exact ⟨(hb.cell (p := ⟨k, 0, none⟩) h6).trans h0, (hb.cell (p := ⟨k, 1, none⟩) h6).trans h1, (hb.cell (p := ⟨k, 2, none⟩) h6).trans h2, (hb.cell (p := ⟨k, 3, none⟩) h6).trans h3, (hb.cell (p := ⟨k, 4, none⟩) h6).trans h4, (hb.cell (p := ⟨k, 5, none⟩) h6).trans h5, Nat.lt_of_lt_of_le h6 hb.size⟩
theorem Box6.drewN {w : World} {k : Nat} {a b c p q r : Int} (h : Box6 w k a b c p q r) (n : Nat) : Box6 (w.drewN n) k a b c p q r := h
/-- What a drawn region keeps: the block k and what was there before. -/
def Hk6 (w W : World) (k : Nat) (a b c p q r : Int) : Prop := W.cell? ⟨k, 0, none⟩ = some (.int .i64 a) ∧ W.cell? ⟨k, 1, none⟩ = some (.int .i64 b) ∧ W.cell? ⟨k, 2, none⟩ = some (.int .i64 c) ∧ W.cell? ⟨k, 3, none⟩ = some (.int .i64 p) ∧ W.cell? ⟨k, 4, none⟩ = some (.int .i64 q) ∧ W.cell? ⟨k, 5, none⟩ = some (.int .i64 r) ∧ k < W.heap.size ∧ Below w.heap.size w W
theorem h6_start {w W : World} {k : Nat} {a b c p q r : Int} (h : Box6 W k a b c p q r) (hb : Below w.heap.size w W) : Hk6 w W.drew k a b c p q r := by
  obtain ⟨h0, h1, h2, h3, h4, h5, h6⟩ := h
  exact ⟨h0, h1, h2, h3, h4, h5, h6, hb.drew⟩
theorem h6_keep {w W w1 : World} {k : Nat} {a b c p q r : Int} (h : Hk6 w W k a b c p q r) (hb : Below W.heap.size W w1) : Hk6 w w1 k a b c p q r := by
  obtain ⟨h0, h1, h2, h3, h4, h5, h6, h7⟩ := h
  obtain ⟨g0, g1, g2, g3, g4, g5, g6⟩ := Box6.keep ⟨h0, h1, h2, h3, h4, h5, h6⟩ hb
  exact ⟨g0, g1, g2, g3, g4, g5, g6, bel_trans h7 hb⟩
theorem h6_drewN {w W : World} {k : Nat} {a b c p q r : Int} (h : Hk6 w W k a b c p q r) (n : Nat) : Hk6 w (W.drewN n) k a b c p q r := by
  obtain ⟨h0, h1, h2, h3, h4, h5, h6, h7⟩ := h
  exact ⟨h0, h1, h2, h3, h4, h5, h6, bel_drewN h7 n⟩
theorem h6_below {w W : World} {k : Nat} {a b c p q r : Int} (h : Hk6 w W k a b c p q r) : Box6 W k a b c p q r ∧ Below w.heap.size w W := by
  obtain ⟨h0, h1, h2, h3, h4, h5, h6, h7⟩ := h
  exact ⟨⟨h0, h1, h2, h3, h4, h5, h6⟩, h7⟩

def goodH (a b c p q r : Int) : Bool := good a b c && good p q r

set_option maxHeartbeats 800000 in
theorem hdGood_any (a b c p q r : Int) (w : World) :
    Calls Try.prog 44 #[hdn a b c p q r] w fun e w' => e = .returned (.bool (goodH a b c p q r)) ∧ Below w.heap.size w w' := by
  have bx := Lib.hid (Box6.new w a b c p q r 27)
  cases h0 : good a b c
  · go_enter Try.func44, Try.ntmps44
    go_wp2_with fail
    refine (cnGood_any _ _ _ _).mono ?_
    rintro e w1 ⟨rfl, hb1⟩
    rw [h0]
    go_wp2_with fail
    go_ret
    exact ⟨by simp [goodH, h0], bel_trans (bel_alloc (Below.refl _ _) _) hb1⟩
  all_goals
    cases h1 : inB r 1 10
    · go_enter Try.func44, Try.ntmps44
      go_wp2_with fail
      refine (cnGood_any _ _ _ _).mono ?_
      rintro e w1 ⟨rfl, hb1⟩
      rw [h0]
      obtain ⟨c0, c1, c2, c3, c4, c5, hk⟩ := bx.out.keep hb1
      go_wp2_with (go_at_call 47; refine (l1In_any _ _ _ _).mono ?_; rintro e w' ⟨rfl, rfl⟩)
      go_ret
      exact ⟨by simp [goodH, good, h0, h1], bel_trans (bel_alloc (Below.refl _ _) _) hb1⟩
    all_goals
      cases h2 : inB p 0 r
      · go_enter Try.func44, Try.ntmps44
        go_wp2_with fail
        refine (cnGood_any _ _ _ _).mono ?_
        rintro e w1 ⟨rfl, hb1⟩
        rw [h0]
        obtain ⟨c0, c1, c2, c3, c4, c5, hk⟩ := bx.out.keep hb1
        go_wp2_with (go_at_call 47; refine (l1In_any _ _ _ _).mono ?_; rintro e w' ⟨rfl, rfl⟩)
        go_ret
        exact ⟨by simp [goodH, good, h0, h1, h2], bel_trans (bel_alloc (Below.refl _ _) _) hb1⟩
      · go_enter Try.func44, Try.ntmps44
        go_wp2_with fail
        refine (cnGood_any _ _ _ _).mono ?_
        rintro e w1 ⟨rfl, hb1⟩
        rw [h0]
        obtain ⟨c0, c1, c2, c3, c4, c5, hk⟩ := bx.out.keep hb1
        go_wp2_with (go_at_call 47; refine (l1In_any _ _ _ _).mono ?_; rintro e w' ⟨rfl, rfl⟩)
        go_ret
        exact ⟨by unfold goodH; rw [h0]; unfold good; rw [h1, h2]; rfl, bel_trans (bel_alloc (Below.refl _ _) _) hb1⟩

theorem umbrellas_any (a b c p q r : Int) (w : World) :
    Calls Try.prog 45 #[hdn a b c p q r] w fun e w' => e = .returned (chn p q r) ∧ Below w.heap.size w w' := by
  go_enter Try.func45, Try.ntmps45
  go_wp2
  refine bodyPost_ret (v := chn p q r) (by simp [results, Try.results45, go_sem]) rfl ⟨rfl, ?_⟩
  repeat (first | assumption | with_reducible exact Below.refl _ _ | refine bel_alloc ?_ _ | refine bel_drewN ?_ _ | refine Below.drew ?_ | (refine Below.setCell ?_ (by simp) _) | (refine bel_trans ?_ (by assumption)))

set_option maxHeartbeats 800000 in
theorem implIsHidden_any (a b c p q r : Int) (w : World) :
    Calls Try.prog 31 #[hdn a b c p q r] w fun e w' => e = .returned (.bool (goodH a b c p q r)) ∧ Below w.heap.size w w' := by
  have bx := Lib.hid (Box6.new w a b c p q r 27)
  cases h0 : good a b c
  · go_enter Try.func31, Try.ntmps31
    go_wp2_with fail
    refine (implIsChain_any _ _ _ _).mono ?_
    rintro e w1 ⟨rfl, hb1⟩
    rw [h0]
    go_wp2_with fail
    go_ret
    exact ⟨by simp [goodH, h0], bel_trans (bel_alloc (Below.refl _ _) _) hb1⟩
  · go_enter Try.func31, Try.ntmps31
    go_wp2_with fail
    refine (implIsChain_any _ _ _ _).mono ?_
    rintro e w1 ⟨rfl, hb1⟩
    rw [h0]
    obtain ⟨c0, c1, c2, c3, c4, c5, hk⟩ := bx.out.keep hb1
    go_wp2_with fail
    refine (umbrellas_any _ _ _ _ _ _ _).mono ?_
    rintro e w2 ⟨rfl, hb2⟩
    go_wp2_with fail
    refine (implIsChain_any _ _ _ _).mono ?_
    rintro e w3 ⟨rfl, hb3⟩
    go_wp2_with fail
    go_ret
    exact ⟨by simp [goodH, h0], bel_trans (bel_trans (bel_trans (bel_alloc (Below.refl _ _) _) hb1) hb2) hb3⟩

def Box6W (w : World) (k : Nat) (a b c p q r : Int) : Prop := Box6 w k a b c p q r ∧ w.frozen? ⟨k, 0, none⟩ = false ∧ w.frozen? ⟨k, 1, none⟩ = false ∧ w.frozen? ⟨k, 2, none⟩ = false ∧ w.frozen? ⟨k, 3, none⟩ = false ∧ w.frozen? ⟨k, 4, none⟩ = false ∧ w.frozen? ⟨k, 5, none⟩ = false
theorem Box6W.keep {w w1 : World} {k : Nat} {a b c p q r : Int} (h : Box6W w k a b c p q r) (hb : Below w.heap.size w w1) : Box6W w1 k a b c p q r := by
  obtain ⟨h0, f0, f1, f2, f3, f4, f5⟩ := h
  have hk := h0.2.2.2.2.2.2
  exact ⟨h0.keep hb, (hb.frozen (p := ⟨k, 0, none⟩) hk).trans f0, (hb.frozen (p := ⟨k, 1, none⟩) hk).trans f1, (hb.frozen (p := ⟨k, 2, none⟩) hk).trans f2, (hb.frozen (p := ⟨k, 3, none⟩) hk).trans f3, (hb.frozen (p := ⟨k, 4, none⟩) hk).trans f4, (hb.frozen (p := ⟨k, 5, none⟩) hk).trans f5⟩
theorem Box6W.new (w : World) (a b c p q r : Int) (t : TypeId) : Box6W (w.alloc (.cells #[.int .i64 a, .int .i64 b, .int .i64 c, .int .i64 p, .int .i64 q, .int .i64 r] t)) w.heap.size a b c p q r := by
  refine ⟨Box6.new w a b c p q r t, ?_, ?_, ?_, ?_, ?_, ?_⟩ <;> simp [go_sem]
theorem Box6W.set {w : World} {k : Nat} {a b c p q r : Int} (h : Box6W w k a b c p q r) (a' b' c' p' q' r' : Int) :
    Box6W ((((((w.setCell ⟨k, 0, none⟩ (.int .i64 a')).setCell ⟨k, 1, none⟩ (.int .i64 b')).setCell ⟨k, 2, none⟩ (.int .i64 c')).setCell ⟨k, 3, none⟩ (.int .i64 p')).setCell ⟨k, 4, none⟩ (.int .i64 q')).setCell ⟨k, 5, none⟩ (.int .i64 r')) k a' b' c' p' q' r' := by
  obtain ⟨⟨h0, h1, h2, h3, h4, h5, h6⟩, f0, f1, f2, f3, f4, f5⟩ := h
  refine ⟨⟨?_, ?_, ?_, ?_, ?_, ?_, ?_⟩, ?_, ?_, ?_, ?_, ?_, ?_⟩
  all_goals simp [go_sem, h0, h1, h2, h3, h4, h5, h6, f0, f1, f2, f3, f4, f5]
theorem bel_set6 {w W : World} {k : Nat} (h : Below w.heap.size w W) (hk : w.heap.size ≤ k) (a b c p q r : Value) :
    Below w.heap.size w ((((((W.setCell ⟨k, 0, none⟩ a).setCell ⟨k, 1, none⟩ b).setCell ⟨k, 2, none⟩ c).setCell ⟨k, 3, none⟩ p).setCell ⟨k, 4, none⟩ q).setCell ⟨k, 5, none⟩ r) :=
  (((((h.setCell (p := ⟨k, 0, none⟩) hk a).setCell (p := ⟨k, 1, none⟩) hk b).setCell (p := ⟨k, 2, none⟩) hk c).setCell (p := ⟨k, 3, none⟩) hk p).setCell (p := ⟨k, 4, none⟩) hk q).setCell (p := ⟨k, 5, none⟩) hk r
theorem b6_other {w : World} {g k : Nat} {a b c p q r : Int} (h : Box6W w g a b c p q r) (hne : g ≠ k) (a' b' c' p' q' r' : Value) :
    Box6W ((((((w.setCell ⟨k, 0, none⟩ a').setCell ⟨k, 1, none⟩ b').setCell ⟨k, 2, none⟩ c').setCell ⟨k, 3, none⟩ p').setCell ⟨k, 4, none⟩ q').setCell ⟨k, 5, none⟩ r') g a b c p q r := by
  obtain ⟨⟨h0, h1, h2, h3, h4, h5, h6⟩, f0, f1, f2, f3, f4, f5⟩ := h
  refine ⟨⟨?_, ?_, ?_, ?_, ?_, ?_, ?_⟩, ?_, ?_, ?_, ?_, ?_, ?_⟩
  all_goals simp [go_sem, h0, h1, h2, h3, h4, h5, h6, f0, f1, f2, f3, f4, f5, hne]

end Go.Proofs.Ytcfafgdgmkiibaa
