/- Desks: copied, held against each other, and looked at, by the program and by its model. -/
import Derived.Test.YtcfafgdgmkiibaaHd0
import Derived.Test.YtcfafgdgmkiibaaCn
namespace Go.Proofs.Ytcfafgdgmkiibaa
open Go.ChangeShapes Go.WideShapes Go.ChangeAt Go.RowKit
set_option linter.unusedVariables false
set_option linter.unusedSimpArgs false

abbrev dsk (a b c m o d n f p q r : Int) : Value := .agg #[.int .i64 a, .int .i64 b, .int .i64 c, .int .i64 m, .int .i64 o, .int .i64 d, .int .i64 n, .int .i64 f, .int .i64 p, .int .i64 q, .int .i64 r]
def BoxD (w : World) (k : Nat) (a b c m o d n f p q r : Int) : Prop := w.cell? ⟨k, 0, none⟩ = some (.int .i64 a) ∧ w.cell? ⟨k, 1, none⟩ = some (.int .i64 b) ∧ w.cell? ⟨k, 2, none⟩ = some (.int .i64 c) ∧ w.cell? ⟨k, 3, none⟩ = some (.int .i64 m) ∧ w.cell? ⟨k, 4, none⟩ = some (.int .i64 o) ∧ w.cell? ⟨k, 5, none⟩ = some (.int .i64 d) ∧ w.cell? ⟨k, 6, none⟩ = some (.int .i64 n) ∧ w.cell? ⟨k, 7, none⟩ = some (.int .i64 f) ∧ w.cell? ⟨k, 8, none⟩ = some (.int .i64 p) ∧ w.cell? ⟨k, 9, none⟩ = some (.int .i64 q) ∧ w.cell? ⟨k, 10, none⟩ = some (.int .i64 r) ∧ k < w.heap.size
theorem BoxD.new (w : World) (a b c m o d n f p q r : Int) (t : TypeId) : BoxD (w.alloc (.cells #[.int .i64 a, .int .i64 b, .int .i64 c, .int .i64 m, .int .i64 o, .int .i64 d, .int .i64 n, .int .i64 f, .int .i64 p, .int .i64 q, .int .i64 r] t)) w.heap.size a b c m o d n f p q r := by
  refine ⟨?_, ?_, ?_, ?_, ?_, ?_, ?_, ?_, ?_, ?_, ?_, ?_⟩ <;> simp [go_sem]
theorem BoxD.keep {w w1 : World} {k : Nat} {a b c m o d n f p q r : Int} (h : BoxD w k a b c m o d n f p q r) (hb : Below w.heap.size w w1) : BoxD w1 k a b c m o d n f p q r := by
  obtain ⟨h0, h1, h2, h3, h4, h5, h6, h7, h8, h9, h10, hk⟩ := h
  exact ⟨(hb.cell (p := ⟨k, 0, none⟩) hk).trans h0, (hb.cell (p := ⟨k, 1, none⟩) hk).trans h1, (hb.cell (p := ⟨k, 2, none⟩) hk).trans h2, (hb.cell (p := ⟨k, 3, none⟩) hk).trans h3, (hb.cell (p := ⟨k, 4, none⟩) hk).trans h4, (hb.cell (p := ⟨k, 5, none⟩) hk).trans h5, (hb.cell (p := ⟨k, 6, none⟩) hk).trans h6, (hb.cell (p := ⟨k, 7, none⟩) hk).trans h7, (hb.cell (p := ⟨k, 8, none⟩) hk).trans h8, (hb.cell (p := ⟨k, 9, none⟩) hk).trans h9, (hb.cell (p := ⟨k, 10, none⟩) hk).trans h10, Nat.lt_of_lt_of_le hk hb.size⟩
def BoxDW (w : World) (k : Nat) (a b c m o d n f p q r : Int) : Prop := BoxD w k a b c m o d n f p q r ∧ w.frozen? ⟨k, 0, none⟩ = false ∧ w.frozen? ⟨k, 1, none⟩ = false ∧ w.frozen? ⟨k, 2, none⟩ = false ∧ w.frozen? ⟨k, 3, none⟩ = false ∧ w.frozen? ⟨k, 4, none⟩ = false ∧ w.frozen? ⟨k, 5, none⟩ = false ∧ w.frozen? ⟨k, 6, none⟩ = false ∧ w.frozen? ⟨k, 7, none⟩ = false ∧ w.frozen? ⟨k, 8, none⟩ = false ∧ w.frozen? ⟨k, 9, none⟩ = false ∧ w.frozen? ⟨k, 10, none⟩ = false
theorem BoxDW.new (w : World) (a b c m o d n f p q r : Int) (t : TypeId) : BoxDW (w.alloc (.cells #[.int .i64 a, .int .i64 b, .int .i64 c, .int .i64 m, .int .i64 o, .int .i64 d, .int .i64 n, .int .i64 f, .int .i64 p, .int .i64 q, .int .i64 r] t)) w.heap.size a b c m o d n f p q r := by
  refine ⟨BoxD.new w a b c m o d n f p q r t, ?_, ?_, ?_, ?_, ?_, ?_, ?_, ?_, ?_, ?_, ?_⟩ <;> simp [go_sem]
theorem BoxDW.keep {w w1 : World} {k : Nat} {a b c m o d n f p q r : Int} (h : BoxDW w k a b c m o d n f p q r) (hb : Below w.heap.size w w1) : BoxDW w1 k a b c m o d n f p q r := by
  obtain ⟨h0, f0, f1, f2, f3, f4, f5, f6, f7, f8, f9, f10⟩ := h
  have hk := h0.2.2.2.2.2.2.2.2.2.2.2
  exact ⟨h0.keep hb, (hb.frozen (p := ⟨k, 0, none⟩) hk).trans f0, (hb.frozen (p := ⟨k, 1, none⟩) hk).trans f1, (hb.frozen (p := ⟨k, 2, none⟩) hk).trans f2, (hb.frozen (p := ⟨k, 3, none⟩) hk).trans f3, (hb.frozen (p := ⟨k, 4, none⟩) hk).trans f4, (hb.frozen (p := ⟨k, 5, none⟩) hk).trans f5, (hb.frozen (p := ⟨k, 6, none⟩) hk).trans f6, (hb.frozen (p := ⟨k, 7, none⟩) hk).trans f7, (hb.frozen (p := ⟨k, 8, none⟩) hk).trans f8, (hb.frozen (p := ⟨k, 9, none⟩) hk).trans f9, (hb.frozen (p := ⟨k, 10, none⟩) hk).trans f10⟩
theorem BoxDW.setC {w : World} {k : Nat} {a b c m o d n f p q r : Int} (h : BoxDW w k a b c m o d n f p q r) (a' b' c' : Int) : BoxDW (((w.setCell ⟨k, 0, none⟩ (.int .i64 a')).setCell ⟨k, 1, none⟩ (.int .i64 b')).setCell ⟨k, 2, none⟩ (.int .i64 c')) k a' b' c' m o d n f p q r := by
  obtain ⟨⟨h0, h1, h2, h3, h4, h5, h6, h7, h8, h9, h10, hk⟩, f0, f1, f2, f3, f4, f5, f6, f7, f8, f9, f10⟩ := h
  refine ⟨⟨?_, ?_, ?_, ?_, ?_, ?_, ?_, ?_, ?_, ?_, ?_, ?_⟩, ?_, ?_, ?_, ?_, ?_, ?_, ?_, ?_, ?_, ?_, ?_⟩
  all_goals simp [go_sem, hk, h0, h1, h2, h3, h4, h5, h6, h7, h8, h9, h10, f0, f1, f2, f3, f4, f5, f6, f7, f8, f9, f10]
theorem BoxDW.setO {w : World} {k : Nat} {a b c m o d n f p q r : Int} (h : BoxDW w k a b c m o d n f p q r) (m' o' : Int) : BoxDW ((w.setCell ⟨k, 3, none⟩ (.int .i64 m')).setCell ⟨k, 4, none⟩ (.int .i64 o')) k a b c m' o' d n f p q r := by
  obtain ⟨⟨h0, h1, h2, h3, h4, h5, h6, h7, h8, h9, h10, hk⟩, f0, f1, f2, f3, f4, f5, f6, f7, f8, f9, f10⟩ := h
  refine ⟨⟨?_, ?_, ?_, ?_, ?_, ?_, ?_, ?_, ?_, ?_, ?_, ?_⟩, ?_, ?_, ?_, ?_, ?_, ?_, ?_, ?_, ?_, ?_, ?_⟩
  all_goals simp [go_sem, hk, h0, h1, h2, h3, h4, h5, h6, h7, h8, h9, h10, f0, f1, f2, f3, f4, f5, f6, f7, f8, f9, f10]
theorem BoxDW.setH {w : World} {k : Nat} {a b c m o d n f p q r : Int} (h : BoxDW w k a b c m o d n f p q r) (d' n' f' p' q' r' : Int) : BoxDW ((((((w.setCell ⟨k, 5, none⟩ (.int .i64 d')).setCell ⟨k, 6, none⟩ (.int .i64 n')).setCell ⟨k, 7, none⟩ (.int .i64 f')).setCell ⟨k, 8, none⟩ (.int .i64 p')).setCell ⟨k, 9, none⟩ (.int .i64 q')).setCell ⟨k, 10, none⟩ (.int .i64 r')) k a b c m o d' n' f' p' q' r' := by
  obtain ⟨⟨h0, h1, h2, h3, h4, h5, h6, h7, h8, h9, h10, hk⟩, f0, f1, f2, f3, f4, f5, f6, f7, f8, f9, f10⟩ := h
  refine ⟨⟨?_, ?_, ?_, ?_, ?_, ?_, ?_, ?_, ?_, ?_, ?_, ?_⟩, ?_, ?_, ?_, ?_, ?_, ?_, ?_, ?_, ?_, ?_, ?_⟩
  all_goals simp [go_sem, hk, h0, h1, h2, h3, h4, h5, h6, h7, h8, h9, h10, f0, f1, f2, f3, f4, f5, f6, f7, f8, f9, f10]
theorem BoxDW.setA {w : World} {k : Nat} {a b c m o d n f p q r : Int} (h : BoxDW w k a b c m o d n f p q r) (a' b' c' m' o' d' n' f' p' q' r' : Int) : BoxDW (((((((((((w.setCell ⟨k, 0, none⟩ (.int .i64 a')).setCell ⟨k, 1, none⟩ (.int .i64 b')).setCell ⟨k, 2, none⟩ (.int .i64 c')).setCell ⟨k, 3, none⟩ (.int .i64 m')).setCell ⟨k, 4, none⟩ (.int .i64 o')).setCell ⟨k, 5, none⟩ (.int .i64 d')).setCell ⟨k, 6, none⟩ (.int .i64 n')).setCell ⟨k, 7, none⟩ (.int .i64 f')).setCell ⟨k, 8, none⟩ (.int .i64 p')).setCell ⟨k, 9, none⟩ (.int .i64 q')).setCell ⟨k, 10, none⟩ (.int .i64 r')) k a' b' c' m' o' d' n' f' p' q' r' := by
  obtain ⟨⟨h0, h1, h2, h3, h4, h5, h6, h7, h8, h9, h10, hk⟩, f0, f1, f2, f3, f4, f5, f6, f7, f8, f9, f10⟩ := h
  refine ⟨⟨?_, ?_, ?_, ?_, ?_, ?_, ?_, ?_, ?_, ?_, ?_, ?_⟩, ?_, ?_, ?_, ?_, ?_, ?_, ?_, ?_, ?_, ?_, ?_⟩
  all_goals simp [go_sem, hk, h0, h1, h2, h3, h4, h5, h6, h7, h8, h9, h10, f0, f1, f2, f3, f4, f5, f6, f7, f8, f9, f10]
theorem BoxDW.othC {w : World} {g k : Nat} {a b c m o d n f p q r : Int} (h : BoxDW w g a b c m o d n f p q r) (hne : g ≠ k) (a' b' c' : Int) : BoxDW (((w.setCell ⟨k, 0, none⟩ (.int .i64 a')).setCell ⟨k, 1, none⟩ (.int .i64 b')).setCell ⟨k, 2, none⟩ (.int .i64 c')) g a b c m o d n f p q r := by
  obtain ⟨⟨h0, h1, h2, h3, h4, h5, h6, h7, h8, h9, h10, hk⟩, f0, f1, f2, f3, f4, f5, f6, f7, f8, f9, f10⟩ := h
  refine ⟨⟨?_, ?_, ?_, ?_, ?_, ?_, ?_, ?_, ?_, ?_, ?_, ?_⟩, ?_, ?_, ?_, ?_, ?_, ?_, ?_, ?_, ?_, ?_, ?_⟩
  all_goals simp [go_sem, hne, hk, h0, h1, h2, h3, h4, h5, h6, h7, h8, h9, h10, f0, f1, f2, f3, f4, f5, f6, f7, f8, f9, f10]
theorem BoxDW.othO {w : World} {g k : Nat} {a b c m o d n f p q r : Int} (h : BoxDW w g a b c m o d n f p q r) (hne : g ≠ k) (m' o' : Int) : BoxDW ((w.setCell ⟨k, 3, none⟩ (.int .i64 m')).setCell ⟨k, 4, none⟩ (.int .i64 o')) g a b c m o d n f p q r := by
  obtain ⟨⟨h0, h1, h2, h3, h4, h5, h6, h7, h8, h9, h10, hk⟩, f0, f1, f2, f3, f4, f5, f6, f7, f8, f9, f10⟩ := h
  refine ⟨⟨?_, ?_, ?_, ?_, ?_, ?_, ?_, ?_, ?_, ?_, ?_, ?_⟩, ?_, ?_, ?_, ?_, ?_, ?_, ?_, ?_, ?_, ?_, ?_⟩
  all_goals simp [go_sem, hne, hk, h0, h1, h2, h3, h4, h5, h6, h7, h8, h9, h10, f0, f1, f2, f3, f4, f5, f6, f7, f8, f9, f10]
theorem BoxDW.othH {w : World} {g k : Nat} {a b c m o d n f p q r : Int} (h : BoxDW w g a b c m o d n f p q r) (hne : g ≠ k) (d' n' f' p' q' r' : Int) : BoxDW ((((((w.setCell ⟨k, 5, none⟩ (.int .i64 d')).setCell ⟨k, 6, none⟩ (.int .i64 n')).setCell ⟨k, 7, none⟩ (.int .i64 f')).setCell ⟨k, 8, none⟩ (.int .i64 p')).setCell ⟨k, 9, none⟩ (.int .i64 q')).setCell ⟨k, 10, none⟩ (.int .i64 r')) g a b c m o d n f p q r := by
  obtain ⟨⟨h0, h1, h2, h3, h4, h5, h6, h7, h8, h9, h10, hk⟩, f0, f1, f2, f3, f4, f5, f6, f7, f8, f9, f10⟩ := h
  refine ⟨⟨?_, ?_, ?_, ?_, ?_, ?_, ?_, ?_, ?_, ?_, ?_, ?_⟩, ?_, ?_, ?_, ?_, ?_, ?_, ?_, ?_, ?_, ?_, ?_⟩
  all_goals simp [go_sem, hne, hk, h0, h1, h2, h3, h4, h5, h6, h7, h8, h9, h10, f0, f1, f2, f3, f4, f5, f6, f7, f8, f9, f10]
theorem BoxD.othC {w : World} {g k : Nat} {a b c m o d n f p q r : Int} (h : BoxD w g a b c m o d n f p q r) (hne : g ≠ k) (a' b' c' : Int) : BoxD (((w.setCell ⟨k, 0, none⟩ (.int .i64 a')).setCell ⟨k, 1, none⟩ (.int .i64 b')).setCell ⟨k, 2, none⟩ (.int .i64 c')) g a b c m o d n f p q r := by
  obtain ⟨h0, h1, h2, h3, h4, h5, h6, h7, h8, h9, h10, hk⟩ := h
  refine ⟨?_, ?_, ?_, ?_, ?_, ?_, ?_, ?_, ?_, ?_, ?_, ?_⟩
  all_goals simp [go_sem, hne, hk, h0, h1, h2, h3, h4, h5, h6, h7, h8, h9, h10]
theorem BoxD.othO {w : World} {g k : Nat} {a b c m o d n f p q r : Int} (h : BoxD w g a b c m o d n f p q r) (hne : g ≠ k) (m' o' : Int) : BoxD ((w.setCell ⟨k, 3, none⟩ (.int .i64 m')).setCell ⟨k, 4, none⟩ (.int .i64 o')) g a b c m o d n f p q r := by
  obtain ⟨h0, h1, h2, h3, h4, h5, h6, h7, h8, h9, h10, hk⟩ := h
  refine ⟨?_, ?_, ?_, ?_, ?_, ?_, ?_, ?_, ?_, ?_, ?_, ?_⟩
  all_goals simp [go_sem, hne, hk, h0, h1, h2, h3, h4, h5, h6, h7, h8, h9, h10]
theorem BoxD.othH {w : World} {g k : Nat} {a b c m o d n f p q r : Int} (h : BoxD w g a b c m o d n f p q r) (hne : g ≠ k) (d' n' f' p' q' r' : Int) : BoxD ((((((w.setCell ⟨k, 5, none⟩ (.int .i64 d')).setCell ⟨k, 6, none⟩ (.int .i64 n')).setCell ⟨k, 7, none⟩ (.int .i64 f')).setCell ⟨k, 8, none⟩ (.int .i64 p')).setCell ⟨k, 9, none⟩ (.int .i64 q')).setCell ⟨k, 10, none⟩ (.int .i64 r')) g a b c m o d n f p q r := by
  obtain ⟨h0, h1, h2, h3, h4, h5, h6, h7, h8, h9, h10, hk⟩ := h
  refine ⟨?_, ?_, ?_, ?_, ?_, ?_, ?_, ?_, ?_, ?_, ?_, ?_⟩
  all_goals simp [go_sem, hne, hk, h0, h1, h2, h3, h4, h5, h6, h7, h8, h9, h10]
theorem belC {w W : World} {k : Nat} (h : Below w.heap.size w W) (hk : w.heap.size ≤ k) (x0 x1 x2 : Value) : Below w.heap.size w (((W.setCell ⟨k, 0, none⟩ x0).setCell ⟨k, 1, none⟩ x1).setCell ⟨k, 2, none⟩ x2) := (((h.setCell (p := ⟨k, 0, none⟩) hk x0).setCell (p := ⟨k, 1, none⟩) hk x1).setCell (p := ⟨k, 2, none⟩) hk x2)
theorem belO {w W : World} {k : Nat} (h : Below w.heap.size w W) (hk : w.heap.size ≤ k) (x0 x1 : Value) : Below w.heap.size w ((W.setCell ⟨k, 3, none⟩ x0).setCell ⟨k, 4, none⟩ x1) := ((h.setCell (p := ⟨k, 3, none⟩) hk x0).setCell (p := ⟨k, 4, none⟩) hk x1)
theorem belH {w W : World} {k : Nat} (h : Below w.heap.size w W) (hk : w.heap.size ≤ k) (x0 x1 x2 x3 x4 x5 : Value) : Below w.heap.size w ((((((W.setCell ⟨k, 5, none⟩ x0).setCell ⟨k, 6, none⟩ x1).setCell ⟨k, 7, none⟩ x2).setCell ⟨k, 8, none⟩ x3).setCell ⟨k, 9, none⟩ x4).setCell ⟨k, 10, none⟩ x5) := ((((((h.setCell (p := ⟨k, 5, none⟩) hk x0).setCell (p := ⟨k, 6, none⟩) hk x1).setCell (p := ⟨k, 7, none⟩) hk x2).setCell (p := ⟨k, 8, none⟩) hk x3).setCell (p := ⟨k, 9, none⟩) hk x4).setCell (p := ⟨k, 10, none⟩) hk x5)
theorem belA {w W : World} {k : Nat} (h : Below w.heap.size w W) (hk : w.heap.size ≤ k) (x0 x1 x2 x3 x4 x5 x6 x7 x8 x9 x10 : Value) : Below w.heap.size w (((((((((((W.setCell ⟨k, 0, none⟩ x0).setCell ⟨k, 1, none⟩ x1).setCell ⟨k, 2, none⟩ x2).setCell ⟨k, 3, none⟩ x3).setCell ⟨k, 4, none⟩ x4).setCell ⟨k, 5, none⟩ x5).setCell ⟨k, 6, none⟩ x6).setCell ⟨k, 7, none⟩ x7).setCell ⟨k, 8, none⟩ x8).setCell ⟨k, 9, none⟩ x9).setCell ⟨k, 10, none⟩ x10) := (((((((((((h.setCell (p := ⟨k, 0, none⟩) hk x0).setCell (p := ⟨k, 1, none⟩) hk x1).setCell (p := ⟨k, 2, none⟩) hk x2).setCell (p := ⟨k, 3, none⟩) hk x3).setCell (p := ⟨k, 4, none⟩) hk x4).setCell (p := ⟨k, 5, none⟩) hk x5).setCell (p := ⟨k, 6, none⟩) hk x6).setCell (p := ⟨k, 7, none⟩) hk x7).setCell (p := ⟨k, 8, none⟩) hk x8).setCell (p := ⟨k, 9, none⟩) hk x9).setCell (p := ⟨k, 10, none⟩) hk x10)

set_option maxHeartbeats 1600000 in
theorem toHidden_any (a b c p q r : Int) (w : World) :
    Calls Try.prog 28 #[hdn a b c p q r] w fun e w' => e = .returned (hdn a b c p q r) ∧ Below w.heap.size w w' := by
  have z1 : w.heap.size + 1 = (w.alloc (.cells #[.int .i64 a, .int .i64 b, .int .i64 c, .int .i64 p, .int .i64 q, .int .i64 r] 36)).heap.size := size1 _ _
  have ba1 := Box6.new w a b c p q r 36
  have bl1 := bel_alloc (Below.refl _ w) (.cells #[.int .i64 a, .int .i64 b, .int .i64 c, .int .i64 p, .int .i64 q, .int .i64 r] 36)
  generalize hW1 : w.alloc (.cells #[.int .i64 a, .int .i64 b, .int .i64 c, .int .i64 p, .int .i64 q, .int .i64 r] 36) = W1 at *
  have br2 := Box6W.new W1 0 0 0 0 0 0 27
  have ba2 := ba1.keep (bel_alloc (Below.refl _ W1) (.cells #[.int .i64 0, .int .i64 0, .int .i64 0, .int .i64 0, .int .i64 0, .int .i64 0] 27))
  have bl2 := bel_alloc bl1 (.cells #[.int .i64 0, .int .i64 0, .int .i64 0, .int .i64 0, .int .i64 0, .int .i64 0] 27)
  have z2 : W1.heap.size + 1 = (W1.alloc (.cells #[.int .i64 0, .int .i64 0, .int .i64 0, .int .i64 0, .int .i64 0, .int .i64 0] 27)).heap.size := size1 _ _
  generalize hW2 : W1.alloc (.cells #[.int .i64 0, .int .i64 0, .int .i64 0, .int .i64 0, .int .i64 0, .int .i64 0] 27) = W2 at *
  have bo3 := Box6W.new W2 0 0 0 0 0 0 27
  have br3 := br2.keep (bel_alloc (Below.refl _ W2) (.cells #[.int .i64 0, .int .i64 0, .int .i64 0, .int .i64 0, .int .i64 0, .int .i64 0] 27))
  have ba3 := ba2.keep (bel_alloc (Below.refl _ W2) (.cells #[.int .i64 0, .int .i64 0, .int .i64 0, .int .i64 0, .int .i64 0, .int .i64 0] 27))
  have bl3 := bel_alloc bl2 (.cells #[.int .i64 0, .int .i64 0, .int .i64 0, .int .i64 0, .int .i64 0, .int .i64 0] 27)
  rw [← z2, ← z1] at bo3
  rw [← z1] at br3
  rw [← hW2, ← hW1] at bo3 br3 ba3 bl3
  have Ba := Lib.hid ba3
  have Br := Lib.hid br3
  have Bo := Lib.hid bo3
  have Bl := Lib.hid bl3
  clear ba3 br3 bo3 bl3 hW2 hW1 z1 z2 ba1 bl1 br2 ba2 bl2
  clear W1 W2
  go_enter Try.func28, Try.ntmps28
  go_wp2_with fail
  refine (toChain_any _ _ _ _).mono ?_
  rintro e w1 ⟨rfl, hb1⟩
  have Ba1 := Lib.hid (Ba.out.keep hb1)
  have Br1 := Lib.hid (Br.out.keep hb1)
  have Bo1 := Lib.hid (Bo.out.keep hb1)
  have Bl1 := Lib.hid (bel_trans Bl.out hb1)
  clear hb1 Ba Br Bo Bl
  obtain ⟨a0, a1, a2, a3, a4, a5, a6⟩ := Ba1.out
  obtain ⟨⟨r0, r1, r2, r3, r4, r5, r6⟩, r7, r8, r9, r10, r11, r12⟩ := Br1.out
  obtain ⟨⟨o0, o1, o2, o3, o4, o5, o6⟩, o7, o8, o9, o10, o11, o12⟩ := Bo1.out
  go_wp2_with fail
  have Br2 := Lib.hid (b6_other (k := w.heap.size + 1 + 1) Br1.out (by omega) (.int .i64 a) (.int .i64 b) (.int .i64 c) (.int .i64 p) (.int .i64 q) (.int .i64 r))
  have Bl2 := Lib.hid (bel_set6 (k := w.heap.size + 1 + 1) Bl1.out (by omega) (.int .i64 a) (.int .i64 b) (.int .i64 c) (.int .i64 p) (.int .i64 q) (.int .i64 r))
  have Br3 := Lib.hid (Br2.out.set a b c p q r)
  obtain ⟨⟨n0, n1, n2, n3, n4, n5, n6⟩, _⟩ := Br3.out
  refine bodyPost_ret (v := hdn a b c p q r) (by simp [results, Try.results28, go_sem, n0, n1, n2, n3, n4, n5]) rfl ⟨rfl, ?_⟩
  exact bel_set6 Bl2.out (by omega) (.int .i64 a) (.int .i64 b) (.int .i64 c) (.int .i64 p) (.int .i64 q) (.int .i64 r)

set_option maxRecDepth 100000 in
set_option maxHeartbeats 6400000 in
theorem toDesk_any (a b c m o d n f p q r : Int) (w : World) :
    Calls Try.prog 10 #[dsk a b c m o d n f p q r] w fun e w' => e = .returned (dsk a b c m o d n f p q r) ∧ Below w.heap.size w w' := by
  have z1 : w.heap.size + 1 = (w.alloc (.cells #[.int .i64 a, .int .i64 b, .int .i64 c, .int .i64 m, .int .i64 o, .int .i64 d, .int .i64 n, .int .i64 f, .int .i64 p, .int .i64 q, .int .i64 r] 38)).heap.size := size1 _ _
  have ba1 := BoxD.new w a b c m o d n f p q r 38
  have bl1 := bel_alloc (Below.refl _ w) (.cells #[.int .i64 a, .int .i64 b, .int .i64 c, .int .i64 m, .int .i64 o, .int .i64 d, .int .i64 n, .int .i64 f, .int .i64 p, .int .i64 q, .int .i64 r] 38)
  generalize hW1 : (w.alloc (.cells #[.int .i64 a, .int .i64 b, .int .i64 c, .int .i64 m, .int .i64 o, .int .i64 d, .int .i64 n, .int .i64 f, .int .i64 p, .int .i64 q, .int .i64 r] 38)) = W1 at *
  have br2 := BoxDW.new W1 0 0 0 0 0 0 0 0 0 0 0 29
  have ba2 := ba1.keep (bel_alloc (Below.refl _ W1) (.cells #[.int .i64 0, .int .i64 0, .int .i64 0, .int .i64 0, .int .i64 0, .int .i64 0, .int .i64 0, .int .i64 0, .int .i64 0, .int .i64 0, .int .i64 0] 29))
  have bl2 := bel_alloc bl1 (.cells #[.int .i64 0, .int .i64 0, .int .i64 0, .int .i64 0, .int .i64 0, .int .i64 0, .int .i64 0, .int .i64 0, .int .i64 0, .int .i64 0, .int .i64 0] 29)
  have z2 : W1.heap.size + 1 = (W1.alloc (.cells #[.int .i64 0, .int .i64 0, .int .i64 0, .int .i64 0, .int .i64 0, .int .i64 0, .int .i64 0, .int .i64 0, .int .i64 0, .int .i64 0, .int .i64 0] 29)).heap.size := size1 _ _
  generalize hW2 : W1.alloc (.cells #[.int .i64 0, .int .i64 0, .int .i64 0, .int .i64 0, .int .i64 0, .int .i64 0, .int .i64 0, .int .i64 0, .int .i64 0, .int .i64 0, .int .i64 0] 29) = W2 at *
  have bo3 := BoxDW.new W2 0 0 0 0 0 0 0 0 0 0 0 29
  have br3 := br2.keep (bel_alloc (Below.refl _ W2) (.cells #[.int .i64 0, .int .i64 0, .int .i64 0, .int .i64 0, .int .i64 0, .int .i64 0, .int .i64 0, .int .i64 0, .int .i64 0, .int .i64 0, .int .i64 0] 29))
  have ba3 := ba2.keep (bel_alloc (Below.refl _ W2) (.cells #[.int .i64 0, .int .i64 0, .int .i64 0, .int .i64 0, .int .i64 0, .int .i64 0, .int .i64 0, .int .i64 0, .int .i64 0, .int .i64 0, .int .i64 0] 29))
  have bl3 := bel_alloc bl2 (.cells #[.int .i64 0, .int .i64 0, .int .i64 0, .int .i64 0, .int .i64 0, .int .i64 0, .int .i64 0, .int .i64 0, .int .i64 0, .int .i64 0, .int .i64 0] 29)
  rw [← z2, ← z1] at bo3
  rw [← z1] at br3
  rw [← hW2, ← hW1] at bo3 br3 ba3 bl3
  have Ba0 := Lib.hid ba3
  have Br0 := Lib.hid br3
  have Bo0 := Lib.hid bo3
  have Bl0 := Lib.hid bl3
  clear ba3 br3 bo3 bl3 hW2 hW1 z1 z2 ba1 bl1 br2 ba2 bl2
  clear W1 W2
  obtain ⟨a0, a1, a2, a3, a4, a5, a6, a7, a8, a9, a10, a11⟩ := Ba0.out
  go_enter Try.func10, Try.ntmps10
  go_wp2_with fail
  refine (toChain_any _ _ _ _).mono ?_
  rintro e w1 ⟨rfl, hb⟩
  have Ba1k := Lib.hid (Ba0.out.keep hb)
  have Br1k := Lib.hid (Br0.out.keep hb)
  have Bo1k := Lib.hid (Bo0.out.keep hb)
  have Bl1k := Lib.hid (bel_trans Bl0.out hb)
  clear hb
  clear a0 a1 a2 a3 a4 a5 a6 a7 a8 a9 a10 a11
  have Bo1 := Lib.hid (Bo1k.out.setC a b c)
  have Br1 := Lib.hid (Br1k.out.othC (k := w.heap.size + 1 + 1) (by omega) a b c)
  have Ba1 := Lib.hid (Ba1k.out.othC (k := w.heap.size + 1 + 1) (by omega) a b c)
  have Bl1 := Lib.hid (belC (k := w.heap.size + 1 + 1) Bl1k.out (by omega) (.int .i64 a) (.int .i64 b) (.int .i64 c))
  obtain ⟨⟨k0, k1, k2, k3, k4, k5, k6, k7, k8, k9, k10, k11⟩, kf0, kf1, kf2, kf3, kf4, kf5, kf6, kf7, kf8, kf9, kf10⟩ := Bo1k.out
  obtain ⟨a0, a1, a2, a3, a4, a5, a6, a7, a8, a9, a10, a11⟩ := Ba1.out
  obtain ⟨⟨r0, r1, r2, r3, r4, r5, r6, r7, r8, r9, r10, r11⟩, rf0, rf1, rf2, rf3, rf4, rf5, rf6, rf7, rf8, rf9, rf10⟩ := Br1.out
  obtain ⟨⟨o0, o1, o2, o3, o4, o5, o6, o7, o8, o9, o10, o11⟩, of0, of1, of2, of3, of4, of5, of6, of7, of8, of9, of10⟩ := Bo1.out
  go_wp2_with fail
  refine (toCoin_any _ _ _).mono ?_
  rintro e w2 ⟨rfl, hb⟩
  have Ba2k := Lib.hid (Ba1.out.keep hb)
  have Br2k := Lib.hid (Br1.out.keep hb)
  have Bo2k := Lib.hid (Bo1.out.keep hb)
  have Bl2k := Lib.hid (bel_trans Bl1.out hb)
  clear hb
  clear a0 a1 a2 a3 a4 a5 a6 a7 a8 a9 a10 a11
  clear r0 r1 r2 r3 r4 r5 r6 r7 r8 r9 r10 r11 rf0 rf1 rf2 rf3 rf4 rf5 rf6 rf7 rf8 rf9 rf10 o0 o1 o2 o3 o4 o5 o6 o7 o8 o9 o10 o11 of0 of1 of2 of3 of4 of5 of6 of7 of8 of9 of10
  have Bo2 := Lib.hid (Bo2k.out.setO m o)
  have Br2 := Lib.hid (Br2k.out.othO (k := w.heap.size + 1 + 1) (by omega) m o)
  have Ba2 := Lib.hid (Ba2k.out.othO (k := w.heap.size + 1 + 1) (by omega) m o)
  have Bl2 := Lib.hid (belO (k := w.heap.size + 1 + 1) Bl2k.out (by omega) (.int .i64 m) (.int .i64 o))
  obtain ⟨⟨k0, k1, k2, k3, k4, k5, k6, k7, k8, k9, k10, k11⟩, kf0, kf1, kf2, kf3, kf4, kf5, kf6, kf7, kf8, kf9, kf10⟩ := Bo2k.out
  obtain ⟨a0, a1, a2, a3, a4, a5, a6, a7, a8, a9, a10, a11⟩ := Ba2.out
  obtain ⟨⟨r0, r1, r2, r3, r4, r5, r6, r7, r8, r9, r10, r11⟩, rf0, rf1, rf2, rf3, rf4, rf5, rf6, rf7, rf8, rf9, rf10⟩ := Br2.out
  obtain ⟨⟨o0, o1, o2, o3, o4, o5, o6, o7, o8, o9, o10, o11⟩, of0, of1, of2, of3, of4, of5, of6, of7, of8, of9, of10⟩ := Bo2.out
  go_wp2_with fail
  refine (toHidden_any _ _ _ _ _ _ _).mono ?_
  rintro e w3 ⟨rfl, hb⟩
  have Ba3k := Lib.hid (Ba2.out.keep hb)
  have Br3k := Lib.hid (Br2.out.keep hb)
  have Bo3k := Lib.hid (Bo2.out.keep hb)
  have Bl3k := Lib.hid (bel_trans Bl2.out hb)
  clear hb
  clear a0 a1 a2 a3 a4 a5 a6 a7 a8 a9 a10 a11
  clear r0 r1 r2 r3 r4 r5 r6 r7 r8 r9 r10 r11 rf0 rf1 rf2 rf3 rf4 rf5 rf6 rf7 rf8 rf9 rf10 o0 o1 o2 o3 o4 o5 o6 o7 o8 o9 o10 o11 of0 of1 of2 of3 of4 of5 of6 of7 of8 of9 of10
  have Bo3 := Lib.hid (Bo3k.out.setH d n f p q r)
  have Br3 := Lib.hid (Br3k.out.othH (k := w.heap.size + 1 + 1) (by omega) d n f p q r)
  have Ba3 := Lib.hid (Ba3k.out.othH (k := w.heap.size + 1 + 1) (by omega) d n f p q r)
  have Bl3 := Lib.hid (belH (k := w.heap.size + 1 + 1) Bl3k.out (by omega) (.int .i64 d) (.int .i64 n) (.int .i64 f) (.int .i64 p) (.int .i64 q) (.int .i64 r))
  obtain ⟨⟨k0, k1, k2, k3, k4, k5, k6, k7, k8, k9, k10, k11⟩, kf0, kf1, kf2, kf3, kf4, kf5, kf6, kf7, kf8, kf9, kf10⟩ := Bo3k.out
  obtain ⟨a0, a1, a2, a3, a4, a5, a6, a7, a8, a9, a10, a11⟩ := Ba3.out
  obtain ⟨⟨r0, r1, r2, r3, r4, r5, r6, r7, r8, r9, r10, r11⟩, rf0, rf1, rf2, rf3, rf4, rf5, rf6, rf7, rf8, rf9, rf10⟩ := Br3.out
  obtain ⟨⟨o0, o1, o2, o3, o4, o5, o6, o7, o8, o9, o10, o11⟩, of0, of1, of2, of3, of4, of5, of6, of7, of8, of9, of10⟩ := Bo3.out
  go_wp2_with fail
  have Bn := Lib.hid (Br3.out.setA a b c m o d n f p q r)
  obtain ⟨⟨n0, n1, n2, n3, n4, n5, n6, n7, n8, n9, n10, n11⟩, _⟩ := Bn.out
  refine bodyPost_ret (v := dsk a b c m o d n f p q r) (by simp [results, Try.results10, go_sem, n0, n1, n2, n3, n4, n5, n6, n7, n8, n9, n10]) rfl ⟨rfl, ?_⟩
  exact belA (k := w.heap.size + 1) Bl3.out (by omega) _ _ _ _ _ _ _ _ _ _ _

theorem eqChD_same (a b c : Int) (w : World) :
    Calls Try.prog 22 #[chn a b c, chn a b c] w fun e w' => e = .returned (.bool true) ∧ Below w.heap.size w w' := by
  go_enter Try.func22, Try.ntmps22
  go_wp2
  go_ret
  refine ⟨rfl, ?_⟩
  repeat (first | assumption | with_reducible exact Below.refl _ _ | refine bel_alloc ?_ _ | refine bel_drewN ?_ _ | refine Below.drew ?_ | (refine Below.setCell ?_ (by simp) _) | (refine bel_trans ?_ (by assumption)))
theorem eqCoD_same (x y : Int) (w : World) :
    Calls Try.prog 23 #[cn x y, cn x y] w fun e w' => e = .returned (.bool true) ∧ Below w.heap.size w w' := by
  go_enter Try.func23, Try.ntmps23
  go_wp2
  go_ret
  refine ⟨rfl, ?_⟩
  repeat (first | assumption | with_reducible exact Below.refl _ _ | refine bel_alloc ?_ _ | refine bel_drewN ?_ _ | refine Below.drew ?_ | (refine Below.setCell ?_ (by simp) _) | (refine bel_trans ?_ (by assumption)))
set_option maxRecDepth 100000 in
set_option maxHeartbeats 3200000 in
theorem eqHdD_same (a b c p q r : Int) (w : World) :
    Calls Try.prog 24 #[hdn a b c p q r, hdn a b c p q r] w fun e w' => e = .returned (.bool true) ∧ Below w.heap.size w w' := by
  have bx := Lib.hid ((Box6.new w a b c p q r 27).keep (bel_alloc (Below.refl _ _) (.cells #[.int .i64 a, .int .i64 b, .int .i64 c, .int .i64 p, .int .i64 q, .int .i64 r] 27)))
  have by1 := Box6.new (w.alloc (.cells #[.int .i64 a, .int .i64 b, .int .i64 c, .int .i64 p, .int .i64 q, .int .i64 r] 27)) a b c p q r 27
  rw [← size1] at by1
  have By := Lib.hid by1
  have Bl := Lib.hid (bel_alloc (bel_alloc (Below.refl _ w) (.cells #[.int .i64 a, .int .i64 b, .int .i64 c, .int .i64 p, .int .i64 q, .int .i64 r] 27)) (.cells #[.int .i64 a, .int .i64 b, .int .i64 c, .int .i64 p, .int .i64 q, .int .i64 r] 27))
  clear by1
  go_enter Try.func24, Try.ntmps24
  go_wp2_with fail
  refine (eqChD_same _ _ _ _).mono ?_
  rintro e w1 ⟨rfl, hb1⟩
  obtain ⟨a0, a1, a2, a3, a4, a5, a6⟩ := bx.out.keep hb1
  obtain ⟨r0, r1, r2, r3, r4, r5, r6⟩ := By.out.keep hb1
  have Bl1 := Lib.hid (bel_trans Bl.out hb1)
  go_wp2_with fail
  go_ret
  exact ⟨rfl, Bl1.out⟩

set_option maxRecDepth 100000 in
set_option maxHeartbeats 3200000 in
theorem eqDesk_same (a b c m o d n f p q r : Int) (w : World) :
    Calls Try.prog 8 #[dsk a b c m o d n f p q r, dsk a b c m o d n f p q r] w fun e w' => e = .returned (.bool true) ∧ Below w.heap.size w w' := by
  have bx0 := Lib.hid ((BoxD.new w a b c m o d n f p q r 29).keep (bel_alloc (Below.refl _ _) (.cells #[.int .i64 a, .int .i64 b, .int .i64 c, .int .i64 m, .int .i64 o, .int .i64 d, .int .i64 n, .int .i64 f, .int .i64 p, .int .i64 q, .int .i64 r] 29)))
  have by1 := BoxD.new (w.alloc (.cells #[.int .i64 a, .int .i64 b, .int .i64 c, .int .i64 m, .int .i64 o, .int .i64 d, .int .i64 n, .int .i64 f, .int .i64 p, .int .i64 q, .int .i64 r] 29)) a b c m o d n f p q r 29
  rw [← size1] at by1
  have by0 := Lib.hid by1
  have bl0 := Lib.hid (bel_alloc (bel_alloc (Below.refl _ w) (.cells #[.int .i64 a, .int .i64 b, .int .i64 c, .int .i64 m, .int .i64 o, .int .i64 d, .int .i64 n, .int .i64 f, .int .i64 p, .int .i64 q, .int .i64 r] 29)) (.cells #[.int .i64 a, .int .i64 b, .int .i64 c, .int .i64 m, .int .i64 o, .int .i64 d, .int .i64 n, .int .i64 f, .int .i64 p, .int .i64 q, .int .i64 r] 29))
  clear by1
  obtain ⟨a0, a1, a2, a3, a4, a5, a6, a7, a8, a9, a10, a11⟩ := bx0.out
  obtain ⟨r0, r1, r2, r3, r4, r5, r6, r7, r8, r9, r10, r11⟩ := by0.out
  go_enter Try.func8, Try.ntmps8
  go_wp2_with fail
  refine (eqChD_same _ _ _ _).mono ?_
  rintro e w1 ⟨rfl, hb⟩
  have bx1 := Lib.hid (bx0.out.keep hb)
  have by1 := Lib.hid (by0.out.keep hb)
  have bl1 := Lib.hid (bel_trans bl0.out hb)
  clear hb a0 a1 a2 a3 a4 a5 a6 a7 a8 a9 a10 a11 r0 r1 r2 r3 r4 r5 r6 r7 r8 r9 r10 r11
  obtain ⟨a0, a1, a2, a3, a4, a5, a6, a7, a8, a9, a10, a11⟩ := bx1.out
  obtain ⟨r0, r1, r2, r3, r4, r5, r6, r7, r8, r9, r10, r11⟩ := by1.out
  go_wp2_with fail
  refine (eqCoD_same _ _ _).mono ?_
  rintro e w2 ⟨rfl, hb⟩
  have bx2 := Lib.hid (bx1.out.keep hb)
  have by2 := Lib.hid (by1.out.keep hb)
  have bl2 := Lib.hid (bel_trans bl1.out hb)
  clear hb a0 a1 a2 a3 a4 a5 a6 a7 a8 a9 a10 a11 r0 r1 r2 r3 r4 r5 r6 r7 r8 r9 r10 r11
  obtain ⟨a0, a1, a2, a3, a4, a5, a6, a7, a8, a9, a10, a11⟩ := bx2.out
  obtain ⟨r0, r1, r2, r3, r4, r5, r6, r7, r8, r9, r10, r11⟩ := by2.out
  go_wp2_with fail
  refine (eqHdD_same _ _ _ _ _ _ _).mono ?_
  rintro e w3 ⟨rfl, hb⟩
  have bx3 := Lib.hid (bx2.out.keep hb)
  have by3 := Lib.hid (by2.out.keep hb)
  have bl3 := Lib.hid (bel_trans bl2.out hb)
  clear hb a0 a1 a2 a3 a4 a5 a6 a7 a8 a9 a10 a11 r0 r1 r2 r3 r4 r5 r6 r7 r8 r9 r10 r11
  obtain ⟨a0, a1, a2, a3, a4, a5, a6, a7, a8, a9, a10, a11⟩ := bx3.out
  obtain ⟨r0, r1, r2, r3, r4, r5, r6, r7, r8, r9, r10, r11⟩ := by3.out
  go_wp2_with fail
  go_ret
  exact ⟨rfl, bl3.out⟩

def goodD (a b c m o d n f p q r : Int) : Bool := good a b c && (coinG m o && goodH d n f p q r)
set_option maxRecDepth 100000 in
set_option maxHeartbeats 3200000 in
theorem implIsDesk_any (a b c m o d n f p q r : Int) (w : World) :
    Calls Try.prog 11 #[dsk a b c m o d n f p q r] w fun e w' => e = .returned (.bool (goodD a b c m o d n f p q r)) ∧ Below w.heap.size w w' := by
  have bx0 := Lib.hid (BoxD.new w a b c m o d n f p q r 29)
  have bl0 := Lib.hid (bel_alloc (Below.refl _ w) (.cells #[.int .i64 a, .int .i64 b, .int .i64 c, .int .i64 m, .int .i64 o, .int .i64 d, .int .i64 n, .int .i64 f, .int .i64 p, .int .i64 q, .int .i64 r] 29))
  cases g1 : good a b c
  · skip
    obtain ⟨a0, a1, a2, a3, a4, a5, a6, a7, a8, a9, a10, a11⟩ := bx0.out
    go_enter Try.func11, Try.ntmps11
    go_wp2_with fail
    refine (implIsChain_any _ _ _ _).mono ?_
    rw [g1]
    rintro e w1 ⟨rfl, hb⟩
    have bx1 := Lib.hid (bx0.out.keep hb)
    have bl1 := Lib.hid (bel_trans bl0.out hb)
    clear hb a0 a1 a2 a3 a4 a5 a6 a7 a8 a9 a10 a11
    obtain ⟨a0, a1, a2, a3, a4, a5, a6, a7, a8, a9, a10, a11⟩ := bx1.out
    go_wp2_with fail
    go_ret
    exact ⟨by unfold goodD; simp [g1], bl1.out⟩
  · cases g2 : coinG m o
    · skip
      obtain ⟨a0, a1, a2, a3, a4, a5, a6, a7, a8, a9, a10, a11⟩ := bx0.out
      go_enter Try.func11, Try.ntmps11
      go_wp2_with fail
      refine (implIsChain_any _ _ _ _).mono ?_
      rw [g1]
      rintro e w1 ⟨rfl, hb⟩
      have bx1 := Lib.hid (bx0.out.keep hb)
      have bl1 := Lib.hid (bel_trans bl0.out hb)
      clear hb a0 a1 a2 a3 a4 a5 a6 a7 a8 a9 a10 a11
      obtain ⟨a0, a1, a2, a3, a4, a5, a6, a7, a8, a9, a10, a11⟩ := bx1.out
      go_wp2_with fail
      refine (implIsCoin_any _ _ _).mono ?_
      rw [g2]
      rintro e w2 ⟨rfl, hb⟩
      have bx2 := Lib.hid (bx1.out.keep hb)
      have bl2 := Lib.hid (bel_trans bl1.out hb)
      clear hb a0 a1 a2 a3 a4 a5 a6 a7 a8 a9 a10 a11
      obtain ⟨a0, a1, a2, a3, a4, a5, a6, a7, a8, a9, a10, a11⟩ := bx2.out
      go_wp2_with fail
      go_ret
      exact ⟨by unfold goodD; simp [g1, g2], bl2.out⟩
    · cases g3 : goodH d n f p q r
      · skip
        obtain ⟨a0, a1, a2, a3, a4, a5, a6, a7, a8, a9, a10, a11⟩ := bx0.out
        go_enter Try.func11, Try.ntmps11
        go_wp2_with fail
        refine (implIsChain_any _ _ _ _).mono ?_
        rw [g1]
        rintro e w1 ⟨rfl, hb⟩
        have bx1 := Lib.hid (bx0.out.keep hb)
        have bl1 := Lib.hid (bel_trans bl0.out hb)
        clear hb a0 a1 a2 a3 a4 a5 a6 a7 a8 a9 a10 a11
        obtain ⟨a0, a1, a2, a3, a4, a5, a6, a7, a8, a9, a10, a11⟩ := bx1.out
        go_wp2_with fail
        refine (implIsCoin_any _ _ _).mono ?_
        rw [g2]
        rintro e w2 ⟨rfl, hb⟩
        have bx2 := Lib.hid (bx1.out.keep hb)
        have bl2 := Lib.hid (bel_trans bl1.out hb)
        clear hb a0 a1 a2 a3 a4 a5 a6 a7 a8 a9 a10 a11
        obtain ⟨a0, a1, a2, a3, a4, a5, a6, a7, a8, a9, a10, a11⟩ := bx2.out
        go_wp2_with fail
        refine (implIsHidden_any _ _ _ _ _ _ _).mono ?_
        rw [g3]
        rintro e w3 ⟨rfl, hb⟩
        have bx3 := Lib.hid (bx2.out.keep hb)
        have bl3 := Lib.hid (bel_trans bl2.out hb)
        clear hb a0 a1 a2 a3 a4 a5 a6 a7 a8 a9 a10 a11
        obtain ⟨a0, a1, a2, a3, a4, a5, a6, a7, a8, a9, a10, a11⟩ := bx3.out
        go_wp2_with fail
        go_ret
        exact ⟨by unfold goodD; simp [g1, g2, g3], bl3.out⟩
      · skip
        obtain ⟨a0, a1, a2, a3, a4, a5, a6, a7, a8, a9, a10, a11⟩ := bx0.out
        go_enter Try.func11, Try.ntmps11
        go_wp2_with fail
        refine (implIsChain_any _ _ _ _).mono ?_
        rw [g1]
        rintro e w1 ⟨rfl, hb⟩
        have bx1 := Lib.hid (bx0.out.keep hb)
        have bl1 := Lib.hid (bel_trans bl0.out hb)
        clear hb a0 a1 a2 a3 a4 a5 a6 a7 a8 a9 a10 a11
        obtain ⟨a0, a1, a2, a3, a4, a5, a6, a7, a8, a9, a10, a11⟩ := bx1.out
        go_wp2_with fail
        refine (implIsCoin_any _ _ _).mono ?_
        rw [g2]
        rintro e w2 ⟨rfl, hb⟩
        have bx2 := Lib.hid (bx1.out.keep hb)
        have bl2 := Lib.hid (bel_trans bl1.out hb)
        clear hb a0 a1 a2 a3 a4 a5 a6 a7 a8 a9 a10 a11
        obtain ⟨a0, a1, a2, a3, a4, a5, a6, a7, a8, a9, a10, a11⟩ := bx2.out
        go_wp2_with fail
        refine (implIsHidden_any _ _ _ _ _ _ _).mono ?_
        rw [g3]
        rintro e w3 ⟨rfl, hb⟩
        have bx3 := Lib.hid (bx2.out.keep hb)
        have bl3 := Lib.hid (bel_trans bl2.out hb)
        clear hb a0 a1 a2 a3 a4 a5 a6 a7 a8 a9 a10 a11
        obtain ⟨a0, a1, a2, a3, a4, a5, a6, a7, a8, a9, a10, a11⟩ := bx3.out
        go_wp2_with fail
        go_ret
        exact ⟨by unfold goodD; simp [g1, g2, g3], bl3.out⟩

set_option maxRecDepth 100000 in
set_option maxHeartbeats 3200000 in
theorem coGood_any (a b c m o d n f p q r : Int) (w : World) :
    Calls Try.prog 25 #[dsk a b c m o d n f p q r] w fun e w' => e = .returned (.bool (goodD a b c m o d n f p q r)) ∧ Below w.heap.size w w' := by
  have bx0 := Lib.hid (BoxD.new w a b c m o d n f p q r 29)
  have bl0 := Lib.hid (bel_alloc (Below.refl _ w) (.cells #[.int .i64 a, .int .i64 b, .int .i64 c, .int .i64 m, .int .i64 o, .int .i64 d, .int .i64 n, .int .i64 f, .int .i64 p, .int .i64 q, .int .i64 r] 29))
  cases g1 : good a b c
  · skip
    obtain ⟨a0, a1, a2, a3, a4, a5, a6, a7, a8, a9, a10, a11⟩ := bx0.out
    go_enter Try.func25, Try.ntmps25
    go_wp2_with fail
    refine (cnGood_any _ _ _ _).mono ?_
    rw [g1]
    rintro e w1 ⟨rfl, hb⟩
    have bx1 := Lib.hid (bx0.out.keep hb)
    have bl1 := Lib.hid (bel_trans bl0.out hb)
    clear hb a0 a1 a2 a3 a4 a5 a6 a7 a8 a9 a10 a11
    obtain ⟨a0, a1, a2, a3, a4, a5, a6, a7, a8, a9, a10, a11⟩ := bx1.out
    go_wp2_with fail
    go_ret
    exact ⟨by unfold goodD; simp [g1], bl1.out⟩
  · cases g2 : coinG m o
    · skip
      obtain ⟨a0, a1, a2, a3, a4, a5, a6, a7, a8, a9, a10, a11⟩ := bx0.out
      go_enter Try.func25, Try.ntmps25
      go_wp2_with fail
      refine (cnGood_any _ _ _ _).mono ?_
      rw [g1]
      rintro e w1 ⟨rfl, hb⟩
      have bx1 := Lib.hid (bx0.out.keep hb)
      have bl1 := Lib.hid (bel_trans bl0.out hb)
      clear hb a0 a1 a2 a3 a4 a5 a6 a7 a8 a9 a10 a11
      obtain ⟨a0, a1, a2, a3, a4, a5, a6, a7, a8, a9, a10, a11⟩ := bx1.out
      go_wp2_with fail
      refine (ptCoin_any _ _ _).mono ?_
      rw [g2]
      rintro e w2 ⟨rfl, hb⟩
      have bx2 := Lib.hid (bx1.out.keep hb)
      have bl2 := Lib.hid (bel_trans bl1.out hb)
      clear hb a0 a1 a2 a3 a4 a5 a6 a7 a8 a9 a10 a11
      obtain ⟨a0, a1, a2, a3, a4, a5, a6, a7, a8, a9, a10, a11⟩ := bx2.out
      go_wp2_with fail
      go_ret
      exact ⟨by unfold goodD; simp [g1, g2], bl2.out⟩
    · cases g3 : goodH d n f p q r
      · skip
        obtain ⟨a0, a1, a2, a3, a4, a5, a6, a7, a8, a9, a10, a11⟩ := bx0.out
        go_enter Try.func25, Try.ntmps25
        go_wp2_with fail
        refine (cnGood_any _ _ _ _).mono ?_
        rw [g1]
        rintro e w1 ⟨rfl, hb⟩
        have bx1 := Lib.hid (bx0.out.keep hb)
        have bl1 := Lib.hid (bel_trans bl0.out hb)
        clear hb a0 a1 a2 a3 a4 a5 a6 a7 a8 a9 a10 a11
        obtain ⟨a0, a1, a2, a3, a4, a5, a6, a7, a8, a9, a10, a11⟩ := bx1.out
        go_wp2_with fail
        refine (ptCoin_any _ _ _).mono ?_
        rw [g2]
        rintro e w2 ⟨rfl, hb⟩
        have bx2 := Lib.hid (bx1.out.keep hb)
        have bl2 := Lib.hid (bel_trans bl1.out hb)
        clear hb a0 a1 a2 a3 a4 a5 a6 a7 a8 a9 a10 a11
        obtain ⟨a0, a1, a2, a3, a4, a5, a6, a7, a8, a9, a10, a11⟩ := bx2.out
        go_wp2_with fail
        refine (hdGood_any _ _ _ _ _ _ _).mono ?_
        rw [g3]
        rintro e w3 ⟨rfl, hb⟩
        have bx3 := Lib.hid (bx2.out.keep hb)
        have bl3 := Lib.hid (bel_trans bl2.out hb)
        clear hb a0 a1 a2 a3 a4 a5 a6 a7 a8 a9 a10 a11
        obtain ⟨a0, a1, a2, a3, a4, a5, a6, a7, a8, a9, a10, a11⟩ := bx3.out
        go_wp2_with fail
        go_ret
        exact ⟨by unfold goodD; simp [g1, g2, g3], bl3.out⟩
      · skip
        obtain ⟨a0, a1, a2, a3, a4, a5, a6, a7, a8, a9, a10, a11⟩ := bx0.out
        go_enter Try.func25, Try.ntmps25
        go_wp2_with fail
        refine (cnGood_any _ _ _ _).mono ?_
        rw [g1]
        rintro e w1 ⟨rfl, hb⟩
        have bx1 := Lib.hid (bx0.out.keep hb)
        have bl1 := Lib.hid (bel_trans bl0.out hb)
        clear hb a0 a1 a2 a3 a4 a5 a6 a7 a8 a9 a10 a11
        obtain ⟨a0, a1, a2, a3, a4, a5, a6, a7, a8, a9, a10, a11⟩ := bx1.out
        go_wp2_with fail
        refine (ptCoin_any _ _ _).mono ?_
        rw [g2]
        rintro e w2 ⟨rfl, hb⟩
        have bx2 := Lib.hid (bx1.out.keep hb)
        have bl2 := Lib.hid (bel_trans bl1.out hb)
        clear hb a0 a1 a2 a3 a4 a5 a6 a7 a8 a9 a10 a11
        obtain ⟨a0, a1, a2, a3, a4, a5, a6, a7, a8, a9, a10, a11⟩ := bx2.out
        go_wp2_with fail
        refine (hdGood_any _ _ _ _ _ _ _).mono ?_
        rw [g3]
        rintro e w3 ⟨rfl, hb⟩
        have bx3 := Lib.hid (bx2.out.keep hb)
        have bl3 := Lib.hid (bel_trans bl2.out hb)
        clear hb a0 a1 a2 a3 a4 a5 a6 a7 a8 a9 a10 a11
        obtain ⟨a0, a1, a2, a3, a4, a5, a6, a7, a8, a9, a10, a11⟩ := bx3.out
        go_wp2_with fail
        go_ret
        exact ⟨by unfold goodD; simp [g1, g2, g3], bl3.out⟩

theorem specIsDesk_any (a b c m o d n f p q r : Int) (w : World) :
    Calls Try.prog 9 #[dsk a b c m o d n f p q r] w fun e w' => e = .returned (.bool (goodD a b c m o d n f p q r)) ∧ Below w.heap.size w w' := by
  go_enter Try.func9, Try.ntmps9
  go_wp2_with (go_at_call 25; refine (coGood_any _ _ _ _ _ _ _ _ _ _ _ _).mono ?_; rintro e w' ⟨rfl, hb⟩)
  go_ret
  exact ⟨rfl, bel_trans (bel_alloc (Below.refl _ _) _) hb⟩

set_option maxRecDepth 100000 in
set_option maxHeartbeats 3200000 in
theorem walkExactIsDesk (a b c m o d n f p q r : Int) (w : World) (wa : (Lit.int .i64 a).wf = true) (wb : (Lit.int .i64 b).wf = true) (wc : (Lit.int .i64 c).wf = true) (wm : (Lit.int .i64 m).wf = true) (wo : (Lit.int .i64 o).wf = true) (wd : (Lit.int .i64 d).wf = true) (wn : (Lit.int .i64 n).wf = true) (wf : (Lit.int .i64 f).wf = true) (wp : (Lit.int .i64 p).wf = true) (wq : (Lit.int .i64 q).wf = true) (wr : (Lit.int .i64 r).wf = true) :
    Calls Try.prog 4 #[dsk a b c m o d n f p q r] w fun e w' => e = .returned (.bool true) ∧ Below w.heap.size w w' := by
  clear wa wb wc wm wo wd wn wf wp wq wr
  have bx0 := Lib.hid (BoxD.new w a b c m o d n f p q r 38)
  have bl0 := Lib.hid (bel_alloc (Below.refl _ w) (.cells #[.int .i64 a, .int .i64 b, .int .i64 c, .int .i64 m, .int .i64 o, .int .i64 d, .int .i64 n, .int .i64 f, .int .i64 p, .int .i64 q, .int .i64 r] 38))
  generalize hg : goodD a b c m o d n f p q r = g
  have Hg := Lib.hid hg
  clear hg
  obtain ⟨a0, a1, a2, a3, a4, a5, a6, a7, a8, a9, a10, a11⟩ := bx0.out
  go_enter Try.func4, Try.ntmps4
  go_wp2_with fail
  refine (toDesk_any _ _ _ _ _ _ _ _ _ _ _ _).mono ?_
  rintro e w1 ⟨rfl, hb⟩
  have bx1 := Lib.hid (bx0.out.keep hb)
  have bl1 := Lib.hid (bel_trans bl0.out hb)
  clear hb a0 a1 a2 a3 a4 a5 a6 a7 a8 a9 a10 a11
  obtain ⟨a0, a1, a2, a3, a4, a5, a6, a7, a8, a9, a10, a11⟩ := bx1.out
  go_wp2_with fail
  refine (specIsDesk_any _ _ _ _ _ _ _ _ _ _ _ _).mono ?_
  rw [Hg.out]
  rintro e w2 ⟨rfl, hb⟩
  have bx2 := Lib.hid (bx1.out.keep hb)
  have bl2 := Lib.hid (bel_trans bl1.out hb)
  clear hb a0 a1 a2 a3 a4 a5 a6 a7 a8 a9 a10 a11
  obtain ⟨a0, a1, a2, a3, a4, a5, a6, a7, a8, a9, a10, a11⟩ := bx2.out
  go_wp2_with fail
  refine (toDesk_any _ _ _ _ _ _ _ _ _ _ _ _).mono ?_
  rintro e w3 ⟨rfl, hb⟩
  have bx3 := Lib.hid (bx2.out.keep hb)
  have bl3 := Lib.hid (bel_trans bl2.out hb)
  clear hb a0 a1 a2 a3 a4 a5 a6 a7 a8 a9 a10 a11
  obtain ⟨a0, a1, a2, a3, a4, a5, a6, a7, a8, a9, a10, a11⟩ := bx3.out
  go_wp2_with fail
  refine (implIsDesk_any _ _ _ _ _ _ _ _ _ _ _ _).mono ?_
  rw [Hg.out]
  rintro e w4 ⟨rfl, hb⟩
  have bx4 := Lib.hid (bx3.out.keep hb)
  have bl4 := Lib.hid (bel_trans bl3.out hb)
  clear hb a0 a1 a2 a3 a4 a5 a6 a7 a8 a9 a10 a11
  obtain ⟨a0, a1, a2, a3, a4, a5, a6, a7, a8, a9, a10, a11⟩ := bx4.out
  go_wp2_with fail
  go_ret
  exact ⟨rfl, bl4.out⟩

set_option maxRecDepth 100000 in
set_option maxHeartbeats 3200000 in
theorem specFirstDesk_any (w : World) :
    Calls Try.prog 6 #[] w fun e w' => e = .returned (dsk 1 2 4 1 2 1 1 2 0 1 2) ∧ Below w.heap.size w w' := by
  go_enter Try.func6, Try.ntmps6
  go_wp2
  refine bodyPost_ret (v := dsk 1 2 4 1 2 1 1 2 0 1 2) (by simp [results, Try.results6, go_sem]) rfl ⟨rfl, ?_⟩
  repeat (first | assumption | with_reducible exact Below.refl _ _ | refine bel_alloc ?_ _ | refine bel_drewN ?_ _ | refine Below.drew ?_ | (refine Below.setCell ?_ (by simp) _) | (refine bel_trans ?_ (by assumption)))

set_option maxRecDepth 100000 in
set_option maxHeartbeats 3200000 in
theorem implFirstDesk_any (w : World) :
    Calls Try.prog 7 #[] w fun e w' => e = .returned (dsk 1 2 4 1 2 1 1 2 0 1 2) ∧ Below w.heap.size w w' := by
  go_enter Try.func7, Try.ntmps7
  go_wp2
  refine bodyPost_ret (v := dsk 1 2 4 1 2 1 1 2 0 1 2) (by simp [results, Try.results7, go_sem]) rfl ⟨rfl, ?_⟩
  repeat (first | assumption | with_reducible exact Below.refl _ _ | refine bel_alloc ?_ _ | refine bel_drewN ?_ _ | refine Below.drew ?_ | (refine Below.setCell ?_ (by simp) _) | (refine bel_trans ?_ (by assumption)))

set_option maxRecDepth 100000 in
set_option maxHeartbeats 3200000 in
theorem walkExactFirstDesk (w : World) :
    Calls Try.prog 3 #[] w fun e w' => e = .returned (.bool true) ∧ Below w.heap.size w w' := by
  go_enter Try.func3, Try.ntmps3
  go_wp2_with fail
  refine (specFirstDesk_any _).mono ?_
  rintro e w1 ⟨rfl, hb1⟩
  have bx1 := Lib.hid (BoxD.new w1 1 2 4 1 2 1 1 2 0 1 2 29)
  have bl1 := Lib.hid (bel_alloc hb1 (.cells #[.int .i64 1, .int .i64 2, .int .i64 4, .int .i64 1, .int .i64 2, .int .i64 1, .int .i64 1, .int .i64 2, .int .i64 0, .int .i64 1, .int .i64 2] 29))
  clear hb1
  go_wp2_with fail
  refine (implFirstDesk_any _).mono ?_
  rintro e w2 ⟨rfl, hb⟩
  have bx2 := Lib.hid (bx1.out.keep hb)
  have bl2 := Lib.hid (bel_trans bl1.out hb)
  clear hb
  have bx3 := Lib.hid (bx2.out.keep (bel_alloc (Below.refl _ _) (.cells #[.int .i64 1, .int .i64 2, .int .i64 4, .int .i64 1, .int .i64 2, .int .i64 1, .int .i64 1, .int .i64 2, .int .i64 0, .int .i64 1, .int .i64 2] 29)))
  have by3 := Lib.hid (BoxD.new w2 1 2 4 1 2 1 1 2 0 1 2 29)
  have bl3 := Lib.hid (bel_alloc bl2.out (.cells #[.int .i64 1, .int .i64 2, .int .i64 4, .int .i64 1, .int .i64 2, .int .i64 1, .int .i64 1, .int .i64 2, .int .i64 0, .int .i64 1, .int .i64 2] 29))
  obtain ⟨a0, a1, a2, a3, a4, a5, a6, a7, a8, a9, a10, a11⟩ := bx3.out
  obtain ⟨r0, r1, r2, r3, r4, r5, r6, r7, r8, r9, r10, r11⟩ := by3.out
  go_wp2_with fail
  refine (eqDesk_same _ _ _ _ _ _ _ _ _ _ _ _).mono ?_
  rintro e w4 ⟨rfl, hb⟩
  have bl4 := Lib.hid (bel_trans bl3.out hb)
  go_wp2_with fail
  go_ret
  exact ⟨rfl, bl4.out⟩
end Go.Proofs.Ytcfafgdgmkiibaa
