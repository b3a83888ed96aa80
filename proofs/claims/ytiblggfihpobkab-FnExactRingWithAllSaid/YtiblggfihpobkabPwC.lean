/- Lists of prime words: the search, and the lists of the program and of its model. -/
import Derived.Test.YtiblggfihpobkabPwP
import Derived.Test.YtiblggfihpobkabWoAl
namespace Go.Proofs.Ytiblggfihpobkab
set_option linter.unusedSimpArgs false
open Go.ChangeShapes Go.WideShapes Go.ChangeAt Go.RowKit
set_option linter.unusedVariables false

/-- The search, as a value. -/
def fvS (B : Nat) : Value := .func (.func 70) #[] #[.pointer (some ⟨B + 1, 0, none⟩), .pointer (some ⟨B + 2, 0, none⟩), .pointer (some ⟨B, 0, none⟩), .pointer (some ⟨B + 3, 0, none⟩)]
/-- What the search's boxes hold, and what it has found. -/
structure Sch (B n g cap : Nat) (ls : List Int) (v : Value) (xs : List ByteArray) (W : World) : Prop where
  c2 : W.cell? ⟨B, 0, none⟩ = some (.int .i64 n)
  c3 : W.cell? ⟨B + 1, 0, none⟩ = some (.slice (some ⟨g, 0, none⟩) ls.length cap)
  c5 : W.cell? ⟨B + 2, 0, none⟩ = some v
  f5 : W.frozen? ⟨B + 2, 0, none⟩ = false
  c6 : W.cell? ⟨B + 3, 0, none⟩ = some (fvS B)
  row : SRow W (B + 4) v xs
  cel : Cel W g ls
  gl : g < B
  sz : B + 4 ≤ W.heap.size
theorem Sch.keep {B n g cap : Nat} {ls : List Int} {v : Value} {xs : List ByteArray} {W W' : World} (h : Sch B n g cap ls v xs W) (hb : Below W.heap.size W W') : Sch B n g cap ls v xs W' := by
  have s := h.sz
  have gl := h.gl
  exact ⟨(hb.cell (p := ⟨B, 0, none⟩) (by simp; omega)).trans h.c2, (hb.cell (p := ⟨B + 1, 0, none⟩) (by simp; omega)).trans h.c3, (hb.cell (p := ⟨B + 2, 0, none⟩) (by simp; omega)).trans h.c5,
    (hb.frozen (p := ⟨B + 2, 0, none⟩) (by simp; omega)).trans h.f5, (hb.cell (p := ⟨B + 3, 0, none⟩) (by simp; omega)).trans h.c6, h.row.below hb, h.cel.keep hb (by omega), gl, Nat.le_trans s hb.size⟩
theorem SRow.setOther {w : World} {base b o : Nat} {v : Value} {xs : List ByteArray} (h : SRow w base v xs) (hb : b < base) (u : Value) : SRow (w.setCell ⟨b, o, none⟩ u) base v xs := by
  refine ⟨h.1, ?_⟩
  rcases h.2 with hn | ⟨g, cap, cur, rfl, hbg, hgg, rest⟩
  · exact .inl hn
  · exact .inr ⟨g, cap, cur, rfl, hbg, (Below.heap_setCell _ _ _ _ (by simp; omega)).trans hgg, rest⟩
/-- One more text is found: the row has grown, and is stored. -/
theorem Sch.more {B n g cap : Nat} {ls : List Int} {v v' : Value} {xs ys : List ByteArray} {W W' : World} (h : Sch B n g cap ls v xs W) (hb : Below (B + 4) W W') (hr : SRow W' (B + 4) v' ys) : Sch B n g cap ls v' ys (W'.setCell ⟨B + 2, 0, none⟩ v') := by
  have s := h.sz
  have gl := h.gl
  have k5 : W'.cell? ⟨B + 2, 0, none⟩ = some v := (hb.cell (p := ⟨B + 2, 0, none⟩) (by simp)).trans h.c5
  refine ⟨?_, ?_, ?_, ?_, ?_, hr.setOther (by omega) _, fun j hj => ?_, gl, ?_⟩
  · rw [World.cell?_setCell_far _ _ _ _ (by simp)]; exact (hb.cell (p := ⟨B, 0, none⟩) (by simp)).trans h.c2
  · rw [World.cell?_setCell_far _ _ _ _ (by simp)]; exact (hb.cell (p := ⟨B + 1, 0, none⟩) (by simp)).trans h.c3
  · exact World.cell?_setCell_same' _ _ _ (by rw [k5]; rfl)
  · rw [World.frozen?_setCell]; exact (hb.frozen (p := ⟨B + 2, 0, none⟩) (by simp)).trans h.f5
  · rw [World.cell?_setCell_far _ _ _ _ (by simp)]; exact (hb.cell (p := ⟨B + 3, 0, none⟩) (by simp)).trans h.c6
  · rw [World.cell?_setCell_far _ _ _ _ (by simp; omega)]; exact (hb.cell (p := ⟨g, j, none⟩) (by simp; omega)).trans (h.cel j hj)
  · have := hb.size
    simp only [World.setCell]
    have e : (W'.setCell ⟨B + 2, 0, none⟩ v').heap.size = W'.heap.size := by simp [World.setCell]
    simp [World.setCell] at e ⊢
    omega
end Go.Proofs.Ytiblggfihpobkab
