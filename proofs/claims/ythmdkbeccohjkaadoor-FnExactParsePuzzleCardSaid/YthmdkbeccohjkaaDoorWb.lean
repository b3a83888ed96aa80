/- Bytes that a call has made. -/
import Derived.Test.YthmdkbeccohjkaaDoorRowI
import Derived.OwnWalk
import Derived.WalkSmall
import Derived.Laws.MakeOwn
import Derived.Laws.IdiomStrings
namespace Go.Proofs.YthmdkbeccohjkaaDoor
set_option linter.unusedSimpArgs false
open Go.ChangeShapes Go.WideShapes Go.ChangeAt Go.RowKit
set_option linter.unusedVariables false

theorem info_byteW : (Tryd.prog.info? 5).map (fun i => (i.zero, i.size, i.bytes)) = some (some (.int .u8 0), 1, 1) := by kernel_rfl
theorem madeU (v : Value) (n : Nat) : madeCells #[v] n = Array.replicate n v := by
  apply Array.ext
  · simp [madeCells]
  · intro i h1 h2
    simp [madeCells, Nat.mod_one]
theorem mk_bytes (n : Nat) (hn : n ≤ 1048576) (W : World) : (Instr.makeSlice 22 (.int .i64 n) (.int .i64 n)).run Tryd.prog W = .ok (.slice (some ⟨W.heap.size, 0, none⟩) n n) (W.alloc (.cells (Array.replicate n (.int .u8 0)) 5)) := by
  obtain ⟨i0, hi, hz0, hz1, hz2⟩ := info_parts info_byteW
  have h := run_make (P := Tryd.prog) W 22 5 i0 _ Tryd.underlying22 hi hz0 .i64 .i64 n n (by omega) (by omega) (by rw [hz2]; omega) (by omega)
  rw [h, hz1]
  simp [Value.cells, madeU]
theorem mk_ints (n : Nat) (hn : n ≤ 1048576) (W : World) : (Instr.makeSlice 63 (.int .i64 n) (.int .i64 n)).run Tryd.prog W = .ok (.slice (some ⟨W.heap.size, 0, none⟩) n n) (W.alloc (.cells (Array.replicate n (.int .i64 0)) 3)) := by
  obtain ⟨i0, hi, hz0, hz1, hz2⟩ := info_parts info_int
  have h := run_make (P := Tryd.prog) W 63 3 i0 _ Tryd.underlying63 hi hz0 .i64 .i64 n n (by omega) (by omega) (by rw [hz2]; omega) (by omega)
  rw [h, hz1]
  simp [Value.cells, madeU]
theorem made_ints (W : World) (n : Nat) (hn : n ≤ 1048576) : IRow (W.alloc (.cells (Array.replicate n (.int .i64 0)) 3)) W.heap.size (.slice (some ⟨W.heap.size, 0, none⟩) n n) (List.replicate n 0) := by
  have := World.ownsRow_lit (base := W.heap.size) (e := 3) (size := 1) W (Array.replicate n (.int .i64 0)) n (Nat.le_refl _) (by unfold maxLen; omega) (by simp)
  unfold IRow
  simpa using this
/-- The bytes lie there. -/
def WB (W : World) (b : Nat) (l : List UInt8) : Prop := ∀ j, j < l.length → W.cell? ⟨b, j, none⟩ = some (.int .u8 ((l.getD j 0).toNat : Int)) ∧ W.frozen? ⟨b, j, none⟩ = false
theorem WB.store {A : World} {b : Nat} {l : List UInt8} (h : WB A b l) (i : Nat) (c : UInt8) (hi : i < l.length) : WB (A.setCell ⟨b, i, none⟩ (.int .u8 (c.toNat : Int))) b (l.set i c) := by
  intro j hj
  rw [List.length_set] at hj
  rw [World.frozen?_setCell]
  by_cases e : i = j
  · subst e
    refine ⟨?_, (h i hi).2⟩
    rw [World.cell?_setCell_same' _ _ _ (by rw [(h i hi).1]; rfl)]
    rw [List.getD_eq_getElem?_getD, List.getElem?_set_self hi]
    rfl
  · refine ⟨?_, (h j hj).2⟩
    rw [World.cell?_setCell_other _ _ _ _ (fun q => e (by injection q)), (h j hj).1]
    rw [List.getD_eq_getElem?_getD, List.getD_eq_getElem?_getD, List.getElem?_set_ne e]
theorem made_WB (W : World) (L : Nat) : WB (W.alloc (.cells (Array.replicate L (.int .u8 0)) 5)) W.heap.size (List.replicate L 0) := by
  intro j hj
  rw [List.length_replicate] at hj
  have e : (W.alloc (.cells (Array.replicate L (.int .u8 0)) 5)).heap[W.heap.size]? = some (.cells (Array.replicate L (.int .u8 0)) 5) := by
    show (W.heap.push _)[W.heap.size]? = _
    simp
  constructor
  · unfold World.cell?
    simp only [e]
    simp [hj]
  · unfold World.frozen?
    simp only [e]
    simp
end Go.Proofs.YthmdkbeccohjkaaDoor
