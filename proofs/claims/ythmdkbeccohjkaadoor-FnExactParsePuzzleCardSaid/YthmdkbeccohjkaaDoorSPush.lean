/- Texts appended to a slice of texts that the call has made. -/
import Derived.Test.YthmdkbeccohjkaaDoorSRow
namespace Go.Proofs.YthmdkbeccohjkaaDoor
set_option linter.unusedSimpArgs false
open Go.ChangeShapes Go.WideShapes Go.ChangeAt Go.RowKit
set_option linter.unusedVariables false

theorem info_str : (Tryd.prog.info? 9).map (fun i => (i.zero, i.size, i.bytes)) = some (some (.string ByteArray.empty), 1, 16) := by kernel_rfl
theorem SRow.push {w : World} {base : Nat} {v : Value} {xs ys : List ByteArray} (h : w.ownsRow base 9 1 v (xs.length + ys.length) (xs.map Value.string ++ ys.map Value.string)) : SRow w base v (xs ++ ys) := by
  unfold SRow
  rw [List.map_append, List.length_append]
  exact h
/-- Some texts are appended that were just laid into a block of their own. -/
theorem wpList_pushS {ops : Array Oper} {rest : List Oper} {o : Oper} {a : Act} {Q : Exit → Act → World → Prop} {W : World} (ys : List ByteArray) (hgd : o.guard = none) (s x : Operand)
    (ho : o.op = .call { callee := .builtin .append, args := #[s, x], argTypes := #[91, 91] }) (base : Nat) (v : Value) (xs : List ByteArray) (hown : SRow W base v xs) (hlen : xs.length + ys.length ≤ 1000000) (hbase : base ≤ W.heap.size)
    (hs : a.eval s = v) (hx : a.eval x = .slice (some ⟨W.heap.size, 0, none⟩) ys.length ys.length)
    (h : ∀ v' w', SRow w' base v' (xs ++ ys) → Below base W w' → wpList Tryd.prog ops Q rest (a.put o.dst v') w') : wpList Tryd.prog ops Q (o :: rest) a (W.alloc (.cells (ys.map Value.string).toArray 9)) := by
  obtain ⟨i0, hi, hz0, hz1, hz2⟩ := info_parts info_str
  refine wpList_append_own _ hgd s x 91 ho base 9 i0 (.string ByteArray.empty) 1 16 Tryd.underlying91 hi hz0 hz1 hz2 rfl (by decide) v xs.length (xs.map Value.string) hs (World.ownsRow.alloc hown _) ⟨W.heap.size, 0, none⟩ ys.length ys.length (ys.map Value.string) hx (by simp) ?_ ?_ ?_ ?_ ?_ ?_
  · intro j y hy
    have hr : (W.alloc (.cells (ys.map Value.string).toArray 9)).ownsRow W.heap.size 9 1 (.slice (some ⟨W.heap.size, 0, none⟩) ys.length ys.length) ys.length (ys.map Value.string) := by
      have := World.ownsRow_lit (base := W.heap.size) (e := 9) (size := 1) W (ys.map Value.string).toArray ys.length (Nat.le_refl _) (by unfold maxLen; omega) (by simp)
      simpa using this
    exact World.ownsRow.cells hr (g := W.heap.size) rfl j y hy
  · intro y hy
    rw [List.mem_map] at hy
    obtain ⟨q, _, rfl⟩ := hy
    rfl
  · unfold maxLen; omega
  · omega
  · rw [← size1]; omega
  · intro v' w' h1 h2 _
    refine h v' w' (SRow.push h1) ?_
    refine Below.grown (((Below.refl base W).alloc hbase _)) h2 (by rw [← size1]; omega) fun k hk => ?_
    exact (World.ownsRow.lt hown k hk).1

theorem wpList_pushS2 {ops : Array Oper} {rest : List Oper} {o : Oper} {a : Act} {Q : Exit → Act → World → Prop} {W : World} (y z : ByteArray) (hgd : o.guard = none) (s x : Operand)
    (ho : o.op = .call { callee := .builtin .append, args := #[s, x], argTypes := #[91, 91] }) (base : Nat) (v : Value) (xs : List ByteArray) (hown : SRow W base v xs) (hlen : xs.length + 2 ≤ 1000000) (hbase : base ≤ W.heap.size)
    (hs : a.eval s = v) (hx : a.eval x = .slice (some ⟨W.heap.size, 0, none⟩) 2 2)
    (h : ∀ v' w', SRow w' base v' (xs ++ [y, z]) → Below base W w' → wpList Tryd.prog ops Q rest (a.put o.dst v') w') : wpList Tryd.prog ops Q (o :: rest) a (W.alloc (.cells #[.string y, .string z] 9)) :=
  wpList_pushS [y, z] hgd s x ho base v xs hown hlen hbase hs hx h
theorem wpList_pushS1 {ops : Array Oper} {rest : List Oper} {o : Oper} {a : Act} {Q : Exit → Act → World → Prop} {W : World} (y : ByteArray) (hgd : o.guard = none) (s x : Operand)
    (ho : o.op = .call { callee := .builtin .append, args := #[s, x], argTypes := #[91, 91] }) (base : Nat) (v : Value) (xs : List ByteArray) (hown : SRow W base v xs) (hlen : xs.length + 1 ≤ 1000000) (hbase : base ≤ W.heap.size)
    (hs : a.eval s = v) (hx : a.eval x = .slice (some ⟨W.heap.size, 0, none⟩) 1 1)
    (h : ∀ v' w', SRow w' base v' (xs ++ [y]) → Below base W w' → wpList Tryd.prog ops Q rest (a.put o.dst v') w') : wpList Tryd.prog ops Q (o :: rest) a (W.alloc (.cells #[.string y] 9)) :=
  wpList_pushS [y] hgd s x ho base v xs hown hlen hbase hs hx h

/-- The call returns a slice of these texts, made since the call began. -/
def RowS (xs : List ByteArray) (w : World) (e : Ending) (w' : World) : Prop := ∃ v, e = .returned v ∧ SRow w' w.heap.size v xs ∧ Below w.heap.size w w'
theorem SRow.lit1 (w : World) (a : ByteArray) : SRow (w.alloc (.cells #[.string a] 9)) w.heap.size (.slice (some ⟨w.heap.size, 0, none⟩) 1 1) [a] :=
  World.ownsRow_lit w #[.string a] 1 (Nat.le_refl _) (by simp [maxLen]) rfl
end Go.Proofs.YthmdkbeccohjkaaDoor
