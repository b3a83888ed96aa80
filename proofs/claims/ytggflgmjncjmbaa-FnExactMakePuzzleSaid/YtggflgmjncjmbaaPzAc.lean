/- A clue more: a slice that is full is appended to; contracts of AddClue. -/
import Derived.Test.YtggflgmjncjmbaaPzC
import Derived.Deep.AppendSrc
namespace Go.Proofs.Ytggflgmjncjmbaa
set_option linter.unusedSimpArgs false
open Go.ChangeShapes Go.WideShapes Go.ChangeAt Go.RowKit
set_option linter.unusedVariables false

theorem fullFirst {P : Program} {w : World} {B n : Nat} {A : Option Addr} {xs : List Tri} (h : RdT w B (.slice A n n) xs) : (Builtin.firstCells 3 n (.slice A n n)).run P w.drew = .ok (flat xs).toArray w.drew := by
  obtain ⟨rfl, hr⟩ := h.reads
  cases A with
  | none =>
    rcases Nat.eq_zero_or_pos xs.length with h0 | h0
    · have : xs = [] := List.eq_nil_of_length_eq_zero h0
      subst this
      exact run_firstCells_none _ _ _ _ _
    · obtain ⟨ad, q, _⟩ := hr.2 h0
      cases q
  | some a =>
    refine run_firstCells_some _ 3 xs.length a _ _ (flat xs) hr.1 fun j v hj => ?_
    rcases Nat.eq_zero_or_pos xs.length with h0 | h0
    · have : xs = [] := List.eq_nil_of_length_eq_zero h0
      subst this
      simp [flat] at hj
    · obtain ⟨ad, q, _, hc⟩ := hr.2 h0
      injection q with q
      subst q
      exact hc j v hj
/-- One triple that was just laid into a block of its own is appended to a slice that is full. -/
theorem wpList_fullT1 {ops : Array Oper} {rest : List Oper} {o : Oper} {a : Act} {Q : Exit → Act → World → Prop} {W : World} (t q : TypeId) (ht : Try.prog.underlying t = some (.slice q)) (hi : (Try.prog.info? q).map (fun i => (i.zero, i.size, i.bytes)) = some (some (.agg #[.int .i64 0, .int .i64 0, .int .i64 0]), 3, 24))
    (hgd : o.guard = none) (s x : Operand) (ho : o.op = .call { callee := .builtin .append, args := #[s, x], argTypes := #[t, t] }) (A : Option Addr) (n : Nat) (xs : List Tri) (B : Nat) (hr : RdT W B (.slice A n n) xs) (hB : B ≤ W.heap.size) (y0 y1 y2 : Int)
    (hx : a.eval x = .slice (some ⟨W.heap.size, 0, none⟩) 1 1) (hlen : n ≤ 2000000) (hs : a.eval s = .slice A n n)
    (h : ∀ v' w', TRow q w' W.heap.size v' (xs ++ [(y0, y1, y2)]) → Below W.heap.size W w' → wpList Try.prog ops Q rest (a.put o.dst v') w') : wpList Try.prog ops Q (o :: rest) a (W.alloc (.cells #[.int .i64 y0, .int .i64 y1, .int .i64 y2] q)) := by
  obtain ⟨i0, hi0, hz0, hz1, hz2⟩ := info_parts3 hi
  have hb1 := bel_alloc (Below.refl W.heap.size W) (.cells #[.int .i64 y0, .int .i64 y1, .int .i64 y2] q)
  have hR := fullFirst (P := Try.prog) (hr.below hb1 hB)
  have hl := (hr.reads).1
  have hsrc : Src Try.prog i0.size t (.slice (some ⟨W.heap.size, 0, none⟩) 1 1) 1 [.int .i64 y0, .int .i64 y1, .int .i64 y2] (W.alloc (.cells #[.int .i64 y0, .int .i64 y1, .int .i64 y2] q)) := by
    refine Src.ofSlice _ ht _ _ _ _ (by rw [hz1]; rfl) (fun j u hj => ?_) (by simp [Value.oneCell'])
    match j, hj with
    | 0, hj => simp at hj; subst hj; simp [go_sem, Addr.add_lit]
    | 1, hj => simp at hj; subst hj; simp [go_sem, Addr.add_lit]
    | 2, hj => simp at hj; subst hj; simp [go_sem, Addr.add_lit]
    | k + 3, hj => simp at hj
  generalize W.alloc (.cells #[.int .i64 y0, .int .i64 y1, .int .i64 y2] q) = W1 at *
  have hfit := growslice_fits (need := n + 1) (old := n) (bytes := i0.bytes) (by omega) (by rw [hz2]; omega)
  have hrun := run_append_grow_src (P := Try.prog) W1 t t o.type q i0 _ ht hi0 hz0 A n n (flat xs) (by rw [hz1]; exact hR) _ 1 _ hsrc (by omega) (by omega) hfit
  refine wpList_plain hgd fun _ hK => ?_
  unfold Oper.wp execOp
  simp only [ho, resolve, invoke, builtin, Sem.run_bind, Sem.run_pure, Result.andThen_ok, List.map_toArray, List.map_cons, List.map_nil, hs, hx, hrun]
  refine hK _ _ (h _ _ ?_ ?_)
  · have hge := grownCap_ge W1 (n + 1) n q
    have hle := grownCap_le_maxLen W1 (n + 1) n q (by unfold maxLen; omega)
    generalize grownCap W1 (n + 1) n q = cp at *
    have e : (xs ++ [(y0, y1, y2)]).length = n + 1 := by rw [List.length_append, ← hl]; rfl
    have ef : flat (xs ++ [(y0, y1, y2)]) = flat xs ++ [.int .i64 y0, .int .i64 y1, .int .i64 y2] := by rw [flat_append]; rfl
    have el : (flat xs ++ [Value.int .i64 y0, .int .i64 y1, .int .i64 y2]).length = (n + 1) * 3 := by rw [List.length_append, flat_len, ← hl]; simp; omega
    unfold TRow
    rw [e, ef]
    refine ⟨el, .inr ⟨W1.heap.size, cp, _, rfl, hb1.size, heap_alloc_new W1.drew _, hge, hle, ?_, ?_⟩⟩
    · simp only [Array.size_append, List.size_toArray, size_zeroCells, el]
      show (n + 1) * 3 + (cp - (n + 1)) * 3 = cp * 3
      omega
    · rw [Array.toList_append, List.take_append_of_le_length (by simp only [List.length_append, flat_len, ← hl]; simp; omega)]
      exact List.take_of_length_le (by rw [← el]; exact Nat.le_refl _)
  · exact bel_alloc hb1.drew _
end Go.Proofs.Ytggflgmjncjmbaa
