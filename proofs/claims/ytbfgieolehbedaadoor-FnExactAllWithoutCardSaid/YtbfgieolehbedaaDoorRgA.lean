/- Texts appended out of a slice that lies in memory. -/
import Derived.Test.YtbfgieolehbedaaDoorSPush
import Derived.Laws.AppendOwnNone
namespace Go.Proofs.YtbfgieolehbedaaDoor
set_option linter.unusedSimpArgs false
open Go.ChangeShapes Go.WideShapes Go.ChangeAt Go.RowKit
set_option linter.unusedVariables false

/-- x is a slice of the texts ys, wherever they lie. -/
def Src (W : World) (x : Value) (ys : List ByteArray) : Prop :=
  (x = .slice none 0 0 ∧ ys = []) ∨ ∃ ad c, x = .slice (some ad) ys.length c ∧ ∀ j, j < ys.length → W.cell? (ad.add j) = some (.string (ys.getD j ByteArray.empty))
theorem wpList_pushG {ops : Array Oper} {rest : List Oper} {o : Oper} {a : Act} {Q : Exit → Act → World → Prop} {W : World} (ys : List ByteArray) (hgd : o.guard = none) (s x : Operand)
    (ho : o.op = .call { callee := .builtin .append, args := #[s, x], argTypes := #[30, 30] }) (base : Nat) (v xv : Value) (xs : List ByteArray) (hown : SRow W base v xs) (hlen : xs.length + ys.length ≤ 1000000) (hbase : base ≤ W.heap.size)
    (hs : a.eval s = v) (hx : a.eval x = xv) (hsrc : Src W xv ys)
    (h : ∀ v' w', SRow w' base v' (xs ++ ys) → Below base W w' → wpList Tryd.prog ops Q rest (a.put o.dst v') w') : wpList Tryd.prog ops Q (o :: rest) a W := by
  obtain ⟨i0, hi, hz0, hz1, hz2⟩ := info_parts info_str
  rcases hsrc with ⟨rfl, rfl⟩ | ⟨ad, c, rfl, hc⟩
  · refine wpList_append_own_none hgd s x 30 ho base 9 i0 1 Tryd.underlying30 hi v xs.length (xs.map Value.string) hs hown hx ?_
    exact h v W (by rw [List.append_nil]; exact hown) (Below.refl _ _)
  · refine wpList_append_own W hgd s x 30 ho base 9 i0 (.string ByteArray.empty) 1 16 Tryd.underlying30 hi hz0 hz1 hz2 rfl (by decide) v xs.length (xs.map Value.string) hs hown ad ys.length c (ys.map Value.string) hx (by simp) ?_ ?_ ?_ ?_ hbase ?_
    · intro j u hj
      rw [List.getElem?_map] at hj
      obtain ⟨q, hq, rfl⟩ := Option.map_eq_some_iff.1 hj
      obtain ⟨hlt, rfl⟩ := List.getElem?_eq_some_iff.1 hq
      rw [hc j hlt, List.getD_eq_getElem?_getD, List.getElem?_eq_getElem hlt]
      rfl
    · intro y hy
      rw [List.mem_map] at hy
      obtain ⟨q, _, rfl⟩ := hy
      rfl
    · unfold maxLen; omega
    · omega
    · intro v' w' h1 h2 _
      refine h v' w' (SRow.push h1) ?_
      exact Below.grown (Below.refl base W) h2 hbase fun k hk => (World.ownsRow.lt hown k hk).1
theorem Src.below {W W' : World} {x : Value} {ys : List ByteArray} (h : Src W x ys) (hb : Below W.heap.size W W') : Src W' x ys := by
  rcases h with h | ⟨ad, c, rfl, hc⟩
  · exact .inl h
  · refine .inr ⟨ad, c, rfl, fun j hj => ?_⟩
    have h1 := hc j hj
    have hlt : (ad.add j).block < W.heap.size := by
      rcases Nat.lt_or_ge (ad.add j).block W.heap.size with hlt | hge
      · exact hlt
      · exfalso
        have : W.heap[(ad.add j).block]? = none := Array.getElem?_eq_none hge
        simp [World.cell?, this] at h1
    exact (hb.cell hlt).trans h1
theorem SRow.lit0 (w : World) : SRow (w.alloc (.cells #[] 9)) w.heap.size (.slice (some ⟨w.heap.size, 0, none⟩) 0 0) [] :=
  World.ownsRow_lit w #[] 0 (Nat.le_refl _) (by simp [maxLen]) rfl
/-- A part of a slice of texts. -/
theorem Src.of_row {W : World} {base : Nat} {v : Value} {xs : List ByteArray} {g cap : Nat} (h : SRow W base (.slice (some ⟨g, 0, none⟩) xs.length cap) xs) (lo hi c : Nat) (hlo : lo ≤ hi) (hhi : hi ≤ xs.length) : Src W (.slice (some ⟨g, lo, none⟩) (hi - lo) c) ((xs.take hi).drop lo) := by
  refine .inr ⟨⟨g, lo, none⟩, c, by rw [List.length_drop, List.length_take, Nat.min_eq_left hhi], fun j hj => ?_⟩
  rw [List.length_drop, List.length_take, Nat.min_eq_left hhi] at hj
  have := h.at_ (lo + j) (by omega)
  rw [List.getD_eq_getElem?_getD, List.getElem?_drop, List.getElem?_take_of_lt (by omega), ← List.getD_eq_getElem?_getD, ← this, Addr.add_lit]
end Go.Proofs.YtbfgieolehbedaaDoor
