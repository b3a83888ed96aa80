/- Contracts of the law's own helpers over slices of integers that the calls have made: held against each other, marked, held against marks. -/
import Derived.Test.YthmdkbeccohjkaaDoorPow
import Derived.Laws.AppendOwn
import Derived.Laws.OwnMore
namespace Go.Proofs.YthmdkbeccohjkaaDoor
set_option linter.unusedSimpArgs false
open Go.ChangeShapes Go.WideShapes Go.ChangeAt Go.RowKit
set_option linter.unusedVariables false

/-- v is a slice that holds the numbers xs, made since block base. -/
def IRow (w : World) (base : Nat) (v : Value) (xs : List Int) : Prop := w.ownsRow base 3 1 v xs.length (xs.map (Value.int .i64))

theorem IRow.form {w : World} {base : Nat} {v : Value} {xs : List Int} (h : IRow w base v xs) :
    (xs = [] ∧ ∃ A cap, v = .slice A 0 cap) ∨ (0 < xs.length ∧ ∃ g cap, v = .slice (some ⟨g, 0, none⟩) xs.length cap ∧ base ≤ g ∧ g < w.heap.size ∧ xs.length ≤ cap ∧ cap ≤ maxLen) := by
  by_cases hx : xs = []
  · subst hx
    rcases h.2 with ⟨rfl, _⟩ | ⟨g, cap, cur, rfl, _⟩
    · exact .inl ⟨rfl, none, 0, rfl⟩
    · exact .inl ⟨rfl, _, cap, rfl⟩
  · have hl : 0 < xs.length := List.length_pos_iff.2 hx
    rcases h.2 with ⟨_, h0⟩ | ⟨g, cap, cur, rfl, hb, hg, hn, hc, _⟩
    · omega
    · refine .inr ⟨hl, g, cap, rfl, hb, ?_, hn, hc⟩
      rcases Nat.lt_or_ge g w.heap.size with hlt | hge
      · exact hlt
      · rw [Array.getElem?_eq_none hge] at hg; cases hg
theorem IRow.at_ {w : World} {base g cap : Nat} {xs : List Int} (h : IRow w base (.slice (some ⟨g, 0, none⟩) xs.length cap) xs) (k : Nat) (hk : k < xs.length) :
    w.cell? ⟨g, k, none⟩ = some (.int .i64 (xs.getD k 0)) := by
  rw [World.ownsRow.cellAt h k (by omega), List.getElem?_map, List.getElem?_eq_getElem hk]
  simp [List.getD_eq_getElem?_getD, List.getElem?_eq_getElem hk]
theorem IRow.drewN {w : World} {base : Nat} {v : Value} {xs : List Int} (h : IRow w base v xs) (n : Nat) : IRow (w.drewN n) base v xs := h

/-- The numbers xs, the first i of them marked: k, k + 1, .. -/
def marked (k : Int) (i : Nat) (xs : List Int) : List Int := xs.mapIdx (fun j x => if j < i then k + j else x)
theorem marked_len (k : Int) (i : Nat) (xs : List Int) : (marked k i xs).length = xs.length := by simp [marked]
theorem marked_zero (k : Int) (xs : List Int) : marked k 0 xs = xs := by
  unfold marked
  apply List.ext_getElem
  · simp
  · intro j h1 h2; simp
theorem marked_set (k : Int) (i : Nat) (xs : List Int) : (marked k i xs).set i (k + i) = marked k (i + 1) xs := by
  unfold marked
  apply List.ext_getElem
  · simp
  · intro j h1 h2
    simp only [List.getElem_set, List.getElem_mapIdx]
    by_cases e : i = j
    · subst e; simp
    · rw [if_neg e]
      by_cases g : j < i
      · rw [if_pos g, if_pos (by omega)]
      · rw [if_neg g, if_neg (by omega)]
theorem marked_at (k : Int) (n i : Nat) (xs : List Int) (hi : i < n) (hx : i < xs.length) : (marked k n xs).getD i 0 = k + i := by
  rw [List.getD_eq_getElem?_getD, List.getElem?_eq_getElem (by rw [marked_len]; exact hx)]
  simp [marked, hi]

theorem IRow.store {w : World} {base g cap : Nat} {xs : List Int} (h : IRow w base (.slice (some ⟨g, 0, none⟩) xs.length cap) xs) (k : Nat) (u : Int) :
    IRow (w.setCell ⟨g, k, none⟩ (.int .i64 u)) base (.slice (some ⟨g, 0, none⟩) xs.length cap) (xs.set k u) ∧ w.grownBy (w.setCell ⟨g, k, none⟩ (.int .i64 u)) (some g) := by
  obtain ⟨h1, h2⟩ := World.ownsRow.stored h k (.int .i64 u)
  refine ⟨?_, h2⟩
  unfold IRow
  rw [List.length_set, List.map_set]
  exact h1

/-- What a call answers that makes a slice of numbers: the slice holds xs, in memory made since the call began. -/
def RowAns (xs : List Int) (ok : Bool) (w : World) (e : Ending) (w' : World) : Prop :=
  ∃ v, e = .returned (.tuple #[v, .bool ok]) ∧ IRow w' w.heap.size v xs ∧ Below w.heap.size w w'
/-- The same of a call with one result. -/
def RowOne (xs : List Int) (w : World) (e : Ending) (w' : World) : Prop :=
  ∃ v, e = .returned v ∧ IRow w' w.heap.size v xs ∧ Below w.heap.size w w'
theorem IRow.nil (w : World) (b : Nat) : IRow w b (.slice none 0 0) [] := World.ownsRow_nil w b _ _
theorem IRow.below {w w' : World} {base : Nat} {v : Value} {xs : List Int} (h : IRow w base v xs) (hb : Below w.heap.size w w') : IRow w' base v xs := by
  refine ⟨h.1, ?_⟩
  rcases h.2 with hn | ⟨g, cap, cur, rfl, hbg, hgg, rest⟩
  · exact .inl hn
  · refine .inr ⟨g, cap, cur, rfl, hbg, ?_, rest⟩
    rw [← hgg]
    refine hb.block g ?_
    rcases Nat.lt_or_ge g w.heap.size with hlt | hge
    · exact hlt
    · rw [Array.getElem?_eq_none hge] at hgg; cases hgg
theorem IRow.mono {w : World} {b b' : Nat} {v : Value} {xs : List Int} (h : IRow w b v xs) (hb : b' ≤ b) : IRow w b' v xs := by
  refine ⟨h.1, ?_⟩
  rcases h.2 with hn | ⟨g, cap, cur, rfl, hbg, rest⟩
  · exact .inl hn
  · exact .inr ⟨g, cap, cur, rfl, Nat.le_trans hb hbg, rest⟩
theorem bel_undrewN {W w1 : World} {n : Nat} (h : Below (W.drewN n).heap.size (W.drewN n) w1) : Below W.heap.size W w1 := ⟨h.os, h.tape, h.output, h.size, h.block⟩
theorem bel_grown {w W w' : World} {b : Nat} {v : Value} {xs : List Int} (h : Below w.heap.size w W) (hg : W.grownBy w' v.ownBlock) (hr : IRow W b v xs) (hb : w.heap.size ≤ b) : Below w.heap.size w w' :=
  h.grown hg h.size fun k hk => Nat.le_trans hb (World.ownsRow.lt hr k hk).1
/-- A row that was there before another one was made is as it was when that one is written. -/
theorem IRow.kept_by {w0 W w' : World} {b0 b1 : Nat} {v0 v1 : Value} {xs ys : List Int} (h : IRow W b0 v0 xs) (hg : W.grownBy w' v1.ownBlock) (h1 : IRow W b1 v1 ys) {n : Nat} (hn : n ≤ w0.heap.size) (h0 : IRow w0 b0 v0 xs) (hb : w0.heap.size ≤ b1 := by exact Nat.le_refl _) : IRow w' b0 v0 xs := by
  refine World.ownsRow.kept h hg ?_
  cases hv : v0.ownBlock with
  | none => exact .inl rfl
  | some k =>
    refine .inr fun he => ?_
    have l0 := (World.ownsRow.lt h0 k hv).2
    have l1 := (World.ownsRow.lt h1 k he.symm).1
    omega

theorem info_int : (Tryd.prog.info? 3).map (fun i => (i.zero, i.size, i.bytes)) = some (some (.int .i64 0), 1, 8) := by kernel_rfl
theorem size1 (w : World) (a : Obj) : w.heap.size + 1 = (w.alloc a).heap.size := by
  show _ = (w.heap.push a).size
  simp
theorem IRow.push {w : World} {base : Nat} {v : Value} {xs : List Int} {u : Int} (h : w.ownsRow base 3 1 v (xs.length + 1) (xs.map (Value.int .i64) ++ [.int .i64 u])) : IRow w base v (xs ++ [u]) := by
  unfold IRow
  rw [List.map_append, List.length_append]
  exact h
theorem new_cell (w : World) (u : Value) (t : TypeId) : (w.alloc (.cells #[u] t)).cell? ⟨w.heap.size, 0, none⟩ = some u := by simp [go_sem]
/-- One number is appended that was just laid into a block of its own. -/
theorem wpList_push1 {ops : Array Oper} {rest : List Oper} {o : Oper} {a : Act} {Q : Exit → Act → World → Prop} {W : World} (hgd : o.guard = none) (s x : Operand)
    (ho : o.op = .call { callee := .builtin .append, args := #[s, x], argTypes := #[63, 63] }) (base : Nat) (v : Value) (xs : List Int) (hown : IRow W base v xs) (hlen : xs.length ≤ 1000000) (hbase : base ≤ W.heap.size) (u : Int)
    (hs : a.eval s = v) (hx : a.eval x = .slice (some ⟨W.heap.size, 0, none⟩) 1 1)
    (h : ∀ v' w', IRow w' base v' (xs ++ [u]) → Below base W w' → wpList Tryd.prog ops Q rest (a.put o.dst v') w') : wpList Tryd.prog ops Q (o :: rest) a (W.alloc (.cells #[.int .i64 u] 3)) := by
  obtain ⟨i0, hi, hz0, hz1, hz2⟩ := info_parts info_int
  refine wpList_append_own _ hgd s x 63 ho base 3 i0 (.int .i64 0) 1 8 Tryd.underlying63 hi hz0 hz1 hz2 rfl (by decide) v xs.length (xs.map (Value.int .i64)) hs (World.ownsRow.alloc hown _) ⟨W.heap.size, 0, none⟩ 1 1 [.int .i64 u] hx rfl ?_ ?_ ?_ ?_ ?_ ?_
  · intro j y hy
    cases j with
    | zero => simp at hy; subst hy; exact new_cell _ _ _
    | succ j => simp at hy
  · intro y hy; simp at hy; subst hy; rfl
  · unfold maxLen; omega
  · omega
  · rw [← size1]; omega
  · intro v' w' h1 h2 _
    refine h v' w' (IRow.push h1) ?_
    refine Below.grown (((Below.refl base W).alloc hbase _)) h2 (by rw [← size1]; omega) fun k hk => ?_
    exact (World.ownsRow.lt hown k hk).1

/-- The numbers a, a + 1, .. , n of them, that are told by p. -/
def selR (p : Nat → Bool) (a : Nat) : Nat → List Int
  | 0 => []
  | n + 1 => if p (a + n) then selR p a n ++ [((a + n : Nat) : Int)] else selR p a n
theorem selR_len (p : Nat → Bool) (a : Nat) : ∀ n, (selR p a n).length ≤ n
  | 0 => by simp [selR]
  | n + 1 => by
    have := selR_len p a n
    unfold selR
    split
    · simp; omega
    · omega
theorem selR_yes {p : Nat → Bool} {a n : Nat} (h : p (a + n) = true) : selR p a (n + 1) = selR p a n ++ [((a + n : Nat) : Int)] := by simp [selR, h]
theorem selR_no {p : Nat → Bool} {a n : Nat} (h : p (a + n) = false) : selR p a (n + 1) = selR p a n := by simp [selR, h]
theorem selR_mem (p : Nat → Bool) (a : Nat) : ∀ n, ∀ x ∈ selR p a n, ∃ k : Nat, x = k ∧ a ≤ k ∧ k < a + n
  | 0 => by simp [selR]
  | n + 1 => by
    intro x hx
    unfold selR at hx
    split at hx
    · rw [List.mem_append] at hx
      rcases hx with hx | hx
      · obtain ⟨k, e, l, u⟩ := selR_mem p a n x hx; exact ⟨k, e, l, by omega⟩
      · simp at hx; exact ⟨a + n, by omega, by omega, by omega⟩
    · obtain ⟨k, e, l, u⟩ := selR_mem p a n x hx; exact ⟨k, e, l, by omega⟩
end Go.Proofs.YthmdkbeccohjkaaDoor
