/- Slices of bytes that a call makes: what they hold, and what becomes of them where another one grows. -/
import Derived.Test.YtnpghbbmhehnlaaDoorPt
import Derived.Laws.AppendOwn
import Derived.Laws.OwnMore
import Derived.Maps.AppendAt
import Derived.Lib.AppendStr
import Derived.Laws.IdiomStrings
namespace Go.Proofs.YtnpghbbmhehnlaaDoor
open Go.ChangeShapes Go.WideShapes Go.ChangeAt Go.RowKit
set_option linter.unusedVariables false

abbrev bV (b : UInt8) : Value := .int .u8 (b.toNat : Int)
/-- v is a slice that holds the bytes xs, made since block base. -/
def BRow (w : World) (base : Nat) (v : Value) (xs : List UInt8) : Prop := w.ownsRow base 5 1 v xs.length (xs.map bV)
theorem BRow.nil (w : World) (b : Nat) : BRow w b (.slice none 0 0) [] := World.ownsRow_nil w b _ _
theorem BRow.drewN {w : World} {base : Nat} {v : Value} {xs : List UInt8} (h : BRow w base v xs) (n : Nat) : BRow (w.drewN n) base v xs := h
/-- Two slices do not lie in one block. -/
def apart (u v : Value) : Prop := v.ownBlock = none ∨ v.ownBlock ≠ u.ownBlock
theorem apart.symm {u v : Value} (h : apart u v) : apart v u := by
  unfold apart at *
  cases hu : u.ownBlock with
  | none => exact .inl rfl
  | some k =>
    rcases h with h | h
    · right; rw [h]; simp
    · right; intro e; exact h (by rw [hu, e])
theorem apart_nil (u : Value) : apart u (.slice none 0 0) := .inl rfl
/-- Behind a growing step of u they are apart as before. -/
theorem apart.step {w : World} {base : Nat} {u u' v : Value} {ys : List UInt8} (h : apart u v) (hv : BRow w base v ys) (hat : u'.ownBlock = u.ownBlock ∨ u'.ownBlock = some w.heap.size) : apart u' v := by
  rcases hat with e | e
  · unfold apart; rw [e]; exact h
  · unfold apart
    rw [e]
    cases hk : v.ownBlock with
    | none => exact .inl rfl
    | some k =>
      right
      intro q
      have := (World.ownsRow.lt hv k hk).2
      cases q
      omega
/-- Three slices of bytes, each in its own block. -/
def B3 (w : World) (base : Nat) (v1 : Value) (l1 : List UInt8) (v2 : Value) (l2 : List UInt8) (v3 : Value) (l3 : List UInt8) : Prop :=
  BRow w base v1 l1 ∧ BRow w base v2 l2 ∧ BRow w base v3 l3 ∧ apart v1 v2 ∧ apart v1 v3 ∧ apart v2 v3
theorem B3.nil (w : World) (base : Nat) : B3 w base (.slice none 0 0) [] (.slice none 0 0) [] (.slice none 0 0) [] :=
  ⟨BRow.nil _ _, BRow.nil _ _, BRow.nil _ _, apart_nil _, apart_nil _, apart_nil _⟩
theorem B3.rot {w : World} {base : Nat} {v1 v2 v3 : Value} {l1 l2 l3 : List UInt8} (h : B3 w base v1 l1 v2 l2 v3 l3) : B3 w base v2 l2 v3 l3 v1 l1 :=
  ⟨h.2.1, h.2.2.1, h.1, h.2.2.2.2.2, h.2.2.2.1.symm, h.2.2.2.2.1.symm⟩
theorem B3.alloc {w : World} {base : Nat} {v1 v2 v3 : Value} {l1 l2 l3 : List UInt8} (h : B3 w base v1 l1 v2 l2 v3 l3) (o : Obj) : B3 (w.alloc o) base v1 l1 v2 l2 v3 l3 :=
  ⟨World.ownsRow.alloc h.1 o, World.ownsRow.alloc h.2.1 o, World.ownsRow.alloc h.2.2.1 o, h.2.2.2⟩
theorem B3.drewN {w : World} {base : Nat} {v1 v2 v3 : Value} {l1 l2 l3 : List UInt8} (h : B3 w base v1 l1 v2 l2 v3 l3) (n : Nat) : B3 (w.drewN n) base v1 l1 v2 l2 v3 l3 := h
theorem B3.push {w w' : World} {base : Nat} {v1 v1' v2 v3 : Value} {l1 l1' l2 l3 : List UInt8} (h : B3 w base v1 l1 v2 l2 v3 l3) (h1 : BRow w' base v1' l1') (hg : w.grownBy w' v1.ownBlock)
    (hat : v1'.ownBlock = v1.ownBlock ∨ v1'.ownBlock = some w.heap.size) : B3 w' base v1' l1' v2 l2 v3 l3 :=
  ⟨h1, World.ownsRow.kept h.2.1 hg h.2.2.2.1, World.ownsRow.kept h.2.2.1 hg h.2.2.2.2.1, h.2.2.2.1.step h.2.1 hat, h.2.2.2.2.1.step h.2.2.1 hat, h.2.2.2.2.2⟩
theorem BRow.push {w : World} {base : Nat} {v : Value} {xs : List UInt8} {u : UInt8} (h : w.ownsRow base 5 1 v (xs.length + 1) (xs.map bV ++ [bV u])) : BRow w base v (xs ++ [u]) := by
  unfold BRow
  rw [List.map_append, List.length_append]
  exact h
theorem info_u8 : (Tryd.prog.info? 5).map (fun i => (i.zero, i.size, i.bytes)) = some (some (.int .u8 0), 1, 1) := by kernel_rfl
theorem new_cellB (w : World) (u : Value) (t : TypeId) : (w.alloc (.cells #[u] t)).cell? ⟨w.heap.size, 0, none⟩ = some u := by simp [go_sem]
theorem size1B (w : World) (a : Obj) : w.heap.size + 1 = (w.alloc a).heap.size := by
  show _ = (w.heap.push a).size
  simp
/-- One byte is appended that was just laid into a block of its own. -/
theorem wpList_pushB {ops : Array Oper} {rest : List Oper} {o : Oper} {a : Act} {Q : Exit → Act → World → Prop} {W : World} (hgd : o.guard = none) (s x : Operand)
    (ho : o.op = .call { callee := .builtin .append, args := #[s, x], argTypes := #[49, 49] }) (base : Nat) (v v2 v3 : Value) (xs l2 l3 : List UInt8) (hown : B3 W base v xs v2 l2 v3 l3) (hlen : xs.length ≤ 1000000) (hbase : base ≤ W.heap.size) (u : UInt8)
    (hs : a.eval s = v) (hx : a.eval x = .slice (some ⟨W.heap.size, 0, none⟩) 1 1)
    (h : ∀ v' w', B3 w' base v' (xs ++ [u]) v2 l2 v3 l3 → Below base W w' → wpList Tryd.prog ops Q rest (a.put o.dst v') w') : wpList Tryd.prog ops Q (o :: rest) a (W.alloc (.cells #[bV u] 5)) := by
  obtain ⟨i0, hi, hz0, hz1, hz2⟩ := info_parts info_u8
  refine wpList_append_own_at _ hgd s x 49 ho base 5 i0 (.int .u8 0) 1 1 Tryd.underlying49 hi hz0 hz1 hz2 rfl (by decide) v xs.length (xs.map bV) hs (World.ownsRow.alloc hown.1 _) ⟨W.heap.size, 0, none⟩ 1 1 [bV u] hx rfl ?_ ?_ ?_ ?_ ?_ ?_
  · intro j y hy
    cases j with
    | zero => simp at hy; subst hy; exact new_cellB _ _ _
    | succ j => simp at hy
  · intro y hy; simp at hy; subst hy; rfl
  · unfold maxLen; omega
  · omega
  · rw [← size1B]; omega
  · intro v' w' h1 h2 _ h4
    refine h v' w' ((hown.alloc _).push (BRow.push h1) h2 h4) ?_
    refine Below.grown (((Below.refl base W).alloc hbase _)) h2 (by rw [← size1B]; omega) fun k hk => ?_
    exact (World.ownsRow.lt hown.1 k hk).1
/-- Where the slice lies behind the append of a string: in its old block, or in a new one. -/
theorem at_string {P : Program} {w : World} {t u ty e : TypeId} {i : TypeInfo} (ht : P.underlying t = some (.slice e)) (hu : P.underlying u = some .string) (hi : P.info? e = some i) (hz : i.zero = some (.int .u8 0))
    (hsize : i.size = 1) (hby : i.bytes = 1) {base : Nat} {v : Value} {n : Nat} {xs : List Value} (hown : w.ownsRow base e 1 v n xs) (s : ByteArray) (h0 : 0 < s.size) (hm : n + s.size ≤ maxLen) (hm2 : n + s.size ≤ 140737488355328)
    {v' : Value} {w' : World} (hr : (Builtin.append_ #[t, u] ty #[v, .string s]).run P w = .ok v' w') : v'.ownBlock = v.ownBlock ∨ v'.ownBlock = some w.heap.size := by
  have hm3 : n + s.size ≤ 9223372036854775807 := by simp only [maxLen] at hm; omega
  rcases hown.2 with ⟨rfl, rfl⟩ | ⟨g, cap, cur, rfl, hbg, hg, hnc, hcm, hcs, htake⟩
  · right
    rw [run_append_nil_string (P := P) w t u ty e i (.int .u8 0) ht hu hi hz s (by omega) (by omega) (by rw [hby]; omega)] at hr
    cases hr
    rfl
  · by_cases hroom : n + s.size ≤ cap
    · left
      rw [Go.Lib.run_append_room_string (P := P) w t u ty e i ht hu hi hsize g n cap cur hg s hroom (by simp at hcs; omega)] at hr
      cases hr
      rfl
    · right
      rw [Go.Lib.run_append_grow_string (P := P) w t u ty e i (.int .u8 0) ht hu hi hz ⟨g, 0, none⟩ n cap xs (by rw [hsize]; simpa using hown.1) (hown.cells (g := g) rfl) s (by omega) (by omega) (by rw [hby]; exact growslice_fits (by omega) (by omega))] at hr
      cases hr
      rfl
theorem strCells_one (c : UInt8) : Go.Lib.strCells ⟨#[c]⟩ = [bV c] := rfl
/-- A text of one byte is appended. -/
theorem wpList_pushC {ops : Array Oper} {rest : List Oper} {o : Oper} {a : Act} {Q : Exit → Act → World → Prop} {W : World} (hgd : o.guard = none) (s x : Operand)
    (ho : o.op = .call { callee := .builtin .append, args := #[s, x], argTypes := #[49, 9] }) (base : Nat) (v v2 v3 : Value) (xs l2 l3 : List UInt8) (hown : B3 W base v xs v2 l2 v3 l3) (hlen : xs.length ≤ 1000000) (hbase : base ≤ W.heap.size) (u : UInt8)
    (hs : a.eval s = v) (hx : a.eval x = .string ⟨#[u]⟩)
    (h : ∀ v' w', B3 w' base v' (xs ++ [u]) v2 l2 v3 l3 → Below base W w' → wpList Tryd.prog ops Q rest (a.put o.dst v') w') : wpList Tryd.prog ops Q (o :: rest) a W := by
  obtain ⟨i0, hi, hz0, hz1, hz2⟩ := info_parts info_u8
  refine wpList_plain hgd fun K hK => ?_
  obtain ⟨v', w', hr, h2, h3, h4⟩ := Go.Lib.run_append_own_string (P := Tryd.prog) W base 49 9 o.type 5 i0 Tryd.underlying49 Tryd.underlying9 hi hz0 hz1 hz2 v xs.length (xs.map bV) hown.1 ⟨#[u]⟩ (by show xs.length + 1 ≤ _; unfold maxLen; omega) (by show xs.length + 1 ≤ _; omega) hbase
  have hat := at_string Tryd.underlying49 Tryd.underlying9 hi hz0 hz1 hz2 hown.1 ⟨#[u]⟩ (Nat.zero_lt_one) (by show xs.length + 1 ≤ _; unfold maxLen; omega) (by show xs.length + 1 ≤ _; omega) hr
  unfold Oper.wp execOp
  simp only [ho, resolve, invoke, builtin, Sem.run_bind, Sem.run_pure, Result.andThen_ok, List.map_toArray, List.map_cons, List.map_nil, hs, hx, hr]
  refine hK _ _ (h v' w' (hown.push (BRow.push h2) h3 hat) ?_)
  refine Below.grown (Below.refl base W) h3 hbase fun k hk => ?_
  exact (World.ownsRow.lt hown.1 k hk).1
/-- The text of a slice of bytes. -/
theorem BRow.text {w : World} {base : Nat} {v : Value} {xs : List UInt8} (h : BRow w base v xs) (n : Nat) :
    (convert 49 9 v).run Tryd.prog (w.drewN n) = .ok (.string ⟨xs.toArray⟩) (w.drewN n) := by
  have h' := h.drewN n
  generalize w.drewN n = w at *
  clear h
  rcases h'.2 with ⟨rfl, h0⟩ | ⟨g, cap, cur, rfl, rest⟩
  · have hx : xs = [] := List.eq_nil_of_length_eq_zero h0
    subst hx
    rw [run_convert_bytes_string w _ _ 5 none 0 0 Tryd.underlying49 Tryd.underlying5 Tryd.underlying9]
    rfl
  · refine run_convert_bytes_back w _ _ 5 ⟨g, 0, none⟩ cap xs Tryd.underlying49 Tryd.underlying5 Tryd.underlying9 ?_
    intro j hj
    have := World.ownsRow.cells (g := g) h' rfl j (bV xs[j]) (by simp [List.getElem?_eq_getElem hj])
    exact this
end Go.Proofs.YtnpghbbmhehnlaaDoor
