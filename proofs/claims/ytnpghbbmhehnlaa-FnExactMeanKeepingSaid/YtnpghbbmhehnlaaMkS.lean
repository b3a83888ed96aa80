/- MeanKeeping: three rows of numbers that grow together; what the model reckons at its end. -/
import Derived.Test.YtnpghbbmhehnlaaMkP
import Derived.Maps.AppendAt
namespace Go.Proofs.Ytnpghbbmhehnlaa
open Go.ChangeShapes Go.WideShapes Go.ChangeAt Go.RowKit
set_option linter.unusedVariables false

/-- Two slices do not lie in one block. -/
def aprt (u v : Value) : Prop := v.ownBlock = none ∨ v.ownBlock ≠ u.ownBlock
theorem aprt.symm {u v : Value} (h : aprt u v) : aprt v u := by
  unfold aprt at *
  cases hu : u.ownBlock with
  | none => exact .inl rfl
  | some k =>
    rcases h with h | h
    · right; rw [h]; simp
    · right; intro e; exact h (by rw [hu, e])
theorem aprt_nil (u : Value) : aprt u (.slice none 0 0) := .inl rfl
theorem aprt.step {w : World} {base : Nat} {u u' v : Value} {ys : List Int} (h : aprt u v) (hv : IRow w base v ys) (hat : u'.ownBlock = u.ownBlock ∨ u'.ownBlock = some w.heap.size) : aprt u' v := by
  rcases hat with e | e
  · unfold aprt; rw [e]; exact h
  · unfold aprt
    rw [e]
    cases hk : v.ownBlock with
    | none => exact .inl rfl
    | some k =>
      right
      intro q
      have := (World.ownsRow.lt hv k hk).2
      cases q
      omega
/-- Three slices of numbers, each in its own block. -/
def I3 (w : World) (base : Nat) (v1 : Value) (l1 : List Int) (v2 : Value) (l2 : List Int) (v3 : Value) (l3 : List Int) : Prop :=
  IRow w base v1 l1 ∧ IRow w base v2 l2 ∧ IRow w base v3 l3 ∧ aprt v1 v2 ∧ aprt v1 v3 ∧ aprt v2 v3
theorem I3.nil (w : World) (base : Nat) : I3 w base (.slice none 0 0) [] (.slice none 0 0) [] (.slice none 0 0) [] :=
  ⟨IRow.nil _ _, IRow.nil _ _, IRow.nil _ _, aprt_nil _, aprt_nil _, aprt_nil _⟩
theorem I3.rot {w : World} {base : Nat} {v1 v2 v3 : Value} {l1 l2 l3 : List Int} (h : I3 w base v1 l1 v2 l2 v3 l3) : I3 w base v2 l2 v3 l3 v1 l1 :=
  ⟨h.2.1, h.2.2.1, h.1, h.2.2.2.2.2, h.2.2.2.1.symm, h.2.2.2.2.1.symm⟩
theorem I3.alloc {w : World} {base : Nat} {v1 v2 v3 : Value} {l1 l2 l3 : List Int} (h : I3 w base v1 l1 v2 l2 v3 l3) (o : Obj) : I3 (w.alloc o) base v1 l1 v2 l2 v3 l3 :=
  ⟨World.ownsRow.alloc h.1 o, World.ownsRow.alloc h.2.1 o, World.ownsRow.alloc h.2.2.1 o, h.2.2.2⟩
theorem I3.push {w w' : World} {base : Nat} {v1 v1' v2 v3 : Value} {l1 l1' l2 l3 : List Int} (h : I3 w base v1 l1 v2 l2 v3 l3) (h1 : IRow w' base v1' l1') (hg : w.grownBy w' v1.ownBlock)
    (hat : v1'.ownBlock = v1.ownBlock ∨ v1'.ownBlock = some w.heap.size) : I3 w' base v1' l1' v2 l2 v3 l3 :=
  ⟨h1, World.ownsRow.kept h.2.1 hg h.2.2.2.1, World.ownsRow.kept h.2.2.1 hg h.2.2.2.2.1, h.2.2.2.1.step h.2.1 hat, h.2.2.2.2.1.step h.2.2.1 hat, h.2.2.2.2.2⟩
theorem wpList_pushI {ops : Array Oper} {rest : List Oper} {o : Oper} {a : Act} {Q : Exit → Act → World → Prop} {W : World} (hgd : o.guard = none) (s x : Operand)
    (ho : o.op = .call { callee := .builtin .append, args := #[s, x], argTypes := #[41, 41] }) (base : Nat) (v v2 v3 : Value) (xs l2 l3 : List Int) (hown : I3 W base v xs v2 l2 v3 l3) (hlen : xs.length ≤ 1000000) (hbase : base ≤ W.heap.size) (u : Int)
    (hs : a.eval s = v) (hx : a.eval x = .slice (some ⟨W.heap.size, 0, none⟩) 1 1)
    (h : ∀ v' w', I3 w' base v' (xs ++ [u]) v2 l2 v3 l3 → Below base W w' → wpList Try.prog ops Q rest (a.put o.dst v') w') : wpList Try.prog ops Q (o :: rest) a (W.alloc (.cells #[.int .i64 u] 3)) := by
  obtain ⟨i0, hi, hz0, hz1, hz2⟩ := info_parts info_int
  refine wpList_append_own_at _ hgd s x 41 ho base 3 i0 (.int .i64 0) 1 8 Try.underlying41 hi hz0 hz1 hz2 rfl (by decide) v xs.length (xs.map (Value.int .i64)) hs (World.ownsRow.alloc hown.1 _) ⟨W.heap.size, 0, none⟩ 1 1 [.int .i64 u] hx rfl ?_ ?_ ?_ ?_ ?_ ?_
  · intro j y hy
    cases j with
    | zero => simp at hy; subst hy; exact new_cell _ _ _
    | succ j => simp at hy
  · intro y hy; simp at hy; subst hy; rfl
  · unfold maxLen; omega
  · omega
  · rw [← size1]; omega
  · intro v' w' h1 h2 _ h4
    refine h v' w' ((hown.alloc _).push (IRow.push h1) h2 h4) ?_
    refine Below.grown (((Below.refl base W).alloc hbase _)) h2 (by rw [← size1]; omega) fun k hk => ?_
    exact (World.ownsRow.lt hown.1 k hk).1

def rowN (f : Nat → Nat) (i : Nat) : List Int := (List.range i).map fun j => (f j : Int)
theorem rowN_len (f : Nat → Nat) (i : Nat) : (rowN f i).length = i := by simp [rowN]
theorem rowN_succ (f : Nat → Nat) (i : Nat) : rowN f (i + 1) = rowN f i ++ [(f i : Int)] := by simp [rowN, List.range_succ]
theorem rowN_at (f : Nat → Nat) (i k : Nat) (h : k < i) : (rowN f i).getD k 0 = (f k : Int) := by
  simp [rowN, List.getD_eq_getElem?_getD, h]

/-- What the model reckons where as many are left as once before. -/
def mkQ (n : Nat) : Int := (tx (stI n) : Int) / (tx (stJ n) : Int)
def mkA (n : Nat) : Int := (rd n (stI n) : Int) - (rd n (stJ n) : Int) * mkQ n
def mkX (n : Nat) : Int := low (mkA n * (tx (stJ n) : Int)) (mkA n * (tx (stJ n) : Int)) (tx (stI n))
def mkY (n : Nat) : Int := low (tx (stI n)) (mkA n * (tx (stJ n) : Int)) (tx (stI n))
def mkU (n : Nat) : Int := low (mkX n * mkQ n) (mkX n * mkQ n) (mkY n * (mkQ n - 1))
def mkV (n : Nat) : Int := low (mkY n * (mkQ n - 1)) (mkX n * mkQ n) (mkY n * (mkQ n - 1))
def mkP (n : Nat) : Int := (rd n (stJ n) : Int) * mkV n + mkU n
def mkR (n : Nat) : Int := (tx (stJ n) : Int) * mkV n
def okMk (n : Nat) : Bool := n < 2 || lf n (stI n) == 0 || (decide (0 ≤ mkQ n) && decide (mkQ n ≤ 2048) && decide (0 ≤ (rd n (stJ n) : Int) * mkQ n) && decide ((rd n (stJ n) : Int) * mkQ n ≤ 10000000) && decide (0 ≤ mkA n) && decide (mkA n ≤ 10000000)
  && decide (0 ≤ mkA n * (tx (stJ n) : Int)) && decide (mkA n * (tx (stJ n) : Int) ≤ 10000000) && decide (0 ≤ mkX n * mkQ n) && decide (mkX n * mkQ n ≤ 1000000000) && decide (1 ≤ mkQ n - 1) && decide (1 ≤ mkY n * (mkQ n - 1)) && decide (mkY n * (mkQ n - 1) ≤ 1000000000)
  && decide (0 ≤ (rd n (stJ n) : Int) * mkV n) && decide ((rd n (stJ n) : Int) * mkV n ≤ 100000000) && decide (0 ≤ mkP n) && decide (mkP n ≤ 1000000000) && decide (1 ≤ mkR n) && decide (mkR n ≤ 1000000000) && decide (low (mkP n) (mkP n) (mkR n) = low (kN n) (kN n) (kD n)) && decide (low (mkR n) (mkP n) (mkR n) = low (kD n) (kN n) (kD n)))
theorem mk_all : (List.range 13).all okMk = true := by decide
structure MkOk (n : Nat) : Prop where
  q0 : 0 ≤ mkQ n
  q1 : mkQ n ≤ 2048
  j0 : 0 ≤ (rd n (stJ n) : Int) * mkQ n
  j1 : (rd n (stJ n) : Int) * mkQ n ≤ 10000000
  a0 : 0 ≤ mkA n
  a1 : mkA n ≤ 10000000
  b0 : 0 ≤ mkA n * (tx (stJ n) : Int)
  b1 : mkA n * (tx (stJ n) : Int) ≤ 10000000
  x0 : 0 ≤ mkX n * mkQ n
  x1 : mkX n * mkQ n ≤ 1000000000
  r0 : 1 ≤ mkQ n - 1
  y0 : 1 ≤ mkY n * (mkQ n - 1)
  y1 : mkY n * (mkQ n - 1) ≤ 1000000000
  v0 : 0 ≤ (rd n (stJ n) : Int) * mkV n
  v1 : (rd n (stJ n) : Int) * mkV n ≤ 100000000
  p0 : 0 ≤ mkP n
  p1 : mkP n ≤ 1000000000
  s0 : 1 ≤ mkR n
  s1 : mkR n ≤ 1000000000
  e1 : low (mkP n) (mkP n) (mkR n) = low (kN n) (kN n) (kD n)
  e2 : low (mkR n) (mkP n) (mkR n) = low (kD n) (kN n) (kD n)
theorem mk_ok (n : Nat) (h : n ≤ 12) (h2 : 2 ≤ n) (h0 : lf n (stI n) ≠ 0) : MkOk n := by
  have h := all12 mk_all n h
  unfold okMk at h
  have g1 : decide (n < 2) = false := by simp; omega
  have g2 : (lf n (stI n) == 0) = false := by simpa using h0
  rw [g1, g2] at h
  simp only [Bool.false_or, Bool.and_eq_true, decide_eq_true_eq] at h
  obtain ⟨⟨⟨⟨⟨⟨⟨⟨⟨⟨⟨⟨⟨⟨⟨⟨⟨⟨⟨⟨a, b⟩, c⟩, d⟩, e⟩, f⟩, g⟩, i⟩, j⟩, k⟩, l⟩, m⟩, o⟩, p⟩, q⟩, r⟩, s⟩, t⟩, u⟩, v⟩, x⟩ := h
  exact ⟨a, b, c, d, e, f, g, i, j, k, l, m, o, p, q, r, s, t, u, v, x⟩
/-- Where none are left, all are told. -/
theorem mk_zero (n i : Nat) (h : n ≤ 12) (h2 : 2 ≤ n) (hi : i < stI n) (hl : lf n i ≠ 0) (h0 : lf n (i + 1) = 0) :
    low (rd n (i + 1)) (rd n (i + 1)) (tx (i + 1)) = low (kN n) (kN n) (kD n) ∧ low (tx (i + 1)) (rd n (i + 1)) (tx (i + 1)) = low (kD n) (kN n) (kD n) := by
  have hA := all12 (p := fun n => n < 2 || (List.range 10).all fun i => !(decide (i < stI n)) || lf n i == 0 || lf n (i + 1) != 0 || (decide (low (rd n (i + 1)) (rd n (i + 1)) (tx (i + 1)) = low (kN n) (kN n) (kD n)) && decide (low (tx (i + 1)) (rd n (i + 1)) (tx (i + 1)) = low (kD n) (kN n) (kD n)))) (by decide) n h
  have b := (st_lt n h (by omega)).2
  have g1 : decide (n < 2) = false := by simp; omega
  rw [g1, Bool.false_or, List.all_eq_true] at hA
  have hB := hA i (List.mem_range.2 (by omega))
  simp [hi, hl, h0] at hB
  exact hB
end Go.Proofs.Ytnpghbbmhehnlaa
