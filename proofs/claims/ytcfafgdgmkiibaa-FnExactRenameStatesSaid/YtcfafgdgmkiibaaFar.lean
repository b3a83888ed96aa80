/- How far states are from one: the model's search. -/
import Derived.Test.YtcfafgdgmkiibaaReach
namespace Go.Proofs.Ytcfafgdgmkiibaa
set_option linter.unusedSimpArgs false
open Go.ChangeShapes Go.WideShapes Go.ChangeAt Go.RowKit
set_option linter.unusedVariables false

theorem wpList_pushK {ops : Array Oper} {rest : List Oper} {o : Oper} {a : Act} {Q : Exit → Act → World → Prop} {W : World} (hgd : o.guard = none) (s x : Operand)
    (ho : o.op = .call { callee := .builtin .append, args := #[s, x], argTypes := #[45, 45] }) (base : Nat) (v : Value) (xs : List Int) (hown : IRow W base v xs) (hlen : xs.length ≤ 1000000) (hbase : base ≤ W.heap.size) (u : Int) (k : Nat) (hk : k = W.heap.size)
    (hs : a.eval s = v) (hx : a.eval x = .slice (some ⟨k, 0, none⟩) 1 1)
    (h : ∀ v' w', IRow w' base v' (xs ++ [u]) → Below base W w' → wpList Try.prog ops Q rest (a.put o.dst v') w') : wpList Try.prog ops Q (o :: rest) a (W.alloc (.cells #[.int .i64 u] 3)) := by
  subst hk
  exact wpList_push1 hgd s x ho base v xs hown hlen hbase u hs hx h
theorem size_set (w : World) (a : Addr) (v : Value) : w.heap.size = (w.setCell a v).heap.size := by simp [World.setCell]

def ints (q : List Nat) : List Int := q.map (fun (n : Nat) => (n : Int))
theorem ints_len (q : List Nat) : (ints q).length = q.length := by simp [ints]
theorem ints_get (q : List Nat) (k : Nat) (h : k < q.length) : (ints q).getD k 0 = ((q.getD k 0 : Nat) : Int) := by
  simp [ints, List.getD_eq_getElem?_getD, List.getElem?_map, List.getElem?_eq_getElem h]
theorem ints_push (q : List Nat) (t : Nat) : ints q ++ [(t : Int)] = ints (q ++ [t]) := by simp [ints]
theorem IRow.lit1 (W : World) (x : Int) : IRow (W.alloc (.cells #[.int .i64 x] 3)) W.heap.size (.slice (some ⟨W.heap.size, 0, none⟩) 1 1) [x] := by
  have h := World.ownsRow_lit (base := W.heap.size) (e := 3) (size := 1) W #[.int .i64 x] 1 (Nat.le_refl _) (by simp [maxLen]) (by simp)
  unfold IRow
  simpa using h
theorem fillN_set (n k : Nat) : (rowL (fun q => if q < k then -1 else 0) n).set k (-1) = rowL (fun q => if q < k + 1 then -1 else 0) n := by
  rw [rowL_set]
  apply rowL_congr
  intro q _
  unfold upd
  by_cases e : q = k
  · subst e; simp
  · rw [if_neg e]
    show (if q < k then (-1 : Int) else 0) = _
    by_cases h : q < k
    · rw [if_pos h, if_pos (by omega)]
    · rw [if_neg h, if_neg (by omega)]
theorem fillN_all (n : Nat) : rowL (fun q => if q < n then (-1 : Int) else 0) n = List.replicate n (-1) := by
  apply List.ext_getElem
  · simp [rowL]
  · intro j h1 h2
    simp [rowL] at h1 ⊢
    omega
theorem edge_in {lim : Int} {m : List (List Int)} (h : Good lim m) {i j : Nat} (he : edgeB m i j = true) : i < m.length ∧ j < m.length := by
  unfold edgeB at he
  simp at he
  refine ⟨?_, ?_⟩
  · rcases Nat.lt_or_ge i m.length with h1 | h1
    · exact h1
    · unfold atM at he; rw [getD_out m i _ h1] at he; simp at he
  · rcases Nat.lt_or_ge j m.length with h1 | h1
    · exact h1
    · rw [atM_out h h1] at he; omega
theorem IRow.apart {w w' : World} {b F : Nat} {v : Value} {xs : List Int} (h : IRow w b v xs) (hg : w.grownBy w' (some F)) (hF : F < b) : IRow w' b v xs := by
  refine World.ownsRow.kept h hg ?_
  cases hv : v.ownBlock with
  | none => exact .inl rfl
  | some k =>
    refine .inr fun he => ?_
    injection he with he
    have := (World.ownsRow.lt h k hv).1
    omega
theorem IRow.belowB {w w' : World} {b C : Nat} {v : Value} {xs : List Int} (h : IRow w b v xs) (hb : Below C w w') (hv : ∀ k, v.ownBlock = some k → k < C) : IRow w' b v xs := by
  refine ⟨h.1, ?_⟩
  rcases h.2 with hn | ⟨g, cap, cur, rfl, hbg, hgg, rest⟩
  · exact .inl hn
  · exact .inr ⟨g, cap, cur, rfl, hbg, (hb.block g (hv g rfl)).trans hgg, rest⟩
theorem bel_drewF {C : Nat} {w a : World} (h : Below C w a) (n : Nat) : Below C w (a.drewN n) := ⟨h.os, h.tape, h.output, h.size, h.block⟩
/-- What the search answers. -/
def FarOf (m : List (List Int)) (frm : Nat) (far : List Int) : Prop := far.length = m.length ∧ ∀ x, x < m.length → (-1 ≤ far.getD x 0 ∧ far.getD x 0 ≤ m.length) ∧ decide (0 ≤ far.getD x 0) = thr (edgeB m) m.length frm x
theorem far_of {lim : Int} {m : List (List Int)} (hg : Good lim m) {frm : Nat} {far : List Int} {q : List Nat} {k : Nat} (hk : k = q.length) (h : Bfs (edgeB m) m.length frm k 0 far q) : FarOf m frm far := by
  subst hk
  refine ⟨h.len, fun x hx => ⟨h.low x hx, ?_⟩⟩
  rw [Bool.eq_iff_iff, decide_eq_true_iff, h.over (fun i j he => (edge_in hg he).2) x hx, thr_iff _ _ (fun i j he => (edge_in hg he).1)]

/-- Each distance is the length of a walk. -/
def FarW (m : List (List Int)) (frm : Nat) (far : List Int) : Prop := far.getD frm 0 = 0 ∧ ∀ x, x < m.length → 0 ≤ far.getD x 0 → Wlk (edgeB m) frm x (far.getD x 0)
theorem far_of2 {lim : Int} {m : List (List Int)} (hg : Good lim m) {frm : Nat} {far : List Int} {q : List Nat} {k : Nat} (hk : k = q.length) (h : Bfs (edgeB m) m.length frm k 0 far q) : FarOf m frm far ∧ FarW m frm far :=
  ⟨far_of hg hk h, h.zero, fun x hx h0 => h.walk x ((h.mem x hx).2 h0)⟩
end Go.Proofs.Ytcfafgdgmkiibaa
