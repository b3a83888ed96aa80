/- Slices of structs of three integers: those that the calls have made, and those that are read. -/
import Derived.Test.YthmdkbeccohjkaaDoorPzP
import Derived.Test.YthmdkbeccohjkaaDoorRdI
import Derived.Test.YthmdkbeccohjkaaDoorBox3W
namespace Go.Proofs.YthmdkbeccohjkaaDoor
set_option linter.unusedSimpArgs false
open Go.ChangeShapes Go.WideShapes Go.ChangeAt Go.RowKit
set_option linter.unusedVariables false

/-- v is a slice of structs that holds the triples, made since block base. -/
def TRow (q : TypeId) (w : World) (base : Nat) (v : Value) (ts : List Tri) : Prop := w.ownsRow base q 3 v ts.length (flat ts)
theorem TRow.form {q : TypeId} {w : World} {base : Nat} {v : Value} {xs : List Tri} (h : TRow q w base v xs) :
    (xs = [] ∧ ∃ A cap, v = .slice A 0 cap) ∨ (0 < xs.length ∧ ∃ g cap, v = .slice (some ⟨g, 0, none⟩) xs.length cap ∧ base ≤ g ∧ g < w.heap.size ∧ xs.length ≤ cap ∧ cap ≤ maxLen) := by
  by_cases hx : xs = []
  · subst hx
    rcases h.2 with ⟨rfl, _⟩ | ⟨g, cap, cur, rfl, _⟩
    · exact .inl ⟨rfl, none, 0, rfl⟩
    · exact .inl ⟨rfl, _, cap, rfl⟩
  · have hl : 0 < xs.length := List.length_pos_iff.2 hx
    rcases h.2 with ⟨_, h0⟩ | ⟨g, cap, cur, rfl, hb, hg, hn, hc, _⟩
    · omega
    · refine .inr ⟨hl, g, cap, rfl, hb, ?_, hn, hc⟩
      rcases Nat.lt_or_ge g w.heap.size with hlt | hge
      · exact hlt
      · rw [Array.getElem?_eq_none hge] at hg; cases hg
theorem TRow.at_ {q : TypeId} {w : World} {base g cap : Nat} {xs : List Tri} (h : TRow q w base (.slice (some ⟨g, 0, none⟩) xs.length cap) xs) (k : Nat) (hk : k < xs.length) :
    w.cell? ⟨g, k * 3, none⟩ = some (.int .i64 (xs.getD k tz).1) ∧ w.cell? ⟨g, k * 3 + 1, none⟩ = some (.int .i64 (xs.getD k tz).2.1) ∧ w.cell? ⟨g, k * 3 + 2, none⟩ = some (.int .i64 (xs.getD k tz).2.2) := by
  obtain ⟨e0, e1, e2⟩ := flat_at xs k hk
  exact ⟨(World.ownsRow.cellAt h _ (by omega)).trans e0, (World.ownsRow.cellAt h _ (by omega)).trans e1, (World.ownsRow.cellAt h _ (by omega)).trans e2⟩
theorem TRow.drewN {q : TypeId} {w : World} {base : Nat} {v : Value} {xs : List Tri} (h : TRow q w base v xs) (n : Nat) : TRow q (w.drewN n) base v xs := h
theorem TRow.nil (q : TypeId) (w : World) (b : Nat) : TRow q w b (.slice none 0 0) [] := World.ownsRow_nil w b _ _
theorem TRow.below {q : TypeId} {w w' : World} {base : Nat} {v : Value} {xs : List Tri} (h : TRow q w base v xs) (hb : Below w.heap.size w w') : TRow q w' base v xs := by
  refine ⟨h.1, ?_⟩
  rcases h.2 with hn | ⟨g, cap, cur, rfl, hbg, hgg, rest⟩
  · exact .inl hn
  · refine .inr ⟨g, cap, cur, rfl, hbg, ?_, rest⟩
    rw [← hgg]
    refine hb.block g ?_
    rcases Nat.lt_or_ge g w.heap.size with hlt | hge
    · exact hlt
    · rw [Array.getElem?_eq_none hge] at hgg; cases hgg
theorem TRow.mono {q : TypeId} {w : World} {b b' : Nat} {v : Value} {xs : List Tri} (h : TRow q w b v xs) (hb : b' ≤ b) : TRow q w b' v xs := by
  refine ⟨h.1, ?_⟩
  rcases h.2 with hn | ⟨g, cap, cur, rfl, hbg, rest⟩
  · exact .inl hn
  · exact .inr ⟨g, cap, cur, rfl, Nat.le_trans hb hbg, rest⟩
theorem bel_grownT {q : TypeId} {w W w' : World} {b : Nat} {v : Value} {xs : List Tri} (h : Below w.heap.size w W) (hg : W.grownBy w' v.ownBlock) (hr : TRow q W b v xs) (hb : w.heap.size ≤ b) : Below w.heap.size w w' :=
  h.grown hg h.size fun k hk => Nat.le_trans hb (World.ownsRow.lt hr k hk).1
/-- Three cells of the row are stored. -/
theorem TRow.store {q : TypeId} {w : World} {base g cap : Nat} {xs : List Tri} (h : TRow q w base (.slice (some ⟨g, 0, none⟩) xs.length cap) xs) (k : Nat) (hk : k < xs.length) (a b c : Int) :
    TRow q (((w.setCell ⟨g, k * 3, none⟩ (.int .i64 a)).setCell ⟨g, k * 3 + 1, none⟩ (.int .i64 b)).setCell ⟨g, k * 3 + 2, none⟩ (.int .i64 c)) base (.slice (some ⟨g, 0, none⟩) xs.length cap) (xs.set k (a, b, c)) ∧
      w.grownBy (((w.setCell ⟨g, k * 3, none⟩ (.int .i64 a)).setCell ⟨g, k * 3 + 1, none⟩ (.int .i64 b)).setCell ⟨g, k * 3 + 2, none⟩ (.int .i64 c)) (some g) := by
  obtain ⟨h1, g1⟩ := World.ownsRow.stored h (k * 3) (.int .i64 a)
  obtain ⟨h2, g2⟩ := World.ownsRow.stored h1 (k * 3 + 1) (.int .i64 b)
  obtain ⟨h3, g3⟩ := World.ownsRow.stored h2 (k * 3 + 2) (.int .i64 c)
  refine ⟨?_, (g1.trans g2).trans g3⟩
  unfold TRow
  rw [List.length_set, ← flat_set xs k a b c hk]
  exact h3
theorem TRow.kept_by {q q1 : TypeId} {w0 W w' : World} {b0 b1 : Nat} {v0 v1 : Value} {xs ys : List Tri} (h : TRow q W b0 v0 xs) (hg : W.grownBy w' v1.ownBlock) (h1 : TRow q1 W b1 v1 ys) (h0 : TRow q w0 b0 v0 xs) (hb : w0.heap.size ≤ b1) : TRow q w' b0 v0 xs := by
  refine World.ownsRow.kept h hg ?_
  cases hv : v0.ownBlock with
  | none => exact .inl rfl
  | some k =>
    refine .inr fun he => ?_
    have l0 := (World.ownsRow.lt h0 k hv).2
    have l1 := (World.ownsRow.lt h1 k he.symm).1
    omega
theorem TRow.kept_af {q q1 : TypeId} {w0 W w' : World} {b0 b1 : Nat} {v0 v1 : Value} {xs ys : List Tri} (h : TRow q W b0 v0 xs) (hg : W.grownBy w' v1.ownBlock) (h1 : TRow q1 w0 b1 v1 ys) (hb : w0.heap.size ≤ b0) : TRow q w' b0 v0 xs := by
  refine World.ownsRow.kept h hg ?_
  cases hv : v0.ownBlock with
  | none => exact .inl rfl
  | some k =>
    refine .inr fun he => ?_
    have l0 := (World.ownsRow.lt h k hv).1
    have l1 := (World.ownsRow.lt h1 k he.symm).2
    omega

/-- The slice v reads as the triples; its cells lie below block B. -/
def RdT (w : World) (B : Nat) (v : Value) (xs : List Tri) : Prop :=
  ∃ A cap, v = .slice A xs.length cap ∧ xs.length ≤ cap ∧ cap ≤ maxLen ∧
    (0 < xs.length → ∃ ad : Addr, A = some ad ∧ ad.block < B ∧ ∀ k, k < xs.length → w.cell? (ad.add (k * 3)) = some (.int .i64 (xs.getD k tz).1) ∧ w.cell? (ad.add (k * 3 + 1)) = some (.int .i64 (xs.getD k tz).2.1) ∧ w.cell? (ad.add (k * 3 + 2)) = some (.int .i64 (xs.getD k tz).2.2))
theorem RdT.keep {w w' : World} {B : Nat} {v : Value} {xs : List Tri} (h : RdT w B v xs) (hk : ∀ p : Addr, p.block < B → w'.cell? p = w.cell? p) : RdT w' B v xs := by
  obtain ⟨A, cap, e, h1, h2, h3⟩ := h
  refine ⟨A, cap, e, h1, h2, fun hl => ?_⟩
  obtain ⟨ad, e1, e2, e3⟩ := h3 hl
  refine ⟨ad, e1, e2, fun k hkk => ?_⟩
  obtain ⟨f0, f1, f2⟩ := e3 k hkk
  exact ⟨(hk _ (by rw [block_of_add]; exact e2)).trans f0, (hk _ (by rw [block_of_add]; exact e2)).trans f1, (hk _ (by rw [block_of_add]; exact e2)).trans f2⟩
theorem RdT.below {w w' : World} {B C : Nat} {v : Value} {xs : List Tri} (h : RdT w B v xs) (hb : Below C w w') (hB : B ≤ C) : RdT w' B v xs :=
  h.keep fun _ hp => hb.cell (Nat.lt_of_lt_of_le hp hB)
theorem RdT.more {w : World} {B C : Nat} {v : Value} {xs : List Tri} (h : RdT w B v xs) (hB : B ≤ C) : RdT w C v xs := by
  obtain ⟨A, cap, e, h1, h2, h3⟩ := h
  refine ⟨A, cap, e, h1, h2, fun hl => ?_⟩
  obtain ⟨ad, e1, e2, e3⟩ := h3 hl
  exact ⟨ad, e1, by omega, e3⟩
theorem RdT.drewN {w : World} {B : Nat} {v : Value} {xs : List Tri} (h : RdT w B v xs) (n : Nat) : RdT (w.drewN n) B v xs := h
theorem RdT.nil (w : World) (B : Nat) : RdT w B (.slice none 0 0) [] := ⟨none, 0, rfl, Nat.le_refl _, by simp [maxLen], fun h => by simp at h⟩
theorem TRow.rd {q : TypeId} {w : World} {b : Nat} {v : Value} {xs : List Tri} (h : TRow q w b v xs) : RdT w w.heap.size v xs := by
  rcases h.2 with ⟨rfl, h0⟩ | ⟨g, cap, cur, rfl, hb, hg, hn, hc, hs, ht⟩
  · refine ⟨none, 0, by rw [h0], by omega, by simp [maxLen], fun hl => by omega⟩
  · refine ⟨some ⟨g, 0, none⟩, cap, rfl, hn, hc, fun hl => ⟨_, rfl, ?_, fun k hk => ?_⟩⟩
    · rcases Nat.lt_or_ge g w.heap.size with hlt | hge
      · exact hlt
      · rw [Array.getElem?_eq_none hge] at hg; cases hg
    · have := TRow.at_ (cap := cap) (g := g) h k hk
      rw [Addr.add_lit, Addr.add_lit, Addr.add_lit, Nat.zero_add, Nat.zero_add, Nat.zero_add]
      exact this
theorem RdT.at_ {w : World} {B n cap : Nat} {A : Option Addr} {xs : List Tri} (h : RdT w B (.slice A n cap) xs) {k : Nat} (hk : k < xs.length) :
    ∃ ad : Addr, A = some ad ∧ ad.block < B ∧ w.cell? (ad.add (k * 3)) = some (.int .i64 (xs.getD k tz).1) ∧ w.cell? (ad.add (k * 3 + 1)) = some (.int .i64 (xs.getD k tz).2.1) ∧ w.cell? (ad.add (k * 3 + 2)) = some (.int .i64 (xs.getD k tz).2.2) := by
  obtain ⟨A', cap', e, h1, h2, h3⟩ := h
  injection e with e1 e2 e3
  subst e1
  obtain ⟨ad, e1, e2, e3⟩ := h3 (by omega)
  exact ⟨ad, e1, e2, e3 k hk⟩
theorem add_addT (a : Addr) (m n : Nat) : (a.add m).add n = a.add (m + n) := by
  by_cases hm : m = 0
  · subst hm; unfold Addr.add; simp
  · by_cases hn : n = 0
    · subst hn; unfold Addr.add; simp
    · unfold Addr.add; simp [hm, hn, Nat.add_assoc]
theorem add_lit3 (a : Addr) (k j : Nat) (hj : 0 < j) : a.add (k * 3 + j) = ⟨(a.add (k * 3)).block, (a.add (k * 3)).off + j, none⟩ := by
  rw [← add_addT]
  generalize a.add (k * 3) = b
  unfold Addr.add
  rw [if_neg (by omega)]
/-- The same in the form in which a struct is loaded. -/
theorem RdT.at3 {w : World} {B n cap : Nat} {A : Option Addr} {xs : List Tri} (h : RdT w B (.slice A n cap) xs) {k : Nat} (hk : k < xs.length) :
    ∃ (ad : Addr) (x y z : Int), A = some ad ∧ ad.block < B ∧ xs.getD k tz = (x, y, z) ∧ w.cell? (ad.add (k * 3)) = some (.int .i64 x) ∧ w.cell? ⟨(ad.add (k * 3)).block, (ad.add (k * 3)).off + 1, none⟩ = some (.int .i64 y) ∧ w.cell? ⟨(ad.add (k * 3)).block, (ad.add (k * 3)).off + 2, none⟩ = some (.int .i64 z) := by
  obtain ⟨ad, e1, e2, c0, c1, c2⟩ := h.at_ hk
  rw [add_lit3 _ _ _ (by omega)] at c1 c2
  exact ⟨ad, _, _, _, e1, e2, rfl, c0, c1, c2⟩
theorem RdT.form {w : World} {B : Nat} {v : Value} {xs : List Tri} (h : RdT w B v xs) : ∃ A cap, v = .slice A xs.length cap ∧ xs.length ≤ cap ∧ cap ≤ maxLen := by
  obtain ⟨A', cap', e, h1, h2, h3⟩ := h
  exact ⟨A', cap', e, h1, h2⟩
/-- The first j triples, with room told. -/
theorem RdT.take {w : World} {B n cap cap' : Nat} {A : Option Addr} {xs : List Tri} (h : RdT w B (.slice A n cap) xs) {j : Nat} (hj : j ≤ xs.length) (hc : j ≤ cap') (hm : cap' ≤ maxLen) : RdT w B (.slice A j cap') (xs.take j) := by
  have hl : (xs.take j).length = j := by rw [List.length_take]; omega
  refine ⟨A, cap', by rw [hl], by omega, hm, fun h0 => ?_⟩
  obtain ⟨ad, e1, e2, _⟩ := h.at_ (k := 0) (by omega)
  refine ⟨ad, e1, e2, fun k hk => ?_⟩
  obtain ⟨ad', e1', _, e3'⟩ := h.at_ (k := k) (by omega)
  rw [e1] at e1'
  injection e1' with e1'
  subst e1'
  rw [show (xs.take j).getD k tz = xs.getD k tz from by rw [List.getD_eq_getElem?_getD, List.getD_eq_getElem?_getD, List.getElem?_take, if_pos (by omega)]]
  exact e3'
/-- The triples from j on. -/
theorem RdT.drop {w : World} {B n cap : Nat} {ad : Addr} {xs : List Tri} (h : RdT w B (.slice (some ad) n cap) xs) {j : Nat} (hj : j ≤ xs.length) (hc : n ≤ cap) (hm : cap ≤ maxLen) : RdT w B (.slice (some (ad.add (j * 3))) (xs.length - j) (cap - j)) (xs.drop j) := by
  have hl : (xs.drop j).length = xs.length - j := List.length_drop
  have hn : n = xs.length := by obtain ⟨A, c, e, _⟩ := h; injection e
  refine ⟨some (ad.add (j * 3)), cap - j, by rw [hl], by omega, by omega, fun h0 => ⟨_, rfl, ?_, fun k hk => ?_⟩⟩
  · obtain ⟨ad', e1, e2, _⟩ := h.at_ (k := 0) (by omega)
    injection e1 with e1
    subst e1
    rw [block_of_add]
    exact e2
  · obtain ⟨ad', e1, e2, e3⟩ := h.at_ (k := j + k) (by omega)
    injection e1 with e1
    subst e1
    rw [add_addT, add_addT, add_addT, show (xs.drop j).getD k tz = xs.getD (j + k) tz from by rw [List.getD_eq_getElem?_getD, List.getD_eq_getElem?_getD, List.getElem?_drop],
      show j * 3 + k * 3 = (j + k) * 3 from by omega, show j * 3 + (k * 3 + 1) = (j + k) * 3 + 1 from by omega, show j * 3 + (k * 3 + 2) = (j + k) * 3 + 2 from by omega]
    exact e3
/-- A new row of one triple. -/
theorem TRow.one (q : TypeId) (W : World) (t : Tri) : TRow q (W.alloc (.cells #[.int .i64 t.1, .int .i64 t.2.1, .int .i64 t.2.2] q)) W.heap.size (.slice (some ⟨W.heap.size, 0, none⟩) 1 1) [t] :=
  World.ownsRow_lit W #[.int .i64 t.1, .int .i64 t.2.1, .int .i64 t.2.2] 1 (Nat.le_refl _) (by simp [maxLen]) rfl

/-- What a call answers that makes a slice of triples. -/
def TriAns (q : TypeId) (xs : List Tri) (ok : Bool) (w : World) (e : Ending) (w' : World) : Prop :=
  ∃ v, e = .returned (.tuple #[v, .bool ok]) ∧ TRow q w' w.heap.size v xs ∧ Below w.heap.size w w'
def TriOne (q : TypeId) (xs : List Tri) (w : World) (e : Ending) (w' : World) : Prop :=
  ∃ v, e = .returned v ∧ TRow q w' w.heap.size v xs ∧ Below w.heap.size w w'

theorem info_clue : (Tryd.prog.info? 83).map (fun i => (i.zero, i.size, i.bytes)) = some (some (.agg #[.int .i64 0, .int .i64 0, .int .i64 0]), 3, 24) := by kernel_rfl
theorem info_parts3 {P : Program} {t : TypeId} {z : Value} {n m : Nat} (h : (P.info? t).map (fun i => (i.zero, i.size, i.bytes)) = some (some z, n, m)) : ∃ i, P.info? t = some i ∧ i.zero = some z ∧ i.size = n ∧ i.bytes = m := by
  cases hi : P.info? t with
  | none => rw [hi] at h; cases h
  | some i =>
    rw [hi] at h
    simp at h
    exact ⟨i, rfl, h.1, h.2.1, h.2.2⟩
theorem TRow.push {q : TypeId} {w : World} {base : Nat} {v : Value} {xs ys : List Tri} (h : w.ownsRow base q 3 v (xs.length + ys.length) (flat xs ++ flat ys)) : TRow q w base v (xs ++ ys) := by
  unfold TRow
  rw [flat_append, List.length_append]
  exact h
/-- Triples that can be read are appended. -/
theorem wpList_pushT {ops : Array Oper} {rest : List Oper} {o : Oper} {a : Act} {Q : Exit → Act → World → Prop} {W : World} (t q : TypeId) (ht : Tryd.prog.underlying t = some (.slice q)) (hi : (Tryd.prog.info? q).map (fun i => (i.zero, i.size, i.bytes)) = some (some (.agg #[.int .i64 0, .int .i64 0, .int .i64 0]), 3, 24))
    (hgd : o.guard = none) (s x : Operand) (ho : o.op = .call { callee := .builtin .append, args := #[s, x], argTypes := #[t, t] }) (base : Nat) (v : Value) (xs : List Tri) (hown : TRow q W base v xs)
    (ys : List Tri) (ad : Addr) (m c : Nat) (hx : a.eval x = .slice (some ad) m c) (hm : m = ys.length)
    (hr : ∀ k, k < ys.length → W.cell? (ad.add (k * 3)) = some (.int .i64 (ys.getD k tz).1) ∧ W.cell? (ad.add (k * 3 + 1)) = some (.int .i64 (ys.getD k tz).2.1) ∧ W.cell? (ad.add (k * 3 + 2)) = some (.int .i64 (ys.getD k tz).2.2))
    (hlen : xs.length + ys.length ≤ 2000000) (hbase : base ≤ W.heap.size) (hs : a.eval s = v)
    (h : ∀ v' w', TRow q w' base v' (xs ++ ys) → Below base W w' → W.grownBy w' v.ownBlock → wpList Tryd.prog ops Q rest (a.put o.dst v') w') : wpList Tryd.prog ops Q (o :: rest) a W := by
  obtain ⟨i0, hi, hz0, hz1, hz2⟩ := info_parts3 hi
  subst hm
  refine wpList_append_own _ hgd s x t ho base q i0 (.agg #[.int .i64 0, .int .i64 0, .int .i64 0]) 3 24 ht hi hz0 hz1 hz2 rfl (by decide) v xs.length (flat xs) hs hown ad ys.length c (flat ys) hx (flat_len ys) ?_ ?_ ?_ ?_ hbase ?_
  · intro j y hy
    have hj : j < ys.length * 3 := by
      rw [← flat_len]
      exact (List.getElem?_eq_some_iff.1 hy).1
    obtain ⟨p, hp⟩ : ∃ p, p = j / 3 := ⟨_, rfl⟩
    obtain ⟨e0, e1, e2⟩ := flat_at ys p (by omega)
    obtain ⟨c0, c1, c2⟩ := hr p (by omega)
    have h3 : j = p * 3 ∨ j = p * 3 + 1 ∨ j = p * 3 + 2 := by omega
    rcases h3 with rfl | rfl | rfl
    · exact c0.trans (e0.symm.trans hy)
    · exact c1.trans (e1.symm.trans hy)
    · exact c2.trans (e2.symm.trans hy)
  · intro y hy
    have hall : ∀ (l : List Tri), ∀ y ∈ flat l, y.oneCell' = true := by
      intro l
      induction l with
      | nil => intro y hy; cases hy
      | cons t l ih =>
        intro y hy
        rcases List.mem_append.1 (show y ∈ triL t ++ flat l from hy) with h | h
        · simp [triL] at h
          rcases h with rfl | rfl | rfl <;> rfl
        · exact ih y h
    exact hall ys y hy
  · unfold maxLen; omega
  · omega
  · intro v' w' h1 h2 _
    refine h v' w' (TRow.push h1) ?_ h2
    exact Below.grown (Below.refl base W) h2 hbase fun k hk => (World.ownsRow.lt hown k hk).1
/-- One triple is appended that was just laid into a block of its own. -/
theorem wpList_pushT1 {ops : Array Oper} {rest : List Oper} {o : Oper} {a : Act} {Q : Exit → Act → World → Prop} {W : World} (t q : TypeId) (ht : Tryd.prog.underlying t = some (.slice q)) (hi : (Tryd.prog.info? q).map (fun i => (i.zero, i.size, i.bytes)) = some (some (.agg #[.int .i64 0, .int .i64 0, .int .i64 0]), 3, 24))
    (hgd : o.guard = none) (s x : Operand) (ho : o.op = .call { callee := .builtin .append, args := #[s, x], argTypes := #[t, t] }) (base : Nat) (v : Value) (xs : List Tri) (hown : TRow q W base v xs) (y0 y1 y2 : Int)
    (hx : a.eval x = .slice (some ⟨W.heap.size, 0, none⟩) 1 1) (hlen : xs.length ≤ 1000000) (hbase : base ≤ W.heap.size) (hs : a.eval s = v)
    (h : ∀ v' w', TRow q w' base v' (xs ++ [(y0, y1, y2)]) → Below base W w' → wpList Tryd.prog ops Q rest (a.put o.dst v') w') : wpList Tryd.prog ops Q (o :: rest) a (W.alloc (.cells #[.int .i64 y0, .int .i64 y1, .int .i64 y2] q)) := by
  have hR := TRow.one q W (y0, y1, y2)
  refine wpList_pushT t q ht hi hgd s x ho base v xs (World.ownsRow.alloc hown _) [(y0, y1, y2)] ⟨W.heap.size, 0, none⟩ 1 1 hx rfl ?_ (by simp; omega) (by rw [← size1]; omega) hs ?_
  · intro k hk
    have := TRow.at_ (cap := 1) (g := W.heap.size) hR k hk
    rw [Addr.add_lit, Addr.add_lit, Addr.add_lit, Nat.zero_add, Nat.zero_add, Nat.zero_add]
    exact this
  · intro v' w' h1 h2 _
    exact h v' w' h1 (((Below.refl base W).alloc hbase _).trans h2)
end Go.Proofs.YthmdkbeccohjkaaDoor
