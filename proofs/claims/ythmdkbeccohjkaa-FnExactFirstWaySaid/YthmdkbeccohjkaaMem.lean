/- Words for memory: slices of integers and slices of such slices, read as lists, or made by a call; nothing of any one function. -/
import Derived.Test.YthmdkbeccohjkaaStInts
import Derived.Deep.Matrix
namespace Go.Proofs.Ythmdkbeccohjkaa
set_option linter.unusedSimpArgs false
open Go.ChangeShapes Go.WideShapes Go.ChangeAt Go.RowKit
set_option linter.unusedVariables false

theorem block_of_add (a : Addr) (n : Nat) : (a.add n).block = a.block := by unfold Addr.add; split <;> rfl

/-- The slice v reads as the integers xs; its cells lie below block B. -/
def RdI (w : World) (B : Nat) (v : Value) (xs : List Int) : Prop :=
  ∃ A cap, v = .slice A xs.length cap ∧ xs.length ≤ cap ∧ cap ≤ maxLen ∧
    (0 < xs.length → ∃ ad : Addr, A = some ad ∧ ad.block < B ∧ ∀ k, k < xs.length → w.cell? (ad.add k) = some (.int .i64 (xs.getD k 0)))
/-- The slice v reads as slices of integers. -/
def RdM (w : World) (B : Nat) (v : Value) (m : List (List Int)) : Prop :=
  ∃ A cap, v = .slice A m.length cap ∧ m.length ≤ cap ∧ cap ≤ maxLen ∧
    (0 < m.length → ∃ ad : Addr, A = some ad ∧ ad.block < B ∧ ∀ k, k < m.length → ∃ u, w.cell? (ad.add k) = some u ∧ RdI w B u (m.getD k []))

theorem RdI.keep {w w' : World} {B : Nat} {v : Value} {xs : List Int} (h : RdI w B v xs) (hk : ∀ p : Addr, p.block < B → w'.cell? p = w.cell? p) : RdI w' B v xs := by
  obtain ⟨A, cap, e, h1, h2, h3⟩ := h
  refine ⟨A, cap, e, h1, h2, fun hl => ?_⟩
  obtain ⟨ad, e1, e2, e3⟩ := h3 hl
  exact ⟨ad, e1, e2, fun k hkk => (hk _ (by rw [block_of_add]; exact e2)).trans (e3 k hkk)⟩
theorem RdM.keep {w w' : World} {B : Nat} {v : Value} {m : List (List Int)} (h : RdM w B v m) (hk : ∀ p : Addr, p.block < B → w'.cell? p = w.cell? p) : RdM w' B v m := by
  obtain ⟨A, cap, e, h1, h2, h3⟩ := h
  refine ⟨A, cap, e, h1, h2, fun hl => ?_⟩
  obtain ⟨ad, e1, e2, e3⟩ := h3 hl
  refine ⟨ad, e1, e2, fun k hkk => ?_⟩
  obtain ⟨u, f1, f2⟩ := e3 k hkk
  exact ⟨u, (hk _ (by rw [block_of_add]; exact e2)).trans f1, f2.keep hk⟩
theorem RdI.below {w w' : World} {B C : Nat} {v : Value} {xs : List Int} (h : RdI w B v xs) (hb : Below C w w') (hB : B ≤ C) : RdI w' B v xs :=
  h.keep fun _ hp => hb.cell (Nat.lt_of_lt_of_le hp hB)
theorem RdM.below {w w' : World} {B C : Nat} {v : Value} {m : List (List Int)} (h : RdM w B v m) (hb : Below C w w') (hB : B ≤ C) : RdM w' B v m :=
  h.keep fun _ hp => hb.cell (Nat.lt_of_lt_of_le hp hB)
theorem RdI.more {w : World} {B C : Nat} {v : Value} {xs : List Int} (h : RdI w B v xs) (hB : B ≤ C) : RdI w C v xs := by
  obtain ⟨A, cap, e, h1, h2, h3⟩ := h
  refine ⟨A, cap, e, h1, h2, fun hl => ?_⟩
  obtain ⟨ad, e1, e2, e3⟩ := h3 hl
  exact ⟨ad, e1, by omega, e3⟩
theorem RdM.more {w : World} {B C : Nat} {v : Value} {m : List (List Int)} (h : RdM w B v m) (hB : B ≤ C) : RdM w C v m := by
  obtain ⟨A, cap, e, h1, h2, h3⟩ := h
  refine ⟨A, cap, e, h1, h2, fun hl => ?_⟩
  obtain ⟨ad, e1, e2, e3⟩ := h3 hl
  refine ⟨ad, e1, by omega, fun k hkk => ?_⟩
  obtain ⟨u, f1, f2⟩ := e3 k hkk
  exact ⟨u, f1, f2.more hB⟩
theorem RdI.drewN {w : World} {B : Nat} {v : Value} {xs : List Int} (h : RdI w B v xs) (n : Nat) : RdI (w.drewN n) B v xs := h
theorem RdM.drewN {w : World} {B : Nat} {v : Value} {m : List (List Int)} (h : RdM w B v m) (n : Nat) : RdM (w.drewN n) B v m := h
/-- A row of the call's own reads as its numbers. -/
theorem IRow.rd {w : World} {b : Nat} {v : Value} {xs : List Int} (h : IRow w b v xs) : RdI w w.heap.size v xs := by
  rcases h.2 with ⟨rfl, h0⟩ | ⟨g, cap, cur, rfl, hb, hg, hn, hc, hs, ht⟩
  · refine ⟨none, 0, by rw [h0], by omega, by simp [maxLen], fun hl => by omega⟩
  · refine ⟨some ⟨g, 0, none⟩, cap, rfl, hn, hc, fun hl => ⟨_, rfl, ?_, fun k hk => ?_⟩⟩
    · rcases Nat.lt_or_ge g w.heap.size with hlt | hge
      · exact hlt
      · rw [Array.getElem?_eq_none hge] at hg; cases hg
    · have := h.at_ (cap := cap) (g := g) k hk
      rw [Addr.add_lit, Nat.zero_add]
      exact this
theorem RdI.at_ {w : World} {B n cap : Nat} {A : Option Addr} {xs : List Int} (h : RdI w B (.slice A n cap) xs) {k : Nat} (hk : k < xs.length) :
    ∃ ad : Addr, A = some ad ∧ ad.block < B ∧ w.cell? (ad.add k) = some (.int .i64 (xs.getD k 0)) := by
  obtain ⟨A', cap', e, h1, h2, h3⟩ := h
  injection e with e1 e2 e3
  subst e1
  obtain ⟨ad, e1, e2, e3⟩ := h3 (by omega)
  exact ⟨ad, e1, e2, e3 k hk⟩
theorem RdM.at_ {w : World} {B n cap : Nat} {A : Option Addr} {m : List (List Int)} (h : RdM w B (.slice A n cap) m) {k : Nat} (hk : k < m.length) :
    ∃ (ad : Addr) (A' : Option Addr) (cap' : Nat), A = some ad ∧ ad.block < B ∧ w.cell? (ad.add k) = some (.slice A' (m.getD k []).length cap') ∧ RdI w B (.slice A' (m.getD k []).length cap') (m.getD k []) ∧ (m.getD k []).length ≤ cap' ∧ cap' ≤ maxLen := by
  obtain ⟨A', cap', e, h1, h2, h3⟩ := h
  injection e with e1 e2 e3
  subst e1
  obtain ⟨ad, e1, e2, e3⟩ := h3 (by omega)
  obtain ⟨u, f1, f2⟩ := e3 k hk
  have f3 := f2
  obtain ⟨A2, cap2, rfl, g1, g2, g3⟩ := f2
  exact ⟨ad, A2, cap2, e1, e2, f1, f3, g1, g2⟩
theorem RdI.form {w : World} {B : Nat} {v : Value} {xs : List Int} (h : RdI w B v xs) : ∃ A cap, v = .slice A xs.length cap ∧ xs.length ≤ cap ∧ cap ≤ maxLen := by
  obtain ⟨A', cap', e, h1, h2, h3⟩ := h
  exact ⟨A', cap', e, h1, h2⟩
theorem RdM.form {w : World} {B : Nat} {v : Value} {m : List (List Int)} (h : RdM w B v m) : ∃ A cap, v = .slice A m.length cap ∧ m.length ≤ cap ∧ cap ≤ maxLen := by
  obtain ⟨A', cap', e, h1, h2, h3⟩ := h
  exact ⟨A', cap', e, h1, h2⟩

/-- Outside of the blocks lo .. hi - 1 the world is as it was. -/
structure Off (lo hi : Nat) (w w' : World) : Prop where
  os : w'.os = w.os
  tape : w'.tape = w.tape
  output : w'.output = w.output
  size : w.heap.size ≤ w'.heap.size
  block : ∀ k, k < w.heap.size → (k < lo ∨ hi ≤ k) → w'.heap[k]? = w.heap[k]?
theorem Off.refl (lo hi : Nat) (w : World) : Off lo hi w w := ⟨rfl, rfl, rfl, Nat.le_refl _, fun _ _ _ => rfl⟩
theorem Off.trans {lo hi : Nat} {a b c : World} (h : Off lo hi a b) (k : Off lo hi b c) : Off lo hi a c :=
  ⟨k.os.trans h.os, k.tape.trans h.tape, k.output.trans h.output, Nat.le_trans h.size k.size, fun i hi hc => (k.block i (Nat.lt_of_lt_of_le hi h.size) hc).trans (h.block i hi hc)⟩
theorem Off.bel {lo hi : Nat} {w a b : World} (h : Off lo hi a b) (k : Below w.heap.size w a) (hl : w.heap.size ≤ lo) : Below w.heap.size w b :=
  k.trans ⟨h.os, h.tape, h.output, h.size, fun i hi => h.block i (Nat.lt_of_lt_of_le hi k.size) (.inl (Nat.lt_of_lt_of_le hi hl))⟩
theorem Off.drewN {lo hi : Nat} {a b : World} (h : Off lo hi a b) (n : Nat) : Off lo hi a (b.drewN n) := ⟨h.os, h.tape, h.output, h.size, h.block⟩
theorem Off.grown {lo hi : Nat} {a b : World} {row : Option Nat} (h : a.grownBy b row) (hr : ∀ k, row = some k → lo ≤ k ∧ k < hi) : Off lo hi a b :=
  ⟨h.os, h.tape, h.output, h.size, fun i hi hc => h.block i hi fun e => by have := hr i e.symm; omega⟩
theorem IRow.off {w w' : World} {lo hi b : Nat} {v : Value} {xs : List Int} (h : IRow w b v xs) (ho : Off lo hi w w') (hc : ∀ k, v.ownBlock = some k → k < lo ∨ hi ≤ k) : IRow w' b v xs := by
  refine ⟨h.1, ?_⟩
  rcases h.2 with hn | ⟨g, cap, cur, rfl, hbg, hgg, rest⟩
  · exact .inl hn
  · refine .inr ⟨g, cap, cur, rfl, hbg, ?_, rest⟩
    rw [← hgg]
    refine ho.block g ?_ (hc g rfl)
    rcases Nat.lt_or_ge g w.heap.size with hlt | hge
    · exact hlt
    · rw [Array.getElem?_eq_none hge] at hgg; cases hgg
theorem IRow.lt {w : World} {b : Nat} {v : Value} {xs : List Int} (h : IRow w b v xs) : ∀ k, v.ownBlock = some k → b ≤ k ∧ k < w.heap.size := World.ownsRow.lt h

/-- v is a slice of slices that a call made: every block of it lies in lo .. hi - 1, and no two rows share one. -/
abbrev nilS : Value := .slice none 0 0
def OwnM (w : World) (lo hi : Nat) (v : Value) (m : List (List Int)) : Prop :=
  hi ≤ w.heap.size ∧ ∃ vs : List Value, w.ownsRow lo 26 1 v m.length vs ∧ (∀ k, v.ownBlock = some k → k < hi) ∧
    (∀ i, IRow w lo (vs.getD i nilS) (m.getD i []) ∧ ∀ k, (vs.getD i nilS).ownBlock = some k → k < hi) ∧
    (∀ i j, i < j → ∀ k, (vs.getD i nilS).ownBlock = some k → (vs.getD j nilS).ownBlock ≠ some k)

theorem row_block {w : World} {lo : Nat} {e : TypeId} {v : Value} {n : Nat} {xs : List Value} (h : w.ownsRow lo e 1 v n xs) {k : Nat} (hk : v.ownBlock = some k) : ∃ cur, w.heap[k]? = some (.cells cur e (0, 0)) := by
  rcases h.2 with ⟨rfl, _⟩ | ⟨g, cap, cur, rfl, hb, hg, _⟩
  · simp [Value.ownBlock] at hk
  · simp [Value.ownBlock] at hk
    subst hk
    exact ⟨cur, hg⟩
theorem rows_apart {w : World} {lo lo' : Nat} {v v' : Value} {n n' : Nat} {xs xs' : List Value} (h : w.ownsRow lo 26 1 v n xs) (h' : w.ownsRow lo' 3 1 v' n' xs') {k : Nat} (hk : v.ownBlock = some k) : v'.ownBlock ≠ some k := by
  intro hk'
  obtain ⟨c, e⟩ := row_block h hk
  obtain ⟨c', e'⟩ := row_block h' hk'
  rw [e] at e'
  injection e' with e'
  injection e' with _ e2
  exact absurd e2 (by decide)
theorem ownsRow.length {w : World} {base : Nat} {e : TypeId} {v : Value} {n : Nat} {xs : List Value} (h : w.ownsRow base e 1 v n xs) : xs.length = n := by rw [h.1, Nat.mul_one]
theorem OwnM.rd {w : World} {lo hi : Nat} {v : Value} {m : List (List Int)} (h : OwnM w lo hi v m) : RdM w hi v m := by
  obtain ⟨hh, vs, h1, h2, h3, h4⟩ := h
  have hl := ownsRow.length h1
  rcases h1.2 with ⟨rfl, h0⟩ | ⟨g, cap, cur, rfl, hb, hg, hn, hc, hs, ht⟩
  · exact ⟨none, 0, by rw [h0], by omega, by simp [maxLen], fun hl => by omega⟩
  · refine ⟨some ⟨g, 0, none⟩, cap, rfl, hn, hc, fun hl' => ⟨_, rfl, h2 g rfl, fun k hk => ?_⟩⟩
    refine ⟨vs.getD k nilS, ?_, ?_⟩
    · rw [Addr.add_lit, Nat.zero_add, World.ownsRow.cellAt h1 k (by omega), List.getD_eq_getElem?_getD, List.getElem?_eq_getElem (by omega)]
      rfl
    · obtain ⟨r, hr⟩ := h3 k
      have q := r.rd
      obtain ⟨A, cap, e, h1, h2, h3⟩ := q
      refine ⟨A, cap, e, h1, h2, fun hl => ?_⟩
      obtain ⟨ad, e1, e2, e3⟩ := h3 hl
      subst e1
      rw [e] at hr
      exact ⟨ad, rfl, hr _ rfl, e3⟩
theorem OwnM.below {w w' : World} {lo hi C : Nat} {v : Value} {m : List (List Int)} (h : OwnM w lo hi v m) (hb : Below C w w') (hC : hi ≤ C) : OwnM w' lo hi v m := by
  obtain ⟨hh, vs, h1, h2, h3, h4⟩ := h
  have key : ∀ k, k < hi → w'.heap[k]? = w.heap[k]? := fun k hk => hb.block k (by omega)
  have rk : ∀ (e : TypeId) (v : Value) (n : Nat) (xs : List Value), w.ownsRow lo e 1 v n xs → (∀ k, v.ownBlock = some k → k < hi) → w'.ownsRow lo e 1 v n xs := by
    intro e v n xs hr hv
    refine ⟨hr.1, ?_⟩
    rcases hr.2 with hn | ⟨g, cap, cur, rfl, hbg, hgg, rest⟩
    · exact .inl hn
    · exact .inr ⟨g, cap, cur, rfl, hbg, by rw [key g (hv g rfl)]; exact hgg, rest⟩
  exact ⟨Nat.le_trans hh hb.size, vs, rk _ _ _ _ h1 h2, h2, fun i => ⟨rk _ _ _ _ (h3 i).1 (h3 i).2, (h3 i).2⟩, h4⟩
theorem OwnM.more {w : World} {lo hi hi' : Nat} {v : Value} {m : List (List Int)} (h : OwnM w lo hi v m) (h1 : hi ≤ hi') (h2 : hi' ≤ w.heap.size) : OwnM w lo hi' v m := by
  obtain ⟨hh, vs, a, b, c, d⟩ := h
  exact ⟨h2, vs, a, fun k hk => Nat.lt_of_lt_of_le (b k hk) h1, fun i => ⟨(c i).1, fun k hk => Nat.lt_of_lt_of_le ((c i).2 k hk) h1⟩, d⟩
theorem OwnM.drewN {w : World} {lo hi : Nat} {v : Value} {m : List (List Int)} (h : OwnM w lo hi v m) (n : Nat) : OwnM (w.drewN n) lo hi v m := h
theorem OwnM.form {w : World} {lo hi : Nat} {v : Value} {m : List (List Int)} (h : OwnM w lo hi v m) (hl : 0 < m.length) : ∃ g cap, v = .slice (some ⟨g, 0, none⟩) m.length cap ∧ lo ≤ g ∧ g < hi ∧ m.length ≤ cap ∧ cap ≤ maxLen := by
  obtain ⟨hh, vs, h1, h2, h3, h4⟩ := h
  rcases h1.2 with ⟨_, h0⟩ | ⟨g, cap, cur, rfl, hb, hg, hn, hc, hs, ht⟩
  · omega
  · exact ⟨g, cap, rfl, hb, h2 g rfl, hn, hc⟩
theorem getD_replicate_nil (n k : Nat) : (List.replicate n ([] : List Int)).getD k [] = [] := by
  simp [List.getD_eq_getElem?_getD, List.getElem?_replicate]; split <;> rfl
theorem getD_replicate_nilS (n k : Nat) : (List.replicate n nilS).getD k nilS = nilS := by
  simp [List.getD_eq_getElem?_getD, List.getElem?_replicate]; split <;> rfl
theorem OwnM.made {w : World} {lo hi n : Nat} {v : Value} (h : w.ownsRow lo 26 1 v n (List.replicate n nilS)) (hv : ∀ k, v.ownBlock = some k → k < hi) (hh : hi ≤ w.heap.size) : OwnM w lo hi v (List.replicate n []) := by
  refine ⟨hh, List.replicate n nilS, by rw [List.length_replicate]; exact h, hv, fun i => ?_, fun i j _ k hk => ?_⟩
  · rw [getD_replicate_nil, getD_replicate_nilS]
    exact ⟨IRow.nil _ _, fun k hk => by simp [Value.ownBlock] at hk⟩
  · rw [getD_replicate_nilS] at hk
    simp [Value.ownBlock] at hk
theorem getD_set_eq {α : Type} (l : List α) (i : Nat) (x d : α) (h : i < l.length) : (l.set i x).getD i d = x := by
  simp [List.getD_eq_getElem?_getD, h]
theorem getD_set_ne {α : Type} (l : List α) (i j : Nat) (x d : α) (h : i ≠ j) : (l.set i x).getD j d = l.getD j d := by
  simp [List.getD_eq_getElem?_getD, List.getElem?_set_ne h]
/-- A row that was made later is stored as row i. -/
theorem OwnM.put {w : World} {lo hi hi' g cap n i : Nat} {m : List (List Int)} {r : Value} {xs : List Int} (h : OwnM w lo hi (.slice (some ⟨g, 0, none⟩) n cap) m) (hr : IRow w hi r xs) (hr' : ∀ k, r.ownBlock = some k → k < hi') (hh : hi ≤ hi') (hw : hi' ≤ w.heap.size) (hlo : lo ≤ hi) (hil : i < m.length) :
    OwnM (w.setCell ⟨g, i, none⟩ r) lo hi' (.slice (some ⟨g, 0, none⟩) n cap) (m.set i xs) := by
  obtain ⟨h0, vs, h1, h2, h3, h4⟩ := h
  have hl := ownsRow.length h1
  have hn : n = m.length := by
    rcases h1.2 with ⟨e, _⟩ | ⟨g', cap', cur, e, _⟩
    · cases e
    · injection e
  subst hn
  have gl : g < hi := h2 g rfl
  obtain ⟨s1, s2⟩ := World.ownsRow.stored h1 i r
  have keep : ∀ (b : Nat) (u : Value) (ys : List Int), IRow w b u ys → IRow (w.setCell ⟨g, i, none⟩ r) b u ys := by
    intro b u ys hu
    refine World.ownsRow.kept hu s2 ?_
    cases hv : u.ownBlock with
    | none => exact .inl rfl
    | some k =>
      refine .inr fun e => ?_
      exact rows_apart h1 hu (k := k) (by simp [Value.ownBlock]; injection e with e; exact e.symm) hv
  refine ⟨by simpa [World.setCell] using hw, vs.set i r, ?_, fun k hk => Nat.lt_of_lt_of_le (h2 k hk) hh, fun j => ?_, fun a b hab k hk => ?_⟩
  · rw [List.length_set]; exact s1
  · by_cases e : i = j
    · subst e
      rw [getD_set_eq _ _ _ _ (by omega), getD_set_eq _ _ _ _ (by omega)]
      exact ⟨(keep _ _ _ hr).mono hlo, hr'⟩
    · rw [getD_set_ne _ _ _ _ _ e, getD_set_ne _ _ _ _ _ e]
      exact ⟨keep _ _ _ (h3 j).1, fun k hk => Nat.lt_of_lt_of_le ((h3 j).2 k hk) hh⟩
  · by_cases ea : i = a
    · subst ea
      rw [getD_set_eq _ _ _ _ (by omega)] at hk
      rw [getD_set_ne _ _ _ _ _ (by omega)]
      intro hb
      have := hr.lt k hk
      have := (h3 b).2 k hb
      omega
    · rw [getD_set_ne _ _ _ _ _ ea] at hk
      by_cases eb : i = b
      · subst eb
        rw [getD_set_eq _ _ _ _ (by omega)]
        intro hb
        have := hr.lt k hb
        have := (h3 a).2 k hk
        omega
      · rw [getD_set_ne _ _ _ _ _ eb]
        exact h4 a b hab k hk
/-- A row is written in place. -/
theorem OwnM.write {w w' : World} {lo hi i : Nat} {v r : Value} {m : List (List Int)} {ys : List Int} (h : OwnM w lo hi v m) (hil : i < m.length)
    (hr : ∃ ad, v = .slice (some ad) m.length (match v with | .slice _ _ c => c | _ => 0) ∧ w.cell? (ad.add i) = some r) (hg : w.grownBy w' r.ownBlock) (hy : IRow w' lo r ys) (hlen : ys.length = (m.getD i []).length) : OwnM w' lo hi v (m.set i ys) := by
  obtain ⟨h0, vs, h1, h2, h3, h4⟩ := h
  have hl := ownsRow.length h1
  have hri : vs.getD i nilS = r := by
    obtain ⟨ad, e, hc⟩ := hr
    rcases h1.2 with ⟨rfl, h0⟩ | ⟨g, cap, cur, rfl, hb, hgg, hn, hcc, hs, ht⟩
    · cases e
    · injection e with e
      injection e with e
      subst e
      rw [Addr.add_lit, Nat.zero_add, World.ownsRow.cellAt h1 i (by omega)] at hc
      rw [List.getD_eq_getElem?_getD, hc]; rfl
  have keep : ∀ (b : Nat) (u : Value) (ys : List Int), IRow w b u ys → (∀ k, u.ownBlock = some k → r.ownBlock ≠ some k) → IRow w' b u ys := by
    intro b u ys hu hd
    refine World.ownsRow.kept hu hg ?_
    cases hv : u.ownBlock with
    | none => exact .inl rfl
    | some k => exact .inr fun e => hd k hv e.symm
  refine ⟨Nat.le_trans h0 hg.size, vs, ?_, h2, fun j => ?_, h4⟩
  · rw [List.length_set]
    refine World.ownsRow.kept h1 hg ?_
    cases hv : v.ownBlock with
    | none => exact .inl rfl
    | some k =>
      refine .inr fun e => ?_
      exact rows_apart h1 (h3 i).1 hv (by rw [hri]; exact e.symm)
  · by_cases e : i = j
    · subst e
      rw [getD_set_eq _ _ _ _ (by omega), hri]
      exact ⟨hy, by rw [← hri]; exact (h3 i).2⟩
    · rw [getD_set_ne _ _ _ _ _ e]
      refine ⟨keep _ _ _ (h3 j).1 fun k hk => ?_, (h3 j).2⟩
      rw [← hri]
      intro hk'
      rcases Nat.lt_or_gt_of_ne e with hlt | hgt
      · exact h4 i j hlt k hk' hk
      · exact h4 j i hgt k hk hk'

/-- How many numbers the rows before row i hold. -/
def offM (m : List (List Int)) : Nat → Nat
  | 0 => 0
  | i + 1 => offM m i + (m.getD i []).length
theorem offM_mono (m : List (List Int)) : ∀ i j, i ≤ j → offM m i ≤ offM m j := by
  intro i j h
  induction j with
  | zero => have : i = 0 := by omega
            subst this; exact Nat.le_refl _
  | succ j ih =>
    rcases Nat.lt_or_ge j i with h1 | h1
    · have : i = j + 1 := by omega
      subst this; exact Nat.le_refl _
    · exact Nat.le_trans (ih h1) (by simp [offM])
/-- The rows of m, the first j of them marked k, k + 1, .. -/
def markM (k : Int) (j : Nat) (m : List (List Int)) : List (List Int) := m.mapIdx fun i xs => if i < j then marked (k + offM m i) xs.length xs else xs
theorem markM_len (k : Int) (j : Nat) (m : List (List Int)) : (markM k j m).length = m.length := by simp [markM]
theorem markM_zero (k : Int) (m : List (List Int)) : markM k 0 m = m := by
  unfold markM
  apply List.ext_getElem
  · simp
  · intro j h1 h2; simp
theorem markM_getD (k : Int) (j : Nat) (m : List (List Int)) (i : Nat) (h : i < m.length) : (markM k j m).getD i [] = if i < j then marked (k + offM m i) (m.getD i []).length (m.getD i []) else m.getD i [] := by
  rw [List.getD_eq_getElem?_getD, List.getElem?_eq_getElem (by rw [markM_len]; exact h)]
  simp [markM, List.getD_eq_getElem?_getD, List.getElem?_eq_getElem h]
theorem markM_set (k : Int) (i : Nat) (m : List (List Int)) (h : i < m.length) : (markM k i m).set i (marked (k + offM m i) (m.getD i []).length (m.getD i [])) = markM k (i + 1) m := by
  unfold markM
  apply List.ext_getElem
  · simp
  · intro j h1 h2
    simp only [List.getElem_set, List.getElem_mapIdx]
    by_cases e : i = j
    · subst e
      simp [List.getD_eq_getElem?_getD, List.getElem?_eq_getElem h]
    · rw [if_neg e]
      by_cases g : j < i
      · rw [if_pos g, if_pos (by omega)]
      · rw [if_neg g, if_neg (by omega)]

theorem getD_map_range {α : Type} (f : Nat → α) (n k : Nat) (d : α) (h : k < n) : ((List.range n).map f).getD k d = f k := by
  simp [List.getD_eq_getElem?_getD, h]
/-- An argument of the type [][]int reads as a list of lists. -/
theorem rdM_open {H : Type} {enc : TypeId × Value → H} {P : Program} {w : World} {held : Bool} {t e q : TypeId} {fuel : Nat} {v : Value} {x : DataW H × List MemPlace} (ht : P.underlying t = some (.slice e)) (he : P.underlying e = some (.slice q)) (hq : P.underlying q = some (.int .i64))
    (ce : P.cellsOf e = 1) (cq : P.cellsOf q = 1) (h : DataW.trod enc P w 0 (fun _ => true) held fuel t [v] = some x) : ∃ m : List (List Int), RdM w w.heap.size v m := by
  rcases Go.Deep.open_int_rows ht he hq ce cq h with ⟨h0, _⟩ | ⟨a, len, cap, A, L, C, Z, h0, _, h1, h2, _, h3⟩
  · simp at h0
    subst h0
    exact ⟨[], none, 0, rfl, Nat.le_refl _, by simp [maxLen], fun h => by simp at h⟩
  · simp at h0
    subst h0
    refine ⟨(List.range len).map fun r => (Z r).take (L r), some a, cap, by simp, by simpa using h1, h2, fun hl => ⟨a, rfl, ?_, fun k hk => ?_⟩⟩
    · simp at hl
      have := (h3 0 (by omega)).1
      have := World.block_lt_of_cell? w _ this
      rwa [block_of_add] at this
    · simp at hk
      obtain ⟨g1, g2, g3, g4, g5, g6, g7⟩ := h3 k (by omega)
      refine ⟨_, g1, ?_⟩
      rw [getD_map_range _ _ _ _ hk]
      refine ⟨A k, C k, by simp [g4, g2], by simp [g4, g2], g3, fun hl => ?_⟩
      simp [g4] at hl
      cases hA : A k with
      | none => have := g6 hA; omega
      | some a' =>
        obtain ⟨_, q⟩ := g7 a' hA
        refine ⟨a', rfl, ?_, fun j hj => ?_⟩
        · have := World.block_lt_of_cell? w _ (q 0 (by omega))
          rwa [block_of_add] at this
        · have hj' : j < L k := by rw [List.length_take] at hj; omega
          rw [q j (by omega)]
          simp [List.getD_eq_getElem?_getD, hj']
/-- An argument of the type []int reads as a list. -/
theorem rdI_open {H : Type} {enc : TypeId × Value → H} {P : Program} {w : World} {held : Bool} {t q : TypeId} {v : Value} {b0 : Nat} {r : Reach} {d : DataW H} {p : List MemPlace} (ht : P.underlying t = some (.slice q)) (hq : P.underlying q = some (.int .i64)) (cq : P.cellsOf q = 1)
    (h : ∃ fuel, DataW.trod enc P w 0 (fun _ => true) held fuel t [v] = some (d, p)) : ∃ xs : List Int, RdI w w.heap.size v xs := by
  obtain ⟨fuel, h⟩ := h
  rcases open_ints ht hq cq h with ⟨h0, _⟩ | ⟨a, len, cap, zs, h0, _, h1, h2, h3, _, h4, _⟩
  · simp at h0
    subst h0
    exact ⟨[], none, 0, rfl, Nat.le_refl _, by simp [maxLen], fun h => by simp at h⟩
  · simp at h0
    subst h0
    simp at h3
    refine ⟨zs.take len, some a, cap, by simp [h3, h1], by simp [h3, h1], h2, fun hl => ⟨a, rfl, ?_, fun k hk => ?_⟩⟩
    · simp [h3] at hl
      have := World.block_lt_of_cell? w _ (h4 0 (by omega))
      rwa [block_of_add] at this
    · have hk' : k < len := by rw [List.length_take] at hk; omega
      rw [h4 k (by omega)]
      simp [List.getD_eq_getElem?_getD, hk']

/-- The parts of OwnM, its row of slices named. -/
def OwnMs (w : World) (lo hi : Nat) (v : Value) (m : List (List Int)) (vs : List Value) : Prop :=
  hi ≤ w.heap.size ∧ w.ownsRow lo 26 1 v m.length vs ∧ (∀ k, v.ownBlock = some k → k < hi) ∧
    (∀ i, IRow w lo (vs.getD i nilS) (m.getD i []) ∧ ∀ k, (vs.getD i nilS).ownBlock = some k → k < hi) ∧
    (∀ i j, i < j → ∀ k, (vs.getD i nilS).ownBlock = some k → (vs.getD j nilS).ownBlock ≠ some k)
theorem OwnM.parts {w : World} {lo hi : Nat} {v : Value} {m : List (List Int)} (h : OwnM w lo hi v m) : ∃ vs, OwnMs w lo hi v m vs := by
  obtain ⟨a, vs, b⟩ := h
  exact ⟨vs, a, b⟩
theorem OwnMs.whole {w : World} {lo hi : Nat} {v : Value} {m : List (List Int)} {vs : List Value} (h : OwnMs w lo hi v m vs) : OwnM w lo hi v m := ⟨h.1, vs, h.2⟩
theorem OwnM.empty (w : World) {lo hi : Nat} (h : hi ≤ w.heap.size) : OwnM w lo hi nilS [] :=
  ⟨h, [], World.ownsRow_nil w lo _ _, fun k hk => by simp [Value.ownBlock] at hk, fun i => ⟨IRow.nil _ _, fun k hk => by simp [Value.ownBlock] at hk⟩, fun i j _ k hk => by simp [Value.ownBlock] at hk⟩
theorem getD_snoc {α : Type} (l : List α) (x d : α) (i : Nat) : (l ++ [x]).getD i d = if i < l.length then l.getD i d else if i = l.length then x else d := by
  simp only [List.getD_eq_getElem?_getD, List.getElem?_append]
  split
  · rfl
  · rename_i h
    by_cases e : i = l.length
    · subst e; simp
    · rw [if_neg e, List.getElem?_eq_none (by simp; omega)]; rfl
/-- A row that was made later comes behind the others. -/
theorem OwnMs.snoc {w w' : World} {lo hi : Nat} {v v' r : Value} {m : List (List Int)} {vs : List Value} {xs : List Int} (h : OwnMs w lo hi v m vs) (hr : IRow w hi r xs) (hlo : lo ≤ hi)
    (h' : w'.ownsRow lo 26 1 v' (m.length + 1) (vs ++ [r])) (hg : w.grownBy w' v.ownBlock) : OwnM w' lo w'.heap.size v' (m ++ [xs]) := by
  obtain ⟨h0, h1, h2, h3, h4⟩ := h
  have hl := ownsRow.length h1
  have keep : ∀ (b : Nat) (u : Value) (ys : List Int), IRow w b u ys → IRow w' b u ys := by
    intro b u ys hu
    refine World.ownsRow.kept hu hg ?_
    cases hv : u.ownBlock with
    | none => exact .inl rfl
    | some k => exact .inr fun e => rows_apart h1 hu (k := k) e.symm hv
  have hrl := hr.lt
  refine ⟨Nat.le_refl _, vs ++ [r], by rw [List.length_append]; exact h', fun k hk => (World.ownsRow.lt h' k hk).2, fun i => ?_, fun i j hij k hk => ?_⟩
  · rw [getD_snoc, getD_snoc, hl]
    split
    · exact ⟨keep _ _ _ (h3 i).1, fun k hk => Nat.lt_of_lt_of_le ((h3 i).2 k hk) (Nat.le_trans h0 hg.size)⟩
    · split
      · exact ⟨(keep _ _ _ hr).mono hlo, fun k hk => Nat.lt_of_lt_of_le (hrl k hk).2 hg.size⟩
      · exact ⟨IRow.nil _ _, fun k hk => by simp [Value.ownBlock] at hk⟩
  · rw [getD_snoc] at hk ⊢
    split at hk
    · rename_i hi'
      split
      · exact h4 i j hij k hk
      · split
        · intro hk'
          have := (hrl k hk').1
          have := (h3 i).2 k hk
          omega
        · simp [Value.ownBlock]
    · split at hk
      · rw [if_neg (by omega), if_neg (by omega)]
        simp [Value.ownBlock]
      · simp [Value.ownBlock] at hk
end Go.Proofs.Ythmdkbeccohjkaa
