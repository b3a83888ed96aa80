/- Answers one after the other: what is of no program. -/
import Derived.Test.YthaoelenleedmaaDoorBsA
import Derived.Maps.OwnSet
import Derived.Maps.OwnOps
import Derived.StringKeys
namespace Go.Proofs.YthaoelenleedmaaDoor
set_option linter.unusedSimpArgs false
open Go.ChangeShapes Go.WideShapes Go.ChangeAt Go.RowKit Go.Maps Go.Sort
set_option linter.unusedVariables false

theorem fold_pick {h o : Int} {a : ByteArray} : ∀ (l : List ByteArray) (st : BS), (l.foldl (bstS h o a) st).1 = st.1 ∨ (l.foldl (bstS h o a) st).1 ∈ l
  | [], st => .inl rfl
  | p :: l, st => by
    rw [List.foldl_cons]
    rcases fold_pick l (bstS h o a st p) with e | e
    · rw [e]
      unfold bstS
      split
      · right; simp
      · left; rfl
    · right; exact List.mem_cons_of_mem _ e
theorem allTx_two (n : Nat) (a : ByteArray) : ∃ p ∈ allTx (n + 1), p ≠ a := by
  have hne : allTx n ≠ [] := by
    intro e
    have := allTx_len n
    rw [e] at this
    have h2 : 0 < 2 ^ n := Nat.two_pow_pos n
    simp at this
    omega
  obtain ⟨t, ht⟩ := List.exists_mem_of_ne_nil _ hne
  have m1 : t ++ ⟨#[104]⟩ ∈ allTx (n + 1) := by
    show _ ∈ dubS (allTx n)
    unfold dubS
    rw [List.mem_flatMap]
    exact ⟨t, ht, by simp⟩
  have m2 : t ++ ⟨#[116]⟩ ∈ allTx (n + 1) := by
    show _ ∈ dubS (allTx n)
    unfold dubS
    rw [List.mem_flatMap]
    exact ⟨t, ht, by simp⟩
  by_cases e : t ++ ⟨#[104]⟩ = a
  · refine ⟨_, m2, fun e2 => ?_⟩
    have := ba_eq.1 (e.trans e2.symm)
    simp at this
  · exact ⟨_, m1, e⟩
theorem riv_ne {a : ByteArray} (hs : 1 ≤ a.size) : rivL a ≠ [] := by
  intro hn
  obtain ⟨n, e⟩ : ∃ n, a.size = n + 1 := ⟨a.size - 1, by omega⟩
  obtain ⟨p, hp, hne⟩ := allTx_two n a
  have := List.filter_eq_nil_iff.1 hn p (by rw [e]; exact hp)
  simp at this
  exact hne this
/-- The best answer is one of the others. -/
theorem bst_mem {h o : Int} {a : ByteArray} (g : rcG h o = true) (ha : racG a = true) : (bst h o a).1 ∈ rivL a := by
  obtain ⟨r1, r2, r3⟩ := rac_in ha
  unfold bst
  cases hl : rivL a with
  | nil => exact absurd hl (riv_ne r1)
  | cons p l =>
    rw [List.foldl_cons]
    have hp : p ∈ rivL a := by rw [hl]; simp
    have ht := riv_mem hp
    obtain ⟨o1, _, o3, _⟩ := od_all g (rac_two ha ht.1 ht.2)
    have e : bstS h o a bst0 p = (p, odF h o p a, odO h o p a) := bstS_yes (by unfold bst0; simp; omega)
    rw [e]
    rcases fold_pick l (p, odF h o p a, odO h o p a) with e2 | e2
    · rw [e2]; simp
    · exact List.mem_cons_of_mem _ e2
def chn_ (h o : Int) (a : ByteArray) : Nat → ByteArray
  | 0 => a
  | i + 1 => (bst h o (chn_ h o a i)).1
theorem chn_in {h o : Int} {a : ByteArray} (g : rcG h o = true) (ha : racG a = true) : ∀ i, racG (chn_ h o a i) = true ∧ (chn_ h o a i).size = a.size
  | 0 => ⟨ha, rfl⟩
  | i + 1 => by
    obtain ⟨p1, p2⟩ := chn_in g ha i
    have hm := riv_mem (bst_mem g p1)
    obtain ⟨q1, _, q3, _⟩ := two_in (rac_two p1 hm.1 hm.2)
    exact ⟨q1, q3.trans p2⟩
theorem nodup_ltL : ∀ {n : Nat} {q : List Nat}, q.Nodup → (∀ x ∈ q, x < n) → q.length ≤ n
  | 0, q, _, hl => by
    cases q with
    | nil => simp
    | cons a l => have := hl a (by simp); omega
  | n + 1, q, h, hl => by
    by_cases hm : n ∈ q
    · have h1 := nodup_ltL (n := n) (h.erase n) (fun x hx => by
        obtain ⟨h2, h3⟩ := (h.mem_erase_iff).1 hx
        have := hl x h3
        omega)
      rw [List.length_erase_of_mem hm] at h1
      omega
    · have := nodup_ltL (n := n) h (fun x hx => by
        have := hl x hx
        have : x ≠ n := fun e => hm (e ▸ hx)
        omega)
      omega
/-- Is a text among the first i ones? -/
def seenB (h o : Int) (a : ByteArray) (i : Nat) (t : ByteArray) : Bool := (List.range i).any fun j => decide (chn_ h o a j = t)
def stopB (h o : Int) (a : ByteArray) (i : Nat) : Bool := seenB h o a i (chn_ h o a i)
theorem seen_iff {h o : Int} {a : ByteArray} {i : Nat} {t : ByteArray} : seenB h o a i t = true ↔ ∃ j, j < i ∧ chn_ h o a j = t := by
  unfold seenB
  rw [List.any_eq_true]
  constructor
  · rintro ⟨j, hj, e⟩; exact ⟨j, List.mem_range.1 hj, by simpa using e⟩
  · rintro ⟨j, hj, e⟩; exact ⟨j, List.mem_range.2 hj, by simpa using e⟩
theorem seen_succ (h o : Int) (a : ByteArray) (i : Nat) (t : ByteArray) : seenB h o a (i + 1) t = (seenB h o a i t || decide (chn_ h o a i = t)) := by
  unfold seenB
  rw [List.range_succ, List.any_append]
  simp
/-- None of the first i texts comes twice. -/
def freshN (h o : Int) (a : ByteArray) (i : Nat) : Prop := ∀ j, j < i → stopB h o a j = false
theorem fresh_le {h o : Int} {a : ByteArray} (g : rcG h o = true) (ha : racG a = true) {i : Nat} (hf : freshN h o a i) : i ≤ 33 := by
  obtain ⟨r1, r2, r3⟩ := rac_in ha
  have hmem : ∀ j, chn_ h o a (j + 1) ∈ allTx a.size := by
    intro k
    obtain ⟨p1, p2⟩ := chn_in g ha k
    have := (riv_mem (bst_mem g p1)).1
    rw [p2] at this
    exact this
  have hmem' : ∀ j, (chn_ h o a (j + 1)).data.toList ∈ (allTx a.size).map fun t => t.data.toList := fun j => List.mem_map.2 ⟨_, hmem j, rfl⟩
  have hL : ((allTx a.size).map fun t => t.data.toList).length ≤ 32 := by
    rw [List.length_map, allTx_len]
    exact Nat.pow_le_pow_right (n := 2) (by omega) (show a.size ≤ 5 from r2)
  have hnd : ((List.range (i - 1)).map fun j => ((allTx a.size).map fun t => t.data.toList).idxOf (chn_ h o a (j + 1)).data.toList).Nodup := by
    unfold List.Nodup
    rw [List.pairwise_map]
    refine List.Pairwise.imp_of_mem ?_ (List.pairwise_lt_range (n := i - 1))
    intro x y hx hy hlt e
    have hy' := List.mem_range.1 hy
    have e1 : chn_ h o a (x + 1) = chn_ h o a (y + 1) := by
      have hx1 := List.idxOf_lt_length_of_mem (hmem' x)
      have hy1 := List.idxOf_lt_length_of_mem (hmem' y)
      have g1 := List.getElem_idxOf hx1
      have g2 := List.getElem_idxOf hy1
      refine ba_eq.2 ?_
      rw [← g1, ← g2]
      congr 1
    have hs := hf (y + 1) (by omega)
    unfold stopB at hs
    rw [seen_iff.2 ⟨x + 1, by omega, e1⟩] at hs
    cases hs
  have := nodup_ltL (n := 32) hnd (fun x hx => by
    rw [List.mem_map] at hx
    obtain ⟨j, _, rfl⟩ := hx
    exact Nat.lt_of_lt_of_le (List.idxOf_lt_length_of_mem (hmem' j)) hL)
  simp at this
  omega
/-- The answers up to the i-th. -/
def ansL (h o : Int) (a : ByteArray) (i : Nat) : List ByteArray := (List.range i).map fun j => chn_ h o a (j + 1)
theorem ansL_succ (h o : Int) (a : ByteArray) (i : Nat) : ansL h o a (i + 1) = ansL h o a i ++ [chn_ h o a (i + 1)] := by simp [ansL, List.range_succ]
theorem ansL_len (h o : Int) (a : ByteArray) (i : Nat) : (ansL h o a i).length = i := by simp [ansL]
/-- The first index at which a text comes again. -/
def stN (h o : Int) (a : ByteArray) : Nat := ((List.range 40).find? fun i => stopB h o a i).getD 0
theorem st_all {h o : Int} {a : ByteArray} (g : rcG h o = true) (ha : racG a = true) : 1 ≤ stN h o a ∧ stN h o a ≤ 33 ∧ stopB h o a (stN h o a) = true ∧ freshN h o a (stN h o a) := by
  cases hf : (List.range 40).find? fun i => stopB h o a i with
  | none =>
    rw [List.find?_eq_none] at hf
    have := fresh_le (i := 40) g ha (fun j hj => by
      have := hf j (List.mem_range.2 hj)
      simpa using this)
    omega
  | some i =>
    have e : stN h o a = i := by unfold stN; rw [hf]; rfl
    rw [List.find?_range_eq_some] at hf
    obtain ⟨h1, h2, h3⟩ := hf
    have hfr : freshN h o a i := fun j hj => by have := h3 j hj; simpa using this
    rw [e]
    refine ⟨?_, fresh_le g ha hfr, h1, hfr⟩
    rcases Nat.eq_zero_or_pos i with hz | hp
    · subst hz
      unfold stopB seenB at h1
      simp at h1
    · exact hp
def ansA (h o : Int) (a : ByteArray) : List ByteArray := if oneG h o a then ansL h o a (stN h o a) else []
theorem ansA_len (h o : Int) (a : ByteArray) : (ansA h o a).length ≤ 33 := by
  unfold ansA
  split
  · rename_i g
    obtain ⟨g1, g2, _⟩ := one_in g
    rw [ansL_len]
    exact (st_all g1 g2).2.1
  · simp
/-- A text is seen among the first i+1 ones if it is the first one or among the answers. -/
theorem seen_ans (h o : Int) (a t : ByteArray) (i : Nat) : seenB h o a (i + 1) t = (decide (t = a) || (ansL h o a i).any fun x => decide (x = t)) := by
  unfold seenB ansL
  rw [Bool.eq_iff_iff, List.any_eq_true, Bool.or_eq_true, List.any_eq_true, decide_eq_true_iff]
  constructor
  · rintro ⟨j, hj, e⟩
    have hj' := List.mem_range.1 hj
    have e' : chn_ h o a j = t := by simpa using e
    cases j with
    | zero => left; exact e'.symm
    | succ k => right; exact ⟨chn_ h o a (k + 1), List.mem_map.2 ⟨k, List.mem_range.2 (by omega), rfl⟩, by simpa using e'⟩
  · rintro (e | ⟨x, hx, e⟩)
    · exact ⟨0, List.mem_range.2 (by omega), decide_eq_true (show chn_ h o a 0 = t from e.symm)⟩
    · obtain ⟨k, hk, rfl⟩ := List.mem_map.1 hx
      have hk' := List.mem_range.1 hk
      exact ⟨k + 1, List.mem_range.2 (by omega), e⟩
/-- Behind one step more: either it stops there or it is still fresh. -/
theorem st_step {h o : Int} {a : ByteArray} (g : rcG h o = true) (ha : racG a = true) {i : Nat} (hi : i < stN h o a) : (stopB h o a (i + 1) = true ↔ i + 1 = stN h o a) := by
  obtain ⟨_, _, s3, s4⟩ := st_all g ha
  constructor
  · intro q
    rcases Nat.lt_or_ge (i + 1) (stN h o a) with hlt | hge
    · have := s4 _ hlt
      rw [q] at this
      cases this
    · omega
  · intro q; rw [q]; exact s3
abbrev MDS := DataW Unit
def kS (t : ByteArray) : Lit := .string t.data.toList
theorem kS_eq {s t : ByteArray} (h : kS s = kS t) : s = t := by
  have h1 : s.data.toList = t.data.toList := by injection h
  exact ba_eq.2 h1
abbrev litB (x : Bool) : MDS := .lit (.bool x)
structure MB (D : MDS) (h o : Int) (a : ByteArray) (i : Nat) : Prop where
  map : Maps.IsMap D
  at_ : ∀ t, D.atKey (kS t) (litB false) = litB (seenB h o a i t)
theorem MB.nil (h o : Int) (a : ByteArray) : MB (.map []) h o a 0 :=
  ⟨⟨[], rfl⟩, fun t => by unfold seenB; rfl⟩
theorem MB.put {D : MDS} {h o : Int} {a : ByteArray} {i : Nat} (m : MB D h o a i) : MB (D.put (kS (chn_ h o a i)) (litB true)) h o a (i + 1) := by
  refine ⟨m.map.put _ _, fun t => ?_⟩
  rw [seen_succ]
  by_cases e : chn_ h o a i = t
  · subst e
    rw [Maps.atKey_put_same m.map (show WideAt.IsKeyLit (kS _) from trivial)]
    simp
  · rw [Maps.atKey_put_other (fun q => e (kS_eq q).symm), m.at_ t]
    simp [e]
end Go.Proofs.YthaoelenleedmaaDoor
