/- Classes of states, each under its first one: what is of no program. -/
import Derived.Test.YthmdkbeccohjkaaLast
import Derived.Maps.OwnSet
import Derived.Maps.GroupsBeside
namespace Go.Proofs.Ythmdkbeccohjkaa
set_option linter.unusedSimpArgs false
open Go.ChangeShapes Go.WideShapes Go.ChangeAt Go.RowKit
set_option linter.unusedVariables false

theorem rch_refl (m : List (List Int)) (i : Nat) : rchB m i i = true := thr_refl _ _ _
theorem rch_trans {lim : Int} {m : List (List Int)} (hg : Good lim m) {i j k : Nat} (h1 : rchB m i j = true) (h2 : rchB m j k = true) : rchB m i k = true := by
  have hE : ∀ i j, edgeB m i j = true → i < m.length := fun i j h => (edge_in hg h).1
  unfold rchB at *
  rw [thr_iff _ _ hE] at *
  exact h1.trans h2
theorem cls_refl (m : List (List Int)) (i : Nat) : clsB m i i = true := clsB_yes (rch_refl m i) (rch_refl m i)
theorem cls_symm {m : List (List Int)} {i j : Nat} (h : clsB m i j = true) : clsB m j i = true := by
  unfold clsB at *
  rw [Bool.and_eq_true] at *
  exact ⟨h.2, h.1⟩
theorem cls_trans {lim : Int} {m : List (List Int)} (hg : Good lim m) {i j k : Nat} (h1 : clsB m i j = true) (h2 : clsB m j k = true) : clsB m i k = true := by
  unfold clsB at *
  rw [Bool.and_eq_true] at *
  exact ⟨rch_trans hg h1.1 h2.1, rch_trans hg h2.2 h1.2⟩
/-- The least number below n that is told by p; n if there is none. -/
def leastB (p : Nat → Bool) : Nat → Nat
  | 0 => 0
  | n + 1 => if leastB p n < n then leastB p n else if p n then n else n + 1
theorem leastB_spec (p : Nat → Bool) : ∀ n, leastB p n ≤ n ∧ (∀ j, j < leastB p n → p j = false) ∧ (leastB p n < n → p (leastB p n) = true)
  | 0 => ⟨Nat.le_refl _, fun j hj => absurd hj (Nat.not_lt_zero j), fun h => absurd h (Nat.lt_irrefl _)⟩
  | n + 1 => by
    obtain ⟨a, b, c⟩ := leastB_spec p n
    unfold leastB
    split
    · rename_i h; exact ⟨by omega, b, fun _ => c h⟩
    · rename_i h
      have e : leastB p n = n := by omega
      rw [e] at b
      split
      · rename_i h2; exact ⟨by omega, b, fun _ => h2⟩
      · rename_i h2
        refine ⟨Nat.le_refl _, fun j hj => ?_, fun h => absurd h (Nat.lt_irrefl _)⟩
        by_cases q : j = n
        · subst q; simpa using h2
        · exact b j (by omega)
/-- The first state of the class of one. -/
def frs (m : List (List Int)) (s : Nat) : Nat := leastB (fun f => clsB m f s) (s + 1)
theorem frs_spec (m : List (List Int)) (s : Nat) : frs m s ≤ s ∧ clsB m (frs m s) s = true ∧ ∀ j, j < frs m s → clsB m j s = false := by
  obtain ⟨a, b, c⟩ := leastB_spec (fun f => clsB m f s) (s + 1)
  have hle : frs m s ≤ s := by
    rcases Nat.lt_or_ge s (frs m s) with h | h
    · have := b s h
      rw [cls_refl] at this
      cases this
    · exact h
  exact ⟨hle, c (by show frs m s < s + 1; omega), b⟩
theorem frs_eq {m : List (List Int)} {s f : Nat} (h1 : clsB m f s = true) (h2 : ∀ j, j < f → clsB m j s = false) : f = frs m s := by
  obtain ⟨a, b, c⟩ := frs_spec m s
  rcases Nat.lt_trichotomy f (frs m s) with q | q | q
  · rw [c f q] at h1; cases h1
  · exact q
  · rw [h2 _ q] at b; cases b
theorem frs_idem {lim : Int} {m : List (List Int)} (hg : Good lim m) (s : Nat) : frs m (frs m s) = frs m s := by
  obtain ⟨a, b, c⟩ := frs_spec m s
  refine (frs_eq (cls_refl m _) fun j hj => ?_).symm
  cases h : clsB m j (frs m s)
  · rfl
  · have := cls_trans hg h b
    rw [c j hj] at this
    cases this
/-- The states below s of the class with the first state f. -/
def grp (m : List (List Int)) (f s : Nat) : List Int := selK (fun t => frs m t == f) s
/-- How many first states there are below s. -/
def ldr (m : List (List Int)) : Nat → Nat
  | 0 => 0
  | s + 1 => ldr m s + (if frs m s = s then 1 else 0)
theorem ldr_le (m : List (List Int)) : ∀ s, ldr m s ≤ s
  | 0 => Nat.le_refl _
  | s + 1 => by have := ldr_le m s; unfold ldr; split <;> omega
theorem frs_zero (m : List (List Int)) : frs m 0 = 0 := by have := (frs_spec m 0).1; omega
theorem ldr_pos (m : List (List Int)) : ∀ s, 1 ≤ ldr m (s + 1)
  | 0 => by unfold ldr; rw [frs_zero]; simp [ldr]
  | s + 1 => by have := ldr_pos m s; unfold ldr; omega
theorem ldr_one {m : List (List Int)} : ∀ s, ldr m (s + 1) = 1 → ∀ t, t ≤ s → frs m t = t → t = 0
  | 0, _, t, ht, _ => by omega
  | s + 1, h, t, ht, hf => by
    have hp := ldr_pos m s
    unfold ldr at h
    split at h
    · omega
    · rename_i hn
      by_cases e : t = s + 1
      · subst e; exact absurd hf hn
      · exact ldr_one s (by omega) t (by omega) hf
theorem ldr_all {m : List (List Int)} : ∀ s, (∀ t, t ≤ s → frs m t = 0) → ldr m (s + 1) = 1
  | 0, h => by unfold ldr; rw [h 0 (Nat.le_refl _)]; simp [ldr]
  | s + 1, h => by
    have ih := ldr_all s (fun t ht => h t (by omega))
    unfold ldr
    rw [ih, h (s + 1) (Nat.le_refl _)]
    simp
theorem selK_full {p : Nat → Bool} : ∀ n, (selK p n).length = n → ∀ t, t < n → p t = true
  | 0, _, t, ht => absurd ht (Nat.not_lt_zero t)
  | n + 1, h, t, ht => by
    have hl := selK_len p n
    cases hp : p n
    · rw [selK_no hp] at h; omega
    · rw [selK_yes hp] at h
      simp at h
      by_cases e : t = n
      · subst e; exact hp
      · exact selK_full n h t (by omega)
theorem selK_allY {p : Nat → Bool} : ∀ n, (∀ t, t < n → p t = true) → (selK p n).length = n
  | 0, _ => by simp [selK]
  | n + 1, h => by
    rw [selK_yes (h n (by omega))]
    simp [selK_allY n (fun t ht => h t (by omega))]
/-- There is one class. -/
theorem one_iff {lim : Int} {m : List (List Int)} (hg : Good lim m) (hm : 0 < m.length) : (ldr m m.length == 1) = ((selK (clsB m 0) m.length).length == m.length) := by
  obtain ⟨n, hn⟩ : ∃ n, m.length = n + 1 := ⟨m.length - 1, by omega⟩
  rw [hn, Bool.eq_iff_iff]
  simp only [beq_iff_eq]
  constructor
  · intro h
    refine selK_allY _ fun t ht => ?_
    have e := ldr_one n h (frs m t) (by have := (frs_spec m t).1; omega) (frs_idem hg t)
    have := (frs_spec m t).2.1
    rw [e] at this
    exact this
  · intro h
    refine ldr_all n fun t ht => ?_
    have := selK_full (n + 1) h t (by omega)
    exact (frs_eq this fun j hj => absurd hj (Nat.not_lt_zero j)).symm
def kI (f : Nat) : Lit := .int .i64 f
theorem kI_inj {f g : Nat} (h : kI f = kI g) : f = g := by
  injection h with _ h
  omega
abbrev MDG := DataW Unit
/-- The map holds the classes of the states below s. -/
structure CD (D : MDG) (m : List (List Int)) (s : Nat) : Prop where
  tidy : Maps.Tidy D
  at_ : ∀ f : Nat, D.atKey (kI f) .nil = if grp m f s = [] then .nil else .slice (lits .i64 (grp m f s)) []
  has : ∀ kl, Maps.has D kl = true ↔ ∃ t, t < s ∧ kl = kI (frs m t)
  size : Maps.size D = ldr m s
theorem CD.nil (m : List (List Int)) : CD (.map []) m 0 := ⟨Maps.tidy_empty, fun f => by unfold grp selK; rfl, fun kl => ⟨fun h => (by cases h), fun ⟨t, ht, _⟩ => absurd ht (Nat.not_lt_zero t)⟩, rfl⟩
theorem CD.put {lim : Int} {D : MDG} {m : List (List Int)} {s : Nat} (hg : Good lim m) (h : CD D m s) : CD (D.put (kI (frs m s)) (.slice (lits .i64 (grp m (frs m s) s ++ [(s : Int)])) [])) m (s + 1) := by
  have hself : grp m (frs m s) (s + 1) = grp m (frs m s) s ++ [(s : Int)] := selK_yes (by simp)
  have hoth : ∀ f, f ≠ frs m s → grp m f (s + 1) = grp m f s := fun f hf => selK_no (by simp; exact fun e => hf e.symm)
  refine ⟨h.tidy.put (show WideAt.IsKeyLit (kI (frs m s)) from trivial) _, fun f => ?_, fun kl => ?_, ?_⟩
  · by_cases e : f = frs m s
    · subst e
      rw [Maps.atKey_put_same h.tidy.isMap (show WideAt.IsKeyLit (kI (frs m s)) from trivial), hself, if_neg (by simp)]
    · rw [Maps.atKey_put_other (fun q => e (kI_inj q)), h.at_ f, hoth f e]
  · constructor
    · intro hh
      by_cases e : kl = kI (frs m s)
      · exact ⟨s, by omega, e⟩
      · rw [Maps.has_put_other e] at hh
        obtain ⟨t, ht, e2⟩ := (h.has kl).1 hh
        exact ⟨t, by omega, e2⟩
    · rintro ⟨t, ht, rfl⟩
      by_cases e : kI (frs m t) = kI (frs m s)
      · rw [e]; exact Maps.has_put_same h.tidy.isMap (show WideAt.IsKeyLit (kI (frs m s)) from trivial) _
      · rw [Maps.has_put_other e]
        refine (h.has _).2 ⟨t, ?_, rfl⟩
        rcases Nat.lt_or_ge t s with q | q
        · exact q
        · have : t = s := by omega
          subst this; exact absurd rfl e
  · rw [Maps.size_put h.tidy, h.size, show ldr m (s + 1) = ldr m s + (if frs m s = s then 1 else 0) from rfl]
    by_cases e : frs m s = s
    · rw [if_pos e, if_neg]
      intro hh
      obtain ⟨t, ht, e2⟩ := (h.has _).1 hh
      have := kI_inj e2
      have := (frs_spec m t).1
      omega
    · rw [if_neg e, if_pos, Nat.add_zero]
      refine (h.has _).2 ⟨frs m s, ?_, by rw [frs_idem hg]⟩
      have := (frs_spec m s).1
      omega
theorem lits_inj {q : IntKind} : ∀ {a b : List Int}, (lits q a : List MDG) = lits q b → a = b
  | [], [], _ => rfl
  | [], _ :: _, h => by cases h
  | _ :: _, [], h => by cases h
  | x :: a, y :: b, h => by
    unfold lits at h
    simp only [List.map_cons, List.cons.injEq] at h
    obtain ⟨h1, h2⟩ := h
    injection h1 with h1
    injection h1 with _ h1
    rw [h1, lits_inj (show (lits q a : List MDG) = lits q b from h2)]
/-- What a row of the map holds, by how it reads. -/
theorem grp_of {D : MDG} {m : List (List Int)} {s f : Nat} {w : World} {base : Nat} {v : Value} {zs : List Int} (h : CD D m s) (ht : D.atKey (kI f) .nil = rowDatum .i64 v zs) (ho : w.ownsInts base 3 .i64 v zs) : zs = grp m f s := by
  rw [h.at_ f] at ht
  rcases ho.1.2 with ⟨rfl, h0⟩ | ⟨g, cap, cur, rfl, _⟩
  · have e : zs = [] := List.eq_nil_of_length_eq_zero h0
    subst e
    split at ht
    · rename_i q; exact q.symm
    · cases ht
  · split at ht
    · cases ht
    · have e : (DataW.slice (lits .i64 (grp m f s)) [] : MDG) = .slice (lits .i64 zs) [] := ht
      injection e with e1 _
      exact (lits_inj e1).symm
end Go.Proofs.Ythmdkbeccohjkaa
