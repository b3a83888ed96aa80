/- The period of a state: what divides the lengths of all ways back divides what each step tells. Nothing of the code. -/
import Derived.Test.YthmdkbeccohjkaaClsP
namespace Go.Proofs.Ythmdkbeccohjkaa
set_option linter.unusedSimpArgs false
set_option linter.unusedVariables false

theorem Wlk.nonneg {E : Nat → Nat → Bool} {s j : Nat} {d : Int} (h : Wlk E s j d) : 0 ≤ d := by
  induction h with
  | here => exact Int.le_refl 0
  | step _ _ ih => omega
theorem Wlk.trans {E : Nat → Nat → Bool} {s i j : Nat} {a b : Int} (h : Wlk E s i a) (k : Wlk E i j b) : Wlk E s j (a + b) := by
  induction k with
  | here => simpa using h
  | step _ he ih => rw [← Int.add_assoc]; exact ih.step he
theorem Wlk.rch {E : Nat → Nat → Bool} {s j : Nat} {d : Int} (h : Wlk E s j d) : Rch E s j := by
  induction h with
  | here => exact Rch.here
  | step _ he ih => exact ih.step he
theorem Rch.wlk {E : Nat → Nat → Bool} {s j : Nat} (h : Rch E s j) : ∃ d : Nat, Wlk E s j d := by
  induction h with
  | here => exact ⟨0, Wlk.here⟩
  | step _ he ih =>
    obtain ⟨d, hd⟩ := ih
    exact ⟨d + 1, by have := hd.step he; simpa using this⟩
theorem Wlk.lt {E : Nat → Nat → Bool} {n s j : Nat} {d : Int} (hE : ∀ i j, E i j = true → i < n ∧ j < n) (hs : s < n) (h : Wlk E s j d) : j < n := by
  cases h with
  | here => exact hs
  | step _ he => exact (hE _ _ he).2
/-- A walk can be cut behind each number of its steps. -/
theorem Wlk.cut {E : Nat → Nat → Bool} {s j : Nat} : ∀ {L : Nat}, Wlk E s j L → ∀ d : Nat, d ≤ L → ∃ x, Wlk E s x d ∧ Wlk E x j ((L - d : Nat) : Int) := by
  intro L h
  generalize hl : (L : Int) = l at h
  induction h generalizing L with
  | here =>
    intro d hd
    have : d = 0 := by omega
    subst this
    have : L = 0 := by omega
    subst this
    exact ⟨s, Wlk.here, Wlk.here⟩
  | @step i j d0 h1 he ih =>
    intro d hd
    have h0 := h1.nonneg
    rcases Nat.lt_or_ge d L with q | q
    · obtain ⟨x, a, b⟩ := ih (L := L - 1) (by omega) d (by omega)
      refine ⟨x, a, ?_⟩
      have := b.step he
      have e : (((L - 1 - d : Nat) : Int) + 1) = ((L - d : Nat) : Int) := by omega
      rw [e] at this
      exact this
    · have : d = L := by omega
      subst this
      refine ⟨j, ?_, by simpa using Wlk.here⟩
      have := h1.step he
      rw [show d0 + 1 = (d : Int) from by omega] at this
      exact this
/-- Who is reached at all is reached within fewer steps than there are states. -/
theorem short_walk {E : Nat → Nat → Bool} {n s j : Nat} (hE : ∀ i j, E i j = true → i < n ∧ j < n) (hs : s < n) (h : Rch E s j) : ∃ d : Nat, d < n ∧ Wlk E s j d := by
  obtain ⟨D, hD⟩ := h.wlk
  have key : ∀ k : Nat, ∀ d : Nat, d ≤ k → Wlk E s j d → ∃ d : Nat, Wlk E s j d ∧ ∀ d' : Nat, Wlk E s j d' → d ≤ d' := by
    intro k
    induction k with
    | zero =>
      intro d hd hw
      exact ⟨d, hw, fun d' _ => by omega⟩
    | succ k ih =>
      intro d hd hw
      by_cases hx : ∃ d' : Nat, d' < d ∧ Wlk E s j d'
      · obtain ⟨d', q1, q2⟩ := hx
        exact ih d' (by omega) q2
      · exact ⟨d, hw, fun d' q => by
          rcases Nat.lt_or_ge d' d with r | r
          · exact absurd ⟨d', r, q⟩ hx
          · exact r⟩
  obtain ⟨L, hL, hmin⟩ := key D D (Nat.le_refl _) hD
  refine ⟨L, ?_, hL⟩
  have hc : ∀ d : Nat, ∃ x, d ≤ L → Wlk E s x d ∧ Wlk E x j ((L - d : Nat) : Int) := fun d => by
    by_cases hd : d ≤ L
    · obtain ⟨x, a⟩ := hL.cut d hd
      exact ⟨x, fun _ => a⟩
    · exact ⟨0, fun q => absurd q hd⟩
  have hnode := fun d => Classical.choose_spec (hc d)
  have hnd : ((List.range (L + 1)).map fun d => Classical.choose (hc d)).Nodup := by
    unfold List.Nodup
    rw [List.pairwise_map]
    refine List.Pairwise.imp_of_mem ?_ (List.pairwise_lt_range (n := L + 1))
    intro x y hx hy hlt e
    have hx' := List.mem_range.1 hx
    have hy' := List.mem_range.1 hy
    have a := (hnode x (by omega)).1
    have b := (hnode y (by omega)).2
    rw [← e] at b
    have c := a.trans b
    have e2 : ((x : Int) + ((L - y : Nat) : Int)) = ((x + (L - y) : Nat) : Int) := by omega
    rw [e2] at c
    have := hmin _ c
    omega
  have := nodup_lt_length (n := n) hnd (fun x hx => by
    obtain ⟨d, hd, rfl⟩ := List.mem_map.1 hx
    have hd' := List.mem_range.1 hd
    exact Wlk.lt hE hs (hnode d (by omega)).1)
  simp at this
  omega

/-- p divides the length of each way back of at most so many steps. -/
def dvA (E : Nat → Nat → Bool) (s K p : Nat) : Prop := ∀ L : Nat, 1 ≤ L → L ≤ K → Wlk E s s L → p ∣ L
/-- p divides what each step within the class tells. -/
def dvB (E : Nat → Nat → Bool) (C : Nat → Bool) (far : List Int) (p : Nat) : Prop := ∀ i k, C i = true → C k = true → E i k = true → (p : Int) ∣ far.getD i 0 + 1 - far.getD k 0
theorem cls_rch {lim : Int} {m : List (List Int)} (hg : Good lim m) {s i : Nat} : clsB m s i = true ↔ Rch (edgeB m) s i ∧ Rch (edgeB m) i s := by
  have hE : ∀ i j, edgeB m i j = true → i < m.length := fun i j h => (edge_in hg h).1
  unfold clsB rchB
  rw [Bool.and_eq_true, thr_iff _ _ hE, thr_iff _ _ hE]
theorem dvA_dvB {lim : Int} {m : List (List Int)} (hg : Good lim m) {s p : Nat} (hs : s < m.length) {far : List Int} (h1 : FarOf m s far) (h2 : FarW m s far) (h : dvA (edgeB m) s (3 * m.length) p) : dvB (edgeB m) (clsB m s) far p := by
  intro i k ci ck he
  have hE : ∀ i j, edgeB m i j = true → i < m.length ∧ j < m.length := fun i j h => edge_in hg h
  obtain ⟨hi, hk⟩ := hE _ _ he
  have ri := ((cls_rch hg).1 ci).1
  have rk := (cls_rch hg).1 ck
  have fi : 0 ≤ far.getD i 0 := by
    have := (h1.2 i hi).2
    rw [show thr (edgeB m) m.length s i = true from (thr_iff _ _ (fun i j h => (hE i j h).1) _ _).2 ri] at this
    simpa using this
  have fk : 0 ≤ far.getD k 0 := by
    have := (h1.2 k hk).2
    rw [show thr (edgeB m) m.length s k = true from (thr_iff _ _ (fun i j h => (hE i j h).1) _ _).2 rk.1] at this
    simpa using this
  obtain ⟨r, hr, wr⟩ := short_walk hE hk rk.2
  have li := (h1.2 i hi).1.2
  have lk := (h1.2 k hk).1.2
  have w1 := ((h2.2.1 i hi fi).step he).trans wr
  have w2 := (h2.2.1 k hk fk).trans wr
  obtain ⟨a, ha⟩ : ∃ a : Nat, (a : Int) = far.getD i 0 + 1 + r := ⟨(far.getD i 0 + 1 + r).toNat, by omega⟩
  obtain ⟨b, hb⟩ : ∃ b : Nat, (b : Int) = far.getD k 0 + r := ⟨(far.getD k 0 + r).toNat, by omega⟩
  rw [← ha] at w1
  rw [← hb] at w2
  have da : (p : Int) ∣ (a : Int) := Int.ofNat_dvd.2 (h a (by omega) (by omega) w1)
  have db : (p : Int) ∣ (b : Int) := by
    rcases Nat.eq_zero_or_pos b with q | q
    · rw [q]; exact Int.dvd_zero _
    · exact Int.ofNat_dvd.2 (h b q (by omega) w2)
  have e : far.getD i 0 + 1 - far.getD k 0 = (a : Int) - (b : Int) := by omega
  rw [e]
  exact Int.dvd_sub da db
theorem dvB_dvA {lim : Int} {m : List (List Int)} (hg : Good lim m) {s p : Nat} {far : List Int} (h2 : FarW m s far) (h : dvB (edgeB m) (clsB m s) far p) (K : Nat) : dvA (edgeB m) s K p := by
  have key : ∀ j d, Wlk (edgeB m) s j d → Rch (edgeB m) j s → (p : Int) ∣ d - far.getD j 0 := by
    intro j d hw
    induction hw with
    | here => intro _; rw [h2.1]; simp
    | @step i j d0 h1 he ih =>
      intro hj
      have hi : Rch (edgeB m) i s := (Rch.here.step he).trans hj
      have a := ih hi
      have b := h i j ((cls_rch hg).2 ⟨h1.rch, hi⟩) ((cls_rch hg).2 ⟨h1.rch.step he, hj⟩) he
      have e : d0 + 1 - far.getD j 0 = (d0 - far.getD i 0) + (far.getD i 0 + 1 - far.getD j 0) := by omega
      rw [e]
      exact Int.dvd_add a b
  intro L _ _ hw
  have := key s L hw Rch.here
  rw [h2.1, Int.sub_zero] at this
  exact Int.ofNat_dvd.1 this
end Go.Proofs.Ythmdkbeccohjkaa
