/- Plain mathematics of states: sums of rows, chances behind steps, what is reached. Nothing of the code. -/
import Derived.Test.YthmdkbeccohjkaaMem
namespace Go.Proofs.Ythmdkbeccohjkaa
set_option linter.unusedSimpArgs false
set_option linter.unusedVariables false

/-- The chance, as a numerator, that state j follows state i. -/
def atM (m : List (List Int)) (i j : Nat) : Int := (m.getD i []).getD j 0
def rowB (lim : Int) (n : Nat) (r : List Int) : Bool := decide (r.length = n) && r.all (fun x => inB x 0 lim) && decide (r.sum = lim)
/-- Whether they are states. -/
def saG (lim : Int) (m : List (List Int)) : Bool := inB lim 1 10 && inB (m.length : Int) 1 5 && m.all (rowB lim m.length)
structure Good (lim : Int) (m : List (List Int)) : Prop where
  lo : 1 ≤ lim
  hi : lim ≤ 10
  one : 1 ≤ m.length
  five : m.length ≤ 5
  row : ∀ i, i < m.length → (m.getD i []).length = m.length
  num : ∀ i j, 0 ≤ atM m i j ∧ atM m i j ≤ lim
  sum : ∀ i, i < m.length → (m.getD i []).sum = lim
theorem getD_out {α : Type} (l : List α) (i : Nat) (d : α) (h : l.length ≤ i) : l.getD i d = d := by
  rw [List.getD_eq_getElem?_getD, List.getElem?_eq_none h]; rfl
theorem getD_in {α : Type} (l : List α) (i : Nat) (d : α) (h : i < l.length) : l.getD i d ∈ l := by
  rw [List.getD_eq_getElem?_getD, List.getElem?_eq_getElem h]; exact List.getElem_mem h
theorem good_of {lim : Int} {m : List (List Int)} (h : saG lim m = true) : Good lim m := by
  simp only [saG, Bool.and_eq_true, inB_iff, List.all_eq_true] at h
  obtain ⟨⟨⟨h1, h2⟩, h3, h4⟩, h5⟩ := h
  have hr : ∀ i, i < m.length → rowB lim m.length (m.getD i []) = true := fun i hi => h5 _ (getD_in m i [] hi)
  simp only [rowB, Bool.and_eq_true, decide_eq_true_eq, List.all_eq_true, inB_iff] at hr
  refine ⟨h1, h2, by omega, by omega, fun i hi => (hr i hi).1.1, fun i j => ?_, fun i hi => (hr i hi).2⟩
  unfold atM
  rcases Nat.lt_or_ge i m.length with hi | hi
  · rcases Nat.lt_or_ge j (m.getD i []).length with hj | hj
    · exact (hr i hi).1.2 _ (getD_in _ j 0 hj)
    · rw [getD_out _ _ _ hj]; omega
  · rw [getD_out m i [] hi]; simp; omega
/-- The first k rows are right. -/
def preB (lim : Int) (m : List (List Int)) (k : Nat) : Prop := ∀ i, i < k → rowB lim m.length (m.getD i []) = true
theorem pre_all {lim : Int} {m : List (List Int)} (h1 : inB lim 1 10 = true) (h2 : inB (m.length : Int) 1 5 = true) (h : preB lim m m.length) : saG lim m = true := by
  simp only [saG, h1, h2, Bool.true_and, List.all_eq_true]
  intro r hr
  obtain ⟨i, hi, e⟩ := List.getElem_of_mem hr
  have := h i hi
  rwa [List.getD_eq_getElem?_getD, List.getElem?_eq_getElem hi, Option.getD_some, e] at this
theorem pre_no {lim : Int} {m : List (List Int)} {k : Nat} (hk : k < m.length) (h : rowB lim m.length (m.getD k []) = false) : saG lim m = false := by
  cases hs : saG lim m with
  | false => rfl
  | true =>
    simp only [saG, Bool.and_eq_true, List.all_eq_true] at hs
    have := hs.2 _ (getD_in m k [] hk)
    rw [h] at this; cases this
theorem pre_next {lim : Int} {m : List (List Int)} {k : Nat} (h : preB lim m k) (h' : rowB lim m.length (m.getD k []) = true) : preB lim m (k + 1) := by
  intro i hi
  rcases Nat.lt_or_ge i k with h1 | h1
  · exact h i h1
  · obtain rfl : i = k := by omega
    exact h'
/-- The sum of the first j numbers. -/
def sumK (r : List Int) : Nat → Int
  | 0 => 0
  | j + 1 => sumK r j + r.getD j 0
theorem sumK_all (r : List Int) : sumK r r.length = r.sum := by
  have key : ∀ (j : Nat), j ≤ r.length → sumK r j = (r.take j).sum := by
    intro j
    induction j with
    | zero => intro _; simp [sumK]
    | succ j ih =>
      intro hj
      rw [List.take_succ_eq_append_getElem (by omega), List.sum_append, ← ih (by omega)]
      simp [sumK, List.getD_eq_getElem?_getD, List.getElem?_eq_getElem (show j < r.length by omega)]
  rw [key r.length (Nat.le_refl _), List.take_length]
theorem sumK_in (r : List Int) (lim : Int) (h0 : 0 ≤ lim) : ∀ j : Nat, (∀ i, i < j → inB (r.getD i 0) 0 lim = true) → 0 ≤ sumK r j ∧ sumK r j ≤ j * lim
  | 0, _ => by simp [sumK]
  | j + 1, h => by
    obtain ⟨a, b⟩ := sumK_in r lim h0 j (fun i hi => h i (by omega))
    have := (inB_iff _ _ _).1 (h j (by omega))
    unfold sumK
    have e : ((j + 1 : Nat) : Int) * lim = j * lim + lim := by rw [Int.natCast_add, Int.add_mul]; simp
    exact ⟨by omega, by omega⟩
theorem all_getD {r : List Int} {p : Int → Bool} : r.all p = true ↔ ∀ i, i < r.length → p (r.getD i 0) = true := by
  rw [List.all_eq_true]
  refine ⟨fun h i hi => h _ (getD_in r i 0 hi), fun h x hx => ?_⟩
  obtain ⟨i, hi, e⟩ := List.getElem_of_mem hx
  have := h i hi
  rwa [List.getD_eq_getElem?_getD, List.getElem?_eq_getElem hi, Option.getD_some, e] at this
theorem all_no {r : List Int} {p : Int → Bool} {i : Nat} (hi : i < r.length) (h : p (r.getD i 0) = false) : r.all p = false := by
  cases hs : r.all p with
  | false => rfl
  | true => rw [all_getD.1 hs i hi] at h; cases h

/-- From i to j by an edge, or over states below k. -/
def thr (E : Nat → Nat → Bool) : Nat → Nat → Nat → Bool
  | 0, i, j => i == j || E i j
  | k + 1, i, j => thr E k i j || thr E k i k && thr E k k j
theorem thr_refl (E : Nat → Nat → Bool) : ∀ k i, thr E k i i = true
  | 0, i => by simp [thr]
  | k + 1, i => by simp [thr, thr_refl E k i]
theorem thr_mono (E : Nat → Nat → Bool) {k i j : Nat} (h : thr E k i j = true) : thr E (k + 1) i j = true := by simp [thr, h]
theorem thr_mono' (E : Nat → Nat → Bool) {i j : Nat} : ∀ {a b : Nat}, a ≤ b → thr E a i j = true → thr E b i j = true := by
  intro a b hab h
  induction b with
  | zero => have : a = 0 := by omega
            subst this; exact h
  | succ b ih =>
    rcases Nat.lt_or_ge a (b + 1) with h1 | h1
    · exact thr_mono E (ih (by omega))
    · have : a = b + 1 := by omega
      subst this; exact h
theorem thr_edge (E : Nat → Nat → Bool) {k i j : Nat} (h : E i j = true) : thr E k i j = true := thr_mono' E (Nat.zero_le k) (by simp [thr, h])
theorem thr_col (E : Nat → Nat → Bool) (k i : Nat) : thr E (k + 1) i k = thr E k i k := by simp [thr, thr_refl]
theorem thr_row (E : Nat → Nat → Bool) (k j : Nat) : thr E (k + 1) k j = thr E k k j := by simp [thr, thr_refl]
theorem thr_over (E : Nat → Nat → Bool) : ∀ (k a i j : Nat), a < k → thr E k i a = true → thr E k a j = true → thr E k i j = true := by
  intro k
  induction k with
  | zero => intro a i j h; omega
  | succ k ih =>
    intro a i j ha h1 h2
    rcases Nat.lt_or_ge a k with hlt | hge
    · simp only [thr, Bool.or_eq_true, Bool.and_eq_true] at h1 h2 ⊢
      rcases h1 with h1 | ⟨h1, h3⟩ <;> rcases h2 with h2 | ⟨h2, h4⟩
      · exact .inl (ih a i j hlt h1 h2)
      · exact .inr ⟨ih a i k hlt h1 h2, h4⟩
      · exact .inr ⟨h1, ih a k j hlt h3 h2⟩
      · exact .inr ⟨h1, h4⟩
    · obtain rfl : a = k := by omega
      rw [thr_col] at h1
      rw [thr_row] at h2
      simp [thr, h1, h2]
/-- Reached by steps, perhaps none. -/
inductive Rch (E : Nat → Nat → Bool) (i : Nat) : Nat → Prop
  | here : Rch E i i
  | step {a b : Nat} : Rch E i a → E a b = true → Rch E i b
theorem Rch.trans {E : Nat → Nat → Bool} {i a b : Nat} (h : Rch E i a) (h2 : Rch E a b) : Rch E i b := by
  induction h2 with
  | here => exact h
  | step _ he ih => exact ih.step he
theorem thr_sound (E : Nat → Nat → Bool) : ∀ (k i j : Nat), thr E k i j = true → Rch E i j := by
  intro k
  induction k with
  | zero =>
    intro i j h
    simp [thr] at h
    rcases h with rfl | h
    · exact .here
    · exact .step .here h
  | succ k ih =>
    intro i j h
    simp only [thr, Bool.or_eq_true, Bool.and_eq_true] at h
    rcases h with h | ⟨h1, h2⟩
    · exact ih _ _ h
    · exact (ih _ _ h1).trans (ih _ _ h2)
theorem thr_all (E : Nat → Nat → Bool) (n : Nat) (hE : ∀ i j, E i j = true → i < n) {i j : Nat} (h : Rch E i j) : thr E n i j = true := by
  induction h with
  | here => exact thr_refl _ _ _
  | step h1 he ih => exact thr_over E n _ _ _ (hE _ _ he) ih (thr_edge E he)
theorem thr_iff (E : Nat → Nat → Bool) (n : Nat) (hE : ∀ i j, E i j = true → i < n) (i j : Nat) : thr E n i j = true ↔ Rch E i j := ⟨thr_sound E n i j, thr_all E n hE⟩

/-- What comes to state 'to' out of the first i states, each with its chance. -/
def psum (f : Nat → Nat → Int) (h : Nat → Int) (to : Nat) : Nat → Int
  | 0 => 0
  | i + 1 => psum f h to i + h i * f i to
/-- The numerators behind k steps. -/
def aft (f : Nat → Nat → Int) (n frm : Nat) : Nat → Nat → Int
  | 0, j => if j = frm then 1 else 0
  | k + 1, j => psum f (aft f n frm k) j n
theorem psum_in (f : Nat → Nat → Int) (h : Nat → Int) (to : Nat) (B : Int) (hf : ∀ i j, 0 ≤ f i j ∧ f i j ≤ 10) (hh : ∀ i, 0 ≤ h i ∧ h i ≤ B) : ∀ i : Nat, 0 ≤ psum f h to i ∧ psum f h to i ≤ i * (10 * B)
  | 0 => by simp [psum]
  | i + 1 => by
    obtain ⟨a, b⟩ := psum_in f h to B hf hh i
    have h1 := hh i
    have h2 := hf i to
    have h3 : 0 ≤ h i * f i to := Int.mul_nonneg h1.1 h2.1
    have h4 : h i * f i to ≤ B * 10 := Int.mul_le_mul h1.2 h2.2 h2.1 (by omega)
    unfold psum
    refine ⟨by omega, ?_⟩
    have : ((i + 1 : Nat) : Int) * (10 * B) = i * (10 * B) + 10 * B := by rw [Int.natCast_add, Int.add_mul]; simp
    omega
theorem aft_in (f : Nat → Nat → Int) (n frm : Nat) (hn : n ≤ 5) (hf : ∀ i j, 0 ≤ f i j ∧ f i j ≤ 10) : ∀ k j : Nat, 0 ≤ aft f n frm k j ∧ aft f n frm k j ≤ 50 ^ k
  | 0, j => by unfold aft; split <;> simp
  | k + 1, j => by
    unfold aft
    obtain ⟨a, b⟩ := psum_in f (aft f n frm k) j (50 ^ k) hf (fun i => aft_in f n frm hn hf k i) n
    refine ⟨a, Int.le_trans b ?_⟩
    rw [Int.pow_succ]
    have h0 : (0 : Int) ≤ 50 ^ k := Int.pow_nonneg (by decide)
    have h1 : (n : Int) * (10 * 50 ^ k) ≤ 5 * (10 * 50 ^ k) := Int.mul_le_mul_of_nonneg_right (by omega) (by omega)
    omega
theorem fifty (k : Nat) (h : k ≤ 8) : (50 : Int) ^ k ≤ 100000000000000 := by
  match k, h with
  | 0, _ | 1, _ | 2, _ | 3, _ | 4, _ | 5, _ | 6, _ | 7, _ | 8, _ => decide

/-- A walk of so many steps. -/
inductive Wlk (E : Nat → Nat → Bool) (frm : Nat) : Nat → Int → Prop where
  | here : Wlk E frm frm 0
  | step {i j : Nat} {d : Int} : Wlk E frm i d → E i j = true → Wlk E frm j (d + 1)
/-- What holds while the states that are reached from one are searched: far holds -1 for a state that was not met; q are those that were met, in their order; k of them are done, and of the next one the edges to states below t. -/
structure Bfs (E : Nat → Nat → Bool) (n frm k t : Nat) (far : List Int) (q : List Nat) : Prop where
  len : far.length = n
  lt : ∀ x ∈ q, x < n
  nodup : q.Nodup
  mem : ∀ x, x < n → (x ∈ q ↔ 0 ≤ far.getD x 0)
  low : ∀ x, x < n → -1 ≤ far.getD x 0 ∧ far.getD x 0 ≤ n
  base : frm ∈ q
  reach : ∀ x ∈ q, Rch E frm x
  walk : ∀ x ∈ q, Wlk E frm x (far.getD x 0)
  zero : far.getD frm 0 = 0
  done : ∀ i, i < k → i < q.length → ∀ to, to < n → E (q.getD i 0) to = true → to ∈ q
  part : k < q.length → ∀ to, to < t → to < n → E (q.getD k 0) to = true → to ∈ q
  k_le : k ≤ q.length
  up : ∀ a b, a ≤ b → b < q.length → far.getD (q.getD a 0) 0 ≤ far.getD (q.getD b 0) 0
  top : k < q.length → ∀ a, a < q.length → far.getD (q.getD a 0) 0 ≤ far.getD (q.getD k 0) 0 + 1
  tri : ∀ i, i < k → i < q.length → ∀ to, to < n → E (q.getD i 0) to = true → far.getD to 0 ≤ far.getD (q.getD i 0) 0 + 1
  trik : k < q.length → ∀ to, to < t → to < n → E (q.getD k 0) to = true → far.getD to 0 ≤ far.getD (q.getD k 0) 0 + 1
theorem mem_at {q : List Nat} {x : Nat} (h : x ∈ q) : ∃ a, a < q.length ∧ q.getD a 0 = x := by
  obtain ⟨a, ha, e⟩ := List.getElem_of_mem h
  exact ⟨a, ha, by rw [List.getD_eq_getElem?_getD, List.getElem?_eq_getElem ha]; exact e⟩
theorem nodup_lt_length : ∀ {n : Nat} {q : List Nat}, q.Nodup → (∀ x ∈ q, x < n) → q.length ≤ n
  | 0, q, _, hl => by
    cases q with
    | nil => simp
    | cons a l => have := hl a (by simp); omega
  | n + 1, q, h, hl => by
    by_cases hm : n ∈ q
    · have h1 := nodup_lt_length (n := n) (h.erase n) (fun x hx => by
        obtain ⟨h2, h3⟩ := (h.mem_erase_iff).1 hx
        have := hl x h3
        omega)
      rw [List.length_erase_of_mem hm] at h1
      omega
    · have := nodup_lt_length (n := n) h (fun x hx => by
        have := hl x hx
        have : x ≠ n := fun e => hm (e ▸ hx)
        omega)
      omega
theorem getD_range_or {α : Type} (l : List α) (i : Nat) (d : α) (h : i < l.length) : l.getD i d ∈ l := by
  rw [List.getD_eq_getElem?_getD, List.getElem?_eq_getElem h]; exact List.getElem_mem h
theorem getD_append_left' {α : Type} (l l' : List α) (i : Nat) (d : α) (h : i < l.length) : (l ++ l').getD i d = l.getD i d := by
  rw [List.getD_eq_getElem?_getD, List.getD_eq_getElem?_getD, List.getElem?_append_left h]
/-- The edge to t is none, or leads to a state that was met. -/
theorem Bfs.skip {E : Nat → Nat → Bool} {n frm k t : Nat} {far : List Int} {q : List Nat} (h : Bfs E n frm k t far q) (hc : E (q.getD k 0) t = false ∨ 0 ≤ far.getD t 0) (ht : t < n) : Bfs E n frm k (t + 1) far q :=
  ⟨h.len, h.lt, h.nodup, h.mem, h.low, h.base, h.reach, h.walk, h.zero, h.done, (fun hk to h1 h2 h3 => by
      rcases Nat.lt_or_ge to t with h4 | h4
      · exact h.part hk to h4 h2 h3
      · have e : to = t := by omega
        subst e
        rcases hc with hc | hc
        · rw [hc] at h3; cases h3
        · exact (h.mem _ h2).2 hc), h.k_le, h.up, h.top, h.tri, (fun hk to h1 h2 h3 => by
      rcases Nat.lt_or_ge to t with h4 | h4
      · exact h.trik hk to h4 h2 h3
      · have e : to = t := by omega
        subst e
        rcases hc with hc | hc
        · rw [hc] at h3; cases h3
        · obtain ⟨a, ha, e⟩ := mem_at ((h.mem _ h2).2 hc)
          have := h.top hk a ha
          rwa [e] at this)⟩
/-- A new state is met. -/
theorem Bfs.meet {E : Nat → Nat → Bool} {n frm k t : Nat} {far : List Int} {q : List Nat} (h : Bfs E n frm k t far q) (hk : k < q.length) (he : E (q.getD k 0) t = true) (hf : far.getD t 0 < 0) (ht : t < n) (d : Int) (h0 : 0 ≤ d) (hd : d ≤ n) (hdd : d = far.getD (q.getD k 0) 0 + 1) : Bfs E n frm k (t + 1) (far.set t d) (q ++ [t]) := by
  have hlen := h.len
  have hnew : t ∉ q := fun hm => by have := (h.mem t ht).1 hm; omega
  have hq : (q ++ [t]).getD k 0 = q.getD k 0 := getD_append_left' _ _ _ _ hk
  have hQL : (q ++ [t]).length = q.length + 1 := by rw [List.length_append, List.length_singleton]
  have hqlo : ∀ a, a < q.length → (far.set t d).getD ((q ++ [t]).getD a 0) 0 = far.getD (q.getD a 0) 0 := fun a ha => by
    rw [getD_append_left' _ _ _ _ ha]
    exact getD_set_ne _ _ _ _ _ (fun e => hnew (by rw [e]; exact getD_range_or q a 0 ha))
  have hqhi : (far.set t d).getD ((q ++ [t]).getD q.length 0) 0 = far.getD (q.getD k 0) 0 + 1 := by
    rw [show (q ++ [t]).getD q.length 0 = t from by simp [List.getD_eq_getElem?_getD], getD_set_eq _ _ _ _ (by omega), hdd]
  refine ⟨by rw [List.length_set]; exact h.len, fun x hx => ?_, ?_, fun x hx => ?_, fun x hx => ?_, List.mem_append_left _ h.base, fun x hx => ?_, fun x hx => ?_, (getD_set_ne _ _ _ _ _ (fun e => hnew (by rw [e]; exact h.base))).trans h.zero, fun i hi hl to h1 h2 => ?_, fun _ to h1 h2 h3 => ?_, by rw [List.length_append]; exact Nat.le_trans h.k_le (Nat.le_add_right _ _), fun a b hab hb => ?_, fun _ a ha => ?_, fun i hi hl to h1 h2 => ?_, fun _ to h1 h2 h3 => ?_⟩
  · rcases List.mem_append.1 hx with hx | hx
    · exact h.lt x hx
    · rw [List.mem_singleton.1 hx]; exact ht
  · rw [List.nodup_append]
    refine ⟨h.nodup, by simp, fun a ha b hb => ?_⟩
    rw [List.mem_singleton.1 hb]
    rintro rfl
    exact hnew ha
  · by_cases e : t = x
    · subst e
      rw [getD_set_eq _ _ _ _ (by omega)]
      simp [h0]
    · rw [getD_set_ne _ _ _ _ _ e, ← h.mem x hx]
      simp only [List.mem_append, List.mem_singleton]
      exact ⟨fun hc => hc.elim id (fun e' => absurd e'.symm e), .inl⟩
  · by_cases e : t = x
    · subst e
      rw [getD_set_eq _ _ _ _ (by omega)]
      exact ⟨by omega, hd⟩
    · rw [getD_set_ne _ _ _ _ _ e]
      exact h.low x hx
  · rcases List.mem_append.1 hx with hx | hx
    · exact h.reach x hx
    · rw [List.mem_singleton.1 hx]
      exact (h.reach _ (getD_range_or q k 0 hk)).step he
  · rcases List.mem_append.1 hx with hx | hx
    · have e : t ≠ x := fun e => hnew (e ▸ hx)
      rw [getD_set_ne _ _ _ _ _ e]
      exact h.walk x hx
    · rw [List.mem_singleton.1 hx, getD_set_eq _ _ _ _ (by omega), hdd]
      exact (h.walk _ (getD_range_or q k 0 hk)).step he
  · rw [getD_append_left' _ _ _ _ (by omega)] at h2
    exact List.mem_append_left _ (h.done i hi (by omega) to h1 h2)
  · rw [hq] at h3
    rcases Nat.lt_or_ge to t with h4 | h4
    · exact List.mem_append_left _ (h.part hk to h4 h2 h3)
    · obtain rfl : to = t := by omega
      simp
  · rw [hQL] at hb
    rcases Nat.lt_or_ge b q.length with g | g
    · rw [hqlo a (by omega), hqlo b g]; exact h.up a b hab g
    · obtain rfl : b = q.length := by omega
      rcases Nat.lt_or_ge a q.length with g2 | g2
      · rw [hqlo a g2, hqhi]; exact h.top hk a g2
      · obtain rfl : a = q.length := by omega
        exact Int.le_refl _
  · rw [hQL] at ha
    rw [hqlo k hk]
    rcases Nat.lt_or_ge a q.length with g | g
    · rw [hqlo a g]; exact h.top hk a g
    · obtain rfl : a = q.length := by omega
      rw [hqhi]; exact Int.le_refl _
  · have hi2 : i < q.length := by omega
    rw [hqlo i hi2]
    rw [getD_append_left' _ _ _ _ hi2] at h2
    have h3 := h.done i hi hi2 to h1 h2
    rw [getD_set_ne _ _ _ _ _ (fun e => hnew (by rw [e]; exact h3))]
    exact h.tri i hi hi2 to h1 h2
  · rw [hqlo k hk]
    rw [hq] at h3
    rcases Nat.lt_or_ge to t with h4 | h4
    · have h5 := h.part hk to h4 h2 h3
      rw [getD_set_ne _ _ _ _ _ (fun e => hnew (by rw [e]; exact h5))]
      exact h.trik hk to h4 h2 h3
    · obtain rfl : to = t := by omega
      rw [getD_set_eq _ _ _ _ (by omega), hdd]
      exact Int.le_refl _
theorem Bfs.next {E : Nat → Nat → Bool} {n frm k : Nat} {far : List Int} {q : List Nat} (h : Bfs E n frm k n far q) (hk : k < q.length) : Bfs E n frm (k + 1) 0 far q :=
  ⟨h.len, h.lt, h.nodup, h.mem, h.low, h.base, h.reach, h.walk, h.zero, (fun i hi hl to h1 h2 => by
      rcases Nat.lt_or_ge i k with h4 | h4
      · exact h.done i h4 hl to h1 h2
      · have e : i = k := by omega
        subst e
        exact h.part hk to h1 h1 h2), (fun _ to h1 => by omega), by omega, h.up, (fun hk2 a ha => by
      have h1 := h.top hk a ha
      have h2 := h.up k (k + 1) (by omega) hk2
      omega), (fun i hi hl to h1 h2 => by
      rcases Nat.lt_or_ge i k with h4 | h4
      · exact h.tri i h4 hl to h1 h2
      · have e : i = k := by omega
        subst e
        exact h.trik hk to h1 h1 h2), (fun _ to h1 => by omega)⟩
theorem Bfs.size {E : Nat → Nat → Bool} {n frm k t : Nat} {far : List Int} {q : List Nat} (h : Bfs E n frm k t far q) : q.length ≤ n := nodup_lt_length h.nodup h.lt
theorem Bfs.over {E : Nat → Nat → Bool} {n frm : Nat} {far : List Int} {q : List Nat} (h : Bfs E n frm q.length 0 far q) (hE : ∀ i j, E i j = true → j < n) (x : Nat) (hx : x < n) : 0 ≤ far.getD x 0 ↔ Rch E frm x := by
  rw [← h.mem x hx]
  refine ⟨h.reach x, fun hr => ?_⟩
  clear hx
  induction hr with
  | here => exact h.base
  | step h1 he ih =>
    obtain ⟨i, hi, e⟩ := List.getElem_of_mem ih
    refine h.done i hi hi _ (hE _ _ he) ?_
    rw [List.getD_eq_getElem?_getD, List.getElem?_eq_getElem hi]
    simpa [e] using he
theorem Bfs.start (E : Nat → Nat → Bool) (n frm : Nat) (hf : frm < n) : Bfs E n frm 0 0 ((List.replicate n (-1)).set frm 0) [frm] := by
  refine ⟨by simp, by simpa using hf, by simp, fun x hx => ?_, fun x hx => ?_, by simp, by simpa using Rch.here, fun x hx => ?_, getD_set_eq _ _ _ _ (by simpa using hf), fun i hi => by omega, fun _ to h => by omega, by simp, fun a b hab hb => ?_, fun _ a ha => ?_, fun i hi => by omega, fun _ to h => by omega⟩
  · by_cases e : frm = x
    · subst e; rw [getD_set_eq _ _ _ _ (by simpa using hf)]; simp
    · rw [getD_set_ne _ _ _ _ _ e]
      simp [List.getD_eq_getElem?_getD, List.getElem?_replicate, hx]
      exact fun e' => e e'.symm
  · by_cases e : frm = x
    · subst e; rw [getD_set_eq _ _ _ _ (by simpa using hf)]; omega
    · rw [getD_set_ne _ _ _ _ _ e]
      simp [List.getD_eq_getElem?_getD, List.getElem?_replicate, hx]
  · have e : x = frm := by simpa using hx
    subst e
    rw [getD_set_eq _ _ _ _ (by simpa using hf)]
    exact Wlk.here
  · have e1 : b = 0 := by simpa using hb
    have e2 : a = 0 := by omega
    rw [e1, e2]; exact Int.le_refl _
  · have e1 : a = 0 := by simpa using ha
    rw [e1]; omega
/-- No walk is shorter than the distance. -/
theorem Bfs.low_walk {E : Nat → Nat → Bool} {n frm : Nat} {far : List Int} {q : List Nat} (h : Bfs E n frm q.length 0 far q) (hE : ∀ i j, E i j = true → j < n) {x : Nat} {d : Int} (hw : Wlk E frm x d) : 0 ≤ far.getD x 0 ∧ far.getD x 0 ≤ d := by
  have key : x ∈ q ∧ far.getD x 0 ≤ d := by
    induction hw with
    | here => exact ⟨h.base, by rw [h.zero]; exact Int.le_refl _⟩
    | step _ he ih =>
      obtain ⟨h1, h2⟩ := ih
      obtain ⟨a, ha, e⟩ := mem_at h1
      have hj := hE _ _ he
      have h3 := h.done a ha ha _ hj (by rw [e]; exact he)
      have h4 := h.tri a ha ha _ hj (by rw [e]; exact he)
      rw [e] at h4
      exact ⟨h3, by omega⟩
  exact ⟨(h.mem x (h.lt x key.1)).1 key.1, key.2⟩
end Go.Proofs.Ythmdkbeccohjkaa
