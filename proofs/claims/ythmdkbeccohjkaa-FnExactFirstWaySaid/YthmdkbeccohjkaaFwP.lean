/- Ways: the first of the shortest ones. Nothing of the code. -/
import Derived.Test.YthmdkbeccohjkaaFar
namespace Go.Proofs.Ythmdkbeccohjkaa
set_option linter.unusedSimpArgs false
set_option linter.unusedVariables false

/-- The code of a way: a shorter way has the lesser one, and of two that are as long the one that comes first. -/
def wcode (w : List Nat) : Nat := w.foldl (fun c x => 8 * c + (x + 1)) 0
theorem wcode_snoc (w : List Nat) (x : Nat) : wcode (w ++ [x]) = 8 * wcode w + (x + 1) := by simp [wcode]
/-- A way: each state with a chance from the one before. -/
inductive IsWay (E : Nat → Nat → Bool) (frm : Nat) : List Nat → Nat → Prop
  | one : IsWay E frm [frm] frm
  | step {w : List Nat} {i j : Nat} : IsWay E frm w i → E i j = true → IsWay E frm (w ++ [j]) j
def lst (w : List Nat) : Nat := w.getD (w.length - 1) 0
theorem lst_snoc (w : List Nat) (x : Nat) : lst (w ++ [x]) = x := by simp [lst]
theorem IsWay.last {E : Nat → Nat → Bool} {frm : Nat} {w : List Nat} {x : Nat} (h : IsWay E frm w x) : lst w = x := by
  cases h with
  | one => rfl
  | step _ _ => exact lst_snoc _ _
theorem IsWay.rch {E : Nat → Nat → Bool} {frm : Nat} {w : List Nat} {x : Nat} (h : IsWay E frm w x) : Rch E frm x := by
  induction h with
  | one => exact .here
  | step _ he ih => exact ih.step he
theorem IsWay.pos {E : Nat → Nat → Bool} {frm : Nat} {w : List Nat} {x : Nat} (h : IsWay E frm w x) : 0 < w.length := by cases h <;> simp
theorem IsWay.lt {E : Nat → Nat → Bool} {frm n : Nat} {w : List Nat} {x : Nat} (hE : ∀ i j, E i j = true → j < n) (hf : frm < n) (h : IsWay E frm w x) : ∀ y ∈ w, y < n := by
  induction h with
  | one => simpa using hf
  | step _ he ih =>
    intro y hy
    rcases List.mem_append.1 hy with hy | hy
    · exact ih y hy
    · rw [List.mem_singleton.1 hy]; exact hE _ _ he
theorem snoc_or (l : List Nat) : l = [] ∨ ∃ l' x, l = l' ++ [x] := by
  rcases List.eq_nil_or_concat l with h | ⟨l', x, h⟩
  · exact .inl h
  · exact .inr ⟨l', x, by rw [h]; simp⟩
theorem wcode_inj : ∀ (k : Nat) {w u : List Nat}, w.length = k → (∀ x ∈ w, x < 5) → (∀ x ∈ u, x < 5) → wcode w = wcode u → w = u := by
  intro k
  induction k with
  | zero =>
    intro w u hk _ _ h
    have : w = [] := List.length_eq_zero_iff.1 hk
    subst this
    rcases snoc_or u with rfl | ⟨u', y, rfl⟩
    · rfl
    · rw [wcode_snoc] at h; simp [wcode] at h
  | succ k ih =>
    intro w u hk hw hu h
    rcases snoc_or w with rfl | ⟨w', x, rfl⟩
    · simp at hk
    rcases snoc_or u with rfl | ⟨u', y, rfl⟩
    · rw [wcode_snoc] at h; simp [wcode] at h
    · rw [wcode_snoc, wcode_snoc] at h
      have := hw x (by simp)
      have := hu y (by simp)
      obtain ⟨e1, e2⟩ : wcode w' = wcode u' ∧ x = y := ⟨by omega, by omega⟩
      rw [ih (by simpa using hk) (fun z hz => hw z (by simp [hz])) (fun z hz => hu z (by simp [hz])) e1, e2]
/-- What holds while ways are made: i ways are done, and of the next one the edges to states below t. -/
structure FwInv (E : Nat → Nat → Bool) (n frm i t : Nat) (ways : List (List Nat)) (seen : Nat → Bool) : Prop where
  pos : 0 < ways.length
  way : ∀ a, a < ways.length → IsWay E frm (ways.getD a []) (lst (ways.getD a []))
  lt : ∀ a, a < ways.length → lst (ways.getD a []) < n
  sin : ∀ a, a < ways.length → seen (lst (ways.getD a [])) = true
  sout : ∀ x, x < n → seen x = true → ∃ a, a < ways.length ∧ lst (ways.getD a []) = x
  mini : ∀ a, a < ways.length → ∀ P, IsWay E frm P (lst (ways.getD a [])) → wcode (ways.getD a []) ≤ wcode P
  srt : ∀ a b, a < b → b < ways.length → wcode (ways.getD a []) < wcode (ways.getD b [])
  done : ∀ a, a < i → a < ways.length → ∀ to, to < n → E (lst (ways.getD a [])) to = true → seen to = true
  part : i < ways.length → ∀ to, to < t → to < n → E (lst (ways.getD i [])) to = true → seen to = true
  pre : i < ways.length → ∀ a, a < ways.length → wcode (ways.getD a []) < 8 * wcode (ways.getD i []) + (t + 1)
  base : seen frm = true
  fn : frm < n
  ile : i ≤ ways.length
  wlen : ∀ a, a < ways.length → (ways.getD a []).length ≤ ways.length
theorem FwInv.start (E : Nat → Nat → Bool) {n frm : Nat} (hf : frm < n) {seen : Nat → Bool} (hs : ∀ x, x < n → (seen x = true ↔ x = frm)) : FwInv E n frm 0 0 [[frm]] seen := by
  have h0 : ∀ a, a < [[frm]].length → a = 0 := fun a h => by simpa using h
  have key : ∀ P x, IsWay E frm P x → frm + 1 ≤ wcode P := by
    intro P x h
    induction h with
    | one => simp [wcode]
    | step _ _ ih => rw [wcode_snoc]; omega
  refine ⟨by simp, ?_, ?_, ?_, ?_, ?_, ?_, ?_, ?_, ?_, (hs frm hf).2 rfl, hf, by simp, ?_⟩
  · intro a h; rw [h0 a h]; exact .one
  · intro a h; rw [h0 a h]; simpa [lst] using hf
  · intro a h; rw [h0 a h]; exact (hs frm hf).2 rfl
  · intro x hx h; exact ⟨0, by simp, ((hs x hx).1 h).symm⟩
  · intro a h P hP; rw [h0 a h] at hP ⊢; simpa [wcode] using key P _ hP
  · intro a b h1 h2; have := h0 b h2; omega
  · intro a h; omega
  · intro _ to h; omega
  · intro _ a h; rw [h0 a h]; omega
  · intro a h; rw [h0 a h]; simp
theorem FwInv.skip {E : Nat → Nat → Bool} {n frm i t : Nat} {ways : List (List Nat)} {seen : Nat → Bool} (h : FwInv E n frm i t ways seen) (hc : E (lst (ways.getD i [])) t = false ∨ seen t = true) : FwInv E n frm i (t + 1) ways seen :=
  ⟨h.pos, h.way, h.lt, h.sin, h.sout, h.mini, h.srt, h.done, (fun hi to h1 h2 h3 => by
    rcases Nat.lt_or_ge to t with h4 | h4
    · exact h.part hi to h4 h2 h3
    · have e : to = t := by omega
      subst e
      rcases hc with hc | hc
      · rw [hc] at h3; cases h3
      · exact hc), (fun hi a ha => Nat.lt_of_lt_of_le (h.pre hi a ha) (by omega)), h.base, h.fn, h.ile, h.wlen⟩
theorem FwInv.next {E : Nat → Nat → Bool} {n frm i : Nat} {ways : List (List Nat)} {seen : Nat → Bool} (h : FwInv E n frm i n ways seen) (hn : n ≤ 5) (hi : i < ways.length) : FwInv E n frm (i + 1) 0 ways seen :=
  ⟨h.pos, h.way, h.lt, h.sin, h.sout, h.mini, h.srt, (fun a ha hl to h1 h2 => by
    rcases Nat.lt_or_ge a i with h4 | h4
    · exact h.done a h4 hl to h1 h2
    · have e : a = i := by omega
      subst e
      exact h.part hl to h1 h1 h2), (fun _ to h1 => by omega), (fun hi2 a ha => by
      have h1 := h.pre hi a ha
      have h2 := h.srt i (i + 1) (by omega) hi2
      omega), h.base, h.fn, by omega, h.wlen⟩
theorem FwInv.meet {E : Nat → Nat → Bool} {n frm i t : Nat} {ways : List (List Nat)} {seen seen' : Nat → Bool} (hE : ∀ i j, E i j = true → j < n) (hn : n ≤ 5) (h : FwInv E n frm i t ways seen) (hi : i < ways.length) (ht : t < n) (he : E (lst (ways.getD i [])) t = true) (hs : seen t = false)
    (hs' : ∀ x, x < n → seen' x = (seen x || decide (x = t))) : FwInv E n frm i (t + 1) (ways ++ [ways.getD i [] ++ [t]]) seen' := by
  have hmono : ∀ x, x < n → seen x = true → seen' x = true := fun x hx h => by rw [hs' x hx, h]; rfl
  have hlo : ∀ a, a < ways.length → (ways ++ [ways.getD i [] ++ [t]]).getD a [] = ways.getD a [] := fun a ha => by rw [getD_snoc, if_pos ha]
  have hhi : (ways ++ [ways.getD i [] ++ [t]]).getD ways.length [] = ways.getD i [] ++ [t] := by rw [getD_snoc, if_neg (by omega), if_pos rfl]
  have hL : (ways ++ [ways.getD i [] ++ [t]]).length = ways.length + 1 := by simp
  have key : ∀ P x, IsWay E frm P x → x < n → seen x = true ∨ 8 * wcode (ways.getD i []) + (t + 1) ≤ wcode P := by
    intro P x hP
    induction hP with
    | one => intro _; exact .inl h.base
    | @step w a j hw hej ih =>
      intro hj
      rw [wcode_snoc]
      by_cases hsj : seen j = true
      · exact .inl hsj
      · right
        have ha : a < n := by
          cases hw with
          | one => exact h.fn
          | step _ q => exact hE _ _ q
        rcases ih ha with h1 | h1
        · obtain ⟨b, hb, e⟩ := h.sout a ha h1
          have hm := h.mini b hb w (by rw [e]; exact hw)
          rcases Nat.lt_trichotomy b i with q | q | q
          · exact absurd (h.done b q hb j hj (by rw [e]; exact hej)) hsj
          · subst q
            have : t ≤ j := by
              rcases Nat.lt_or_ge j t with q | q
              · exact absurd (h.part hb j q hj (by rw [e]; exact hej)) hsj
              · exact q
            omega
          · have := h.srt i b q hb
            omega
        · omega
  refine ⟨by omega, fun a ha => ?_, fun a ha => ?_, fun a ha => ?_, fun x hx hx2 => ?_, fun a ha P hP => ?_, fun a b hab hb => ?_, fun a ha ha2 to h1 h2 => ?_, fun _ to h1 h2 h3 => ?_, fun _ a ha => ?_, ?_, h.fn, by omega, fun a ha => ?_⟩
  · rw [hL] at ha
    rcases Nat.lt_or_ge a ways.length with q | q
    · rw [hlo a q]; exact h.way a q
    · obtain rfl : a = ways.length := by omega
      rw [hhi, lst_snoc]
      exact (h.way i hi).step he
  · rw [hL] at ha
    rcases Nat.lt_or_ge a ways.length with q | q
    · rw [hlo a q]; exact h.lt a q
    · obtain rfl : a = ways.length := by omega
      rw [hhi, lst_snoc]; exact ht
  · rw [hL] at ha
    rcases Nat.lt_or_ge a ways.length with q | q
    · rw [hlo a q]; exact hmono _ (h.lt a q) (h.sin a q)
    · obtain rfl : a = ways.length := by omega
      rw [hhi, lst_snoc, hs' t ht]; simp
  · rw [hs' x hx] at hx2
    simp only [Bool.or_eq_true, decide_eq_true_eq] at hx2
    rcases hx2 with q | q
    · obtain ⟨a, ha, e⟩ := h.sout x hx q
      exact ⟨a, by omega, by rw [hlo a ha]; exact e⟩
    · exact ⟨ways.length, by omega, by rw [hhi, lst_snoc, q]⟩
  · rw [hL] at ha
    rcases Nat.lt_or_ge a ways.length with q | q
    · rw [hlo a q] at hP ⊢; exact h.mini a q P hP
    · obtain rfl : a = ways.length := by omega
      rw [hhi, lst_snoc] at hP
      rw [hhi, wcode_snoc]
      rcases key P t hP ht with q | q
      · rw [hs] at q; cases q
      · exact q
  · rw [hL] at hb
    rcases Nat.lt_or_ge b ways.length with q | q
    · rw [hlo a (by omega), hlo b q]; exact h.srt a b hab q
    · obtain rfl : b = ways.length := by omega
      rw [hhi, hlo a (by omega), wcode_snoc]
      exact h.pre hi a (by omega)
  · rw [hlo a (by omega)] at h2
    exact hmono _ h1 (h.done a ha (by omega) to h1 h2)
  · rw [hlo i hi] at h3
    rw [hs' to h2]
    rcases Nat.lt_or_ge to t with q | q
    · rw [h.part hi to q h2 h3]; rfl
    · have : to = t := by omega
      simp [this]
  · rw [hL] at ha
    rw [hlo i hi]
    rcases Nat.lt_or_ge a ways.length with q | q
    · rw [hlo a q]; have := h.pre hi a q; omega
    · obtain rfl : a = ways.length := by omega
      rw [hhi, wcode_snoc]; omega
  · rw [hs' frm h.fn, h.base]; rfl
  · rw [hL] at ha ⊢
    rcases Nat.lt_or_ge a ways.length with q | q
    · rw [hlo a q]; have := h.wlen a q; omega
    · obtain rfl : a = ways.length := by omega
      rw [hhi, List.length_append, List.length_singleton]
      have := h.wlen i hi
      omega

/-- The first of the shortest ways. -/
def IsFW (E : Nat → Nat → Bool) (frm goal : Nat) (w : List Nat) : Prop := IsWay E frm w goal ∧ ∀ P, IsWay E frm P goal → wcode w ≤ wcode P
theorem IsFW.uniq {E : Nat → Nat → Bool} {n frm goal : Nat} {w u : List Nat} (hE : ∀ i j, E i j = true → j < n) (hn : n ≤ 5) (hf : frm < n) (h : IsFW E frm goal w) (k : IsFW E frm goal u) : w = u :=
  wcode_inj w.length rfl (fun x hx => Nat.lt_of_lt_of_le (h.1.lt hE hf x hx) hn) (fun x hx => Nat.lt_of_lt_of_le (k.1.lt hE hf x hx) hn) (Nat.le_antisymm (h.2 u k.1) (k.2 w h.1))
/-- The goal is the end of one of the ways: that one is the first of the shortest. -/
theorem FwInv.found {E : Nat → Nat → Bool} {n frm goal i t a : Nat} {ways : List (List Nat)} {seen : Nat → Bool} (h : FwInv E n frm i t ways seen) (ha : a < ways.length) (hl : lst (ways.getD a []) = goal) : IsFW E frm goal (ways.getD a []) :=
  ⟨hl ▸ h.way a ha, fun P hP => h.mini a ha P (by rw [hl]; exact hP)⟩
theorem FwInv.none {E : Nat → Nat → Bool} {n frm goal t : Nat} {ways : List (List Nat)} {seen : Nat → Bool} (hE : ∀ i j, E i j = true → j < n) (h : FwInv E n frm ways.length t ways seen) (hs : seen goal = false) : ¬ Rch E frm goal := by
  intro hr
  have key : ∀ x, Rch E frm x → x < n ∧ seen x = true := by
    intro x hx
    induction hx with
    | here => exact ⟨h.fn, h.base⟩
    | step _ he ih =>
      obtain ⟨h1, h2⟩ := ih
      have h3 := hE _ _ he
      obtain ⟨a, ha, e⟩ := h.sout _ h1 h2
      exact ⟨h3, h.done a ha ha _ h3 (by rw [e]; exact he)⟩
  have := (key goal hr).2
  rw [hs] at this; cases this
theorem FwInv.rch {E : Nat → Nat → Bool} {n frm i t a : Nat} {ways : List (List Nat)} {seen : Nat → Bool} (h : FwInv E n frm i t ways seen) (ha : a < ways.length) : Rch E frm (lst (ways.getD a [])) := (h.way a ha).rch
theorem FwInv.size {E : Nat → Nat → Bool} {n frm i t : Nat} {ways : List (List Nat)} {seen : Nat → Bool} (h : FwInv E n frm i t ways seen) (nd : ∀ {n : Nat} {q : List Nat}, q.Nodup → (∀ x ∈ q, x < n) → q.length ≤ n) : ways.length ≤ n := by
  have hd : ∀ a b, a < b → b < ways.length → lst (ways.getD a []) ≠ lst (ways.getD b []) := by
    intro a b hab hb e
    have h1 := h.srt a b hab hb
    have h2 := h.mini b hb (ways.getD a []) (by rw [← e]; exact h.way a (by omega))
    omega
  have := nd (n := n) (q := ways.map lst) (by
    unfold List.Nodup
    rw [List.pairwise_map, List.pairwise_iff_getElem]
    intro a b ha hb hab
    have := hd a b hab hb
    simpa [List.getD_eq_getElem?_getD, List.getElem?_eq_getElem ha, List.getElem?_eq_getElem hb] using this) (by
    intro x hx
    obtain ⟨w, hw, rfl⟩ := List.mem_map.1 hx
    obtain ⟨a, ha, e⟩ := List.getElem_of_mem hw
    have := h.lt a ha
    rwa [List.getD_eq_getElem?_getD, List.getElem?_eq_getElem ha, Option.getD_some, e] at this)
  simpa using this

/-- d is the least number of steps from x to the goal, or -1 if there is no way. -/
def IsDst (E : Nat → Nat → Bool) (x goal : Nat) (d : Int) : Prop := (d = -1 ∧ ∀ d', ¬ Wlk E x goal d') ∨ (Wlk E x goal d ∧ ∀ d', Wlk E x goal d' → d ≤ d')
theorem Wlk.nn {E : Nat → Nat → Bool} {s j : Nat} {d : Int} (h : Wlk E s j d) : 0 ≤ d := by
  induction h with
  | here => exact Int.le_refl 0
  | step _ _ ih => omega
theorem IsDst.uniq {E : Nat → Nat → Bool} {x goal : Nat} {d e : Int} (h : IsDst E x goal d) (k : IsDst E x goal e) : d = e := by
  rcases h with ⟨h1, h2⟩ | ⟨h1, h2⟩ <;> rcases k with ⟨k1, k2⟩ | ⟨k1, k2⟩
  · rw [h1, k1]
  · exact absurd k1 (h2 _)
  · exact absurd h1 (k2 _)
  · have := h2 _ k1; have := k2 _ h1; omega
theorem Wlk.cons {E : Nat → Nat → Bool} {s i j : Nat} {d : Int} (he : E s i = true) (h : Wlk E i j d) : Wlk E s j (d + 1) := by
  induction h with
  | here => exact Wlk.step Wlk.here he
  | step _ q ih => exact ih.step q
theorem Wlk.uncons {E : Nat → Nat → Bool} {s j : Nat} {d : Int} (h : Wlk E s j d) : (d = 0 ∧ s = j) ∨ ∃ i, E s i = true ∧ Wlk E i j (d - 1) := by
  induction h with
  | here => exact .inl ⟨rfl, rfl⟩
  | @step i j d0 h he ih =>
    right
    rcases ih with ⟨rfl, rfl⟩ | ⟨a, ha, hw⟩
    · exact ⟨j, he, by simpa using Wlk.here⟩
    · refine ⟨a, ha, ?_⟩
      have := hw.step he
      rwa [show d0 - 1 + 1 = d0 + 1 - 1 from by omega] at this
theorem IsDst.zero {E : Nat → Nat → Bool} (g : Nat) : IsDst E g g 0 := .inr ⟨Wlk.here, fun _ h => h.nn⟩
/-- From a state at l + 1 steps a step leads to one at l. -/
theorem IsDst.down {E : Nat → Nat → Bool} {x goal : Nat} {l : Int} (h : IsDst E x goal l) (hl : 0 < l) : ∃ i, E x i = true ∧ IsDst E i goal (l - 1) := by
  rcases h with ⟨h1, _⟩ | ⟨h1, h2⟩
  · omega
  · rcases h1.uncons with ⟨q, _⟩ | ⟨i, hi, hw⟩
    · omega
    · exact ⟨i, hi, .inr ⟨hw, fun d' h' => by have := h2 _ (h'.cons hi); omega⟩⟩
/-- w is the beginning, of L + 1 - l states, of the first of the shortest ways: l steps are left. -/
structure GrInv (E : Nat → Nat → Bool) (frm goal L l : Nat) (w : List Nat) (at_ : Nat) : Prop where
  way : IsWay E frm w at_
  len : w.length + l = L + 1
  dst : IsDst E at_ goal l
  tot : IsDst E frm goal L
  low : ∀ P x, IsWay E frm P x → P.length = w.length → Wlk E x goal l → wcode w ≤ wcode P
theorem GrInv.start {E : Nat → Nat → Bool} {frm goal L : Nat} (h : IsDst E frm goal L) : GrInv E frm goal L L [frm] frm := by
  refine ⟨.one, by simp; omega, h, h, fun P x hP hl _ => ?_⟩
  cases hP with
  | one => exact Nat.le_refl _
  | step q _ => have := q.pos; simp only [List.length_append, List.length_singleton] at hl; omega
theorem GrInv.step {E : Nat → Nat → Bool} {frm goal L l : Nat} {w : List Nat} {at_ t : Nat} (h : GrInv E frm goal L (l + 1) w at_) (he : E at_ t = true) (ht : IsDst E t goal l) (hw : ∀ x ∈ w, x < 5) (ht5 : t < 5) (hP5 : ∀ P x, IsWay E frm P x → ∀ y ∈ P, y < 5)
    (hlow : ∀ x, x < t → ¬ (E at_ x = true ∧ IsDst E x goal l)) : GrInv E frm goal L l (w ++ [t]) t := by
  refine ⟨h.way.step he, by have := h.len; simp; omega, ht, h.tot, fun P x hP hl hx => ?_⟩
  cases hP with
  | one => have := h.way.pos; simp only [List.length_append, List.length_singleton] at hl; omega
  | @step P' i _ hP' hex =>
    rw [wcode_snoc, wcode_snoc]
    have hw1 : Wlk E i goal ((l + 1 : Nat) : Int) := by have := hx.cons hex; simpa using this
    have hl' : P'.length = w.length := by simpa using hl
    have h1 := h.low P' i hP' hl' hw1
    have hx5 := hP5 _ _ (hP'.step hex) x (by simp)
    rcases Nat.lt_or_ge (wcode w) (wcode P') with q | q
    · omega
    · have e : w = P' := wcode_inj _ rfl hw (hP5 _ _ hP') (by omega)
      subst e
      have e2 : i = at_ := by rw [← hP'.last, h.way.last]
      subst e2
      rcases Nat.lt_or_ge x t with r | r
      · refine absurd ⟨hex, .inr ⟨hx, fun d' h' => ?_⟩⟩ (hlow x r)
        rcases h.dst with ⟨q1, _⟩ | ⟨_, q2⟩
        · omega
        · have := q2 _ (h'.cons hex); omega
      · omega
theorem wcode_lt {w : List Nat} : ∀ k : Nat, w.length = k → (∀ x ∈ w, x < 5) → wcode w < 8 ^ k := by
  intro k
  induction k generalizing w with
  | zero => intro h _; have : w = [] := List.length_eq_zero_iff.1 h
            subst this; simp [wcode]
  | succ k ih =>
    intro h hw
    rcases snoc_or w with rfl | ⟨w', x, rfl⟩
    · simp at h
    · rw [wcode_snoc]
      have h1 := ih (w := w') (by simpa using h) (fun z hz => hw z (by simp [hz]))
      have h2 := hw x (by simp)
      rw [Nat.pow_succ]; omega
theorem wcode_ge {w : List Nat} : ∀ k : Nat, w.length = k + 1 → 8 ^ k ≤ wcode w := by
  intro k
  induction k generalizing w with
  | zero =>
    intro h
    rcases snoc_or w with rfl | ⟨w', x, rfl⟩
    · simp at h
    · rw [wcode_snoc]; omega
  | succ k ih =>
    intro h
    rcases snoc_or w with rfl | ⟨w', x, rfl⟩
    · simp at h
    · rw [wcode_snoc]
      have h1 := ih (w := w') (by simpa using h)
      rw [Nat.pow_succ]; omega
theorem IsWay.wlk {E : Nat → Nat → Bool} {frm x : Nat} {w : List Nat} (h : IsWay E frm w x) : Wlk E frm x ((w.length : Int) - 1) := by
  induction h with
  | one => simpa using Wlk.here
  | step _ he ih => have := ih.step he; simp; simpa using this
theorem GrInv.over {E : Nat → Nat → Bool} {frm goal L : Nat} {w : List Nat} {at_ : Nat} (h : GrInv E frm goal L 0 w at_) (hP5 : ∀ P x, IsWay E frm P x → ∀ y ∈ P, y < 5) : IsFW E frm goal w := by
  have e : at_ = goal := by
    rcases h.dst with ⟨q, _⟩ | ⟨q, _⟩
    · omega
    · rcases q.uncons with ⟨_, q⟩ | ⟨i, hi, q⟩
      · exact q
      · have := q.nn; omega
  subst e
  refine ⟨h.way, fun P hP => ?_⟩
  have hl := hP.wlk
  have h1 : (L : Int) ≤ (P.length : Int) - 1 := by
    rcases h.tot with ⟨q, _⟩ | ⟨_, q⟩
    · omega
    · exact q _ hl
  have hlen := h.len
  rcases Nat.lt_or_ge w.length P.length with q | q
  · have h2 := wcode_lt w.length rfl (hP5 _ _ h.way)
    have h3 := wcode_ge (w := P) (P.length - 1) (by omega)
    have h4 : 8 ^ w.length ≤ 8 ^ (P.length - 1) := Nat.pow_le_pow_right (by omega) (by omega)
    omega
  · exact h.low P _ hP (by omega) (by simpa using Wlk.here)

theorem far_dst {lim : Int} {m : List (List Int)} (hg : Good lim m) {x : Nat} {far : List Int} (h1 : FarOf m x far) (h2 : FarW m x far) {goal : Nat} (hgl : goal < m.length) : IsDst (edgeB m) x goal (far.getD goal 0) := by
  have h3 := (h1.2 goal hgl).1
  rcases Int.lt_or_le (far.getD goal 0) 0 with q | q
  · exact .inl ⟨by omega, fun d' hw => by have := (h2.2.2 goal d' hw).1; omega⟩
  · exact .inr ⟨h2.2.1 goal hgl q, fun d' hw => (h2.2.2 goal d' hw).2⟩
end Go.Proofs.Ythmdkbeccohjkaa
