/- Rings of all words: the prime words that the search finds are those that are put in one by one. Of no program. -/
import Derived.Test.YtiblggfihpobkabPwQ
import Derived.Test.YtiblggfihpobkabDvP
import Derived.Test.YtiblggfihpobkabWoRp
namespace Go.Proofs.Ytiblggfihpobkab
set_option linter.unusedSimpArgs false
open Go.ChangeShapes Go.WideShapes Go.ChangeAt Go.RowKit
set_option linter.unusedVariables false

def Srt (l : List ByteArray) : Prop := l.Pairwise fun a b => ltS a b = true
theorem lt_more : ∀ (l : List UInt8) (x : UInt8) (u : List UInt8), l < l ++ x :: u
  | [], x, u => List.nil_lt_cons _ _
  | a :: l, x, u => by
    rw [List.cons_append, List.cons_lt_cons_iff]
    exact .inr ⟨rfl, lt_more l x u⟩
theorem lt_split (x y : UInt8) (h : x < y) : ∀ (l u v : List UInt8), l ++ x :: u < l ++ y :: v
  | [], u, v => by
    rw [List.nil_append, List.nil_append, List.cons_lt_cons_iff]
    exact .inl h
  | a :: l, u, v => by
    rw [List.cons_append, List.cons_append, List.cons_lt_cons_iff]
    exact .inr ⟨rfl, lt_split x y h l u v⟩
theorem ltr_lt (j k : Nat) (h : j < k) (hk : k < 26) : ltr j < ltr k := by
  unfold ltr
  rw [UInt8.lt_iff_toNat_lt, UInt8.toNat_ofNat', UInt8.toNat_ofNat']
  omega
theorem mem_hit {ls : List Int} {s t : ByteArray} : t ∈ hit ls s ↔ t = s ∧ hasI ls (t.size : Int) = true ∧ isPr t = true := by
  unfold hit
  constructor
  · intro h
    split at h
    · rename_i g
      rw [Bool.and_eq_true] at g
      obtain rfl : t = s := by simpa using h
      exact ⟨rfl, g.1, g.2⟩
    · simp at h
  · rintro ⟨rfl, g1, g2⟩
    rw [if_pos (by rw [g1, g2]; rfl)]
    simp
theorem app_list (s t : ByteArray) : (s ++ t).data.toList = s.data.toList ++ t.data.toList := by rw [ByteArray.data_append, Array.toList_append]
theorem app_assoc (s t u : ByteArray) : s ++ t ++ u = s ++ (t ++ u) := by
  rw [ba_eq, app_list, app_list, app_list, app_list, List.append_assoc]
theorem one_wd (n : Nat) (n1 : 1 ≤ n) (n2 : n ≤ 26) (d k r : Nat) (hk : k < n) (hr : r < n ^ d) : one k ++ wdB n d r = wdB n (d + 1) (k * n ^ d + r) := by
  rw [ba_eq, app_list, one_list k (by omega), wdB_list, wdB_list, wd_lead n n1 d k r hk hr]
  rfl
theorem mem_kids {n : Nat} {ls : List Int} {d : Nat} {s t : ByteArray} : ∀ k, t ∈ kids n ls d s k ↔ ∃ j, j < k ∧ t ∈ dfs n ls d (s ++ one j) := by
  intro k
  unfold kids
  rw [List.mem_flatMap]
  constructor
  · rintro ⟨j, hj, h⟩; exact ⟨j, List.mem_range.1 hj, h⟩
  · rintro ⟨j, hj, h⟩; exact ⟨j, List.mem_range.2 hj, h⟩
theorem mem_dfs (n : Nat) (ls : List Int) (n1 : 1 ≤ n) (n2 : n ≤ 26) (t : ByteArray) : ∀ d s, t ∈ dfs n ls d s ↔ ∃ e r, e ≤ d ∧ r < n ^ e ∧ t = s ++ wdB n e r ∧ hasI ls (t.size : Int) = true ∧ isPr t = true
  | 0, s => by
    show t ∈ hit ls s ↔ _
    rw [mem_hit]
    constructor
    · rintro ⟨rfl, g⟩
      exact ⟨0, 0, Nat.le_refl _, by simp, by rw [wdB_zero, app_empty], g⟩
    · rintro ⟨e, r, he, hr, ht, g⟩
      obtain rfl : e = 0 := by omega
      rw [wdB_zero, app_empty] at ht
      exact ⟨ht, g⟩
  | d + 1, s => by
    show t ∈ hit ls s ++ kids n ls d s n ↔ _
    rw [List.mem_append, mem_hit, mem_kids]
    constructor
    · rintro (⟨rfl, g⟩ | ⟨j, hj, h⟩)
      · exact ⟨0, 0, by omega, by simp, by rw [wdB_zero, app_empty], g⟩
      · obtain ⟨e, r, he, hr, ht, g⟩ := (mem_dfs n ls n1 n2 t d (s ++ one j)).1 h
        refine ⟨e + 1, j * n ^ e + r, by omega, ?_, ?_, g⟩
        · rw [Nat.pow_succ, Nat.mul_comm (n ^ e) n]
          calc j * n ^ e + r < j * n ^ e + n ^ e := by omega
            _ = (j + 1) * n ^ e := by rw [Nat.succ_mul]
            _ ≤ n * n ^ e := Nat.mul_le_mul_right _ hj
        · rw [ht, app_assoc, one_wd n n1 n2 e j r hj hr]
    · rintro ⟨e, r, he, hr, ht, g⟩
      cases e with
      | zero => exact .inl ⟨by rw [wdB_zero, app_empty] at ht; exact ht, g⟩
      | succ e =>
        have hp : 0 < n ^ e := Nat.pow_pos (by omega)
        have hj : r / n ^ e < n := by
          rw [Nat.div_lt_iff_lt_mul hp, Nat.mul_comm, ← Nat.pow_succ]
          exact hr
        have hm : r % n ^ e < n ^ e := Nat.mod_lt _ hp
        refine .inr ⟨r / n ^ e, hj, (mem_dfs n ls n1 n2 t d _).2 ⟨e, r % n ^ e, by omega, hm, ?_, g⟩⟩
        rw [app_assoc, one_wd n n1 n2 e _ _ hj hm, ht, Nat.mul_comm, Nat.div_add_mod]
theorem dfs_pre (n : Nat) (ls : List Int) (n1 : 1 ≤ n) (n2 : n ≤ 26) (d : Nat) (s t : ByteArray) (h : t ∈ dfs n ls d s) : ∃ u, t.data.toList = s.data.toList ++ u := by
  obtain ⟨e, r, _, _, ht, _⟩ := (mem_dfs n ls n1 n2 t d s).1 h
  exact ⟨_, by rw [ht, app_list]⟩
theorem dfs_one (n : Nat) (ls : List Int) (n1 : 1 ≤ n) (n2 : n ≤ 26) (d j : Nat) (hj : j < 26) (s t : ByteArray) (h : t ∈ dfs n ls d (s ++ one j)) : ∃ u, t.data.toList = s.data.toList ++ ltr j :: u := by
  obtain ⟨u, hu⟩ := dfs_pre n ls n1 n2 d _ t h
  exact ⟨u, by rw [hu, app_list, one_list j hj, List.append_assoc]; rfl⟩
theorem dfs_srt (n : Nat) (ls : List Int) (n1 : 1 ≤ n) (n2 : n ≤ 26) : ∀ d s, Srt (dfs n ls d s)
  | 0, s => by
    show Srt (hit ls s)
    unfold hit
    split
    · exact List.pairwise_singleton _ _
    · exact List.Pairwise.nil
  | d + 1, s => by
    have hk : ∀ k, k ≤ n → Srt (kids n ls d s k) := by
      intro k
      induction k with
      | zero => intro _; exact List.Pairwise.nil
      | succ k ih =>
        intro hk
        rw [kids_succ]
        refine List.pairwise_append.2 ⟨ih (by omega), dfs_srt n ls n1 n2 d _, fun a ha b hb => ?_⟩
        obtain ⟨j, hj, ha2⟩ := (mem_kids k).1 ha
        obtain ⟨u, hu⟩ := dfs_one n ls n1 n2 d j (by omega) s a ha2
        obtain ⟨v, hv⟩ := dfs_one n ls n1 n2 d k (by omega) s b hb
        unfold ltS
        rw [decide_eq_true_iff, hu, hv]
        exact lt_split _ _ (ltr_lt j k hj (by omega)) _ _ _
    show Srt (hit ls s ++ kids n ls d s n)
    refine List.pairwise_append.2 ⟨?_, hk n (Nat.le_refl _), fun a ha b hb => ?_⟩
    · unfold hit
      split
      · exact List.pairwise_singleton _ _
      · exact List.Pairwise.nil
    · obtain ⟨rfl, _⟩ := mem_hit.1 ha
      obtain ⟨j, hj, hb2⟩ := (mem_kids n).1 hb
      obtain ⟨v, hv⟩ := dfs_one n ls n1 n2 d j (by omega) a b hb2
      unfold ltS
      rw [decide_eq_true_iff, hv]
      exact lt_more _ _ _
theorem srt_ext : ∀ {l m : List ByteArray}, Srt l → Srt m → (∀ x, x ∈ l ↔ x ∈ m) → l = m
  | [], [], _, _, _ => rfl
  | [], b :: m, _, _, h => by have := (h b).2 (by simp); simp at this
  | a :: l, [], _, _, h => by have := (h a).1 (by simp); simp at this
  | a :: l, b :: m, h1, h2, h => by
    obtain ⟨p1, p2⟩ := List.pairwise_cons.1 h1
    obtain ⟨q1, q2⟩ := List.pairwise_cons.1 h2
    have hab : a = b := by
      rcases List.mem_cons.1 ((h a).1 (by simp)) with e | e
      · exact e
      · rcases List.mem_cons.1 ((h b).2 (by simp)) with f | f
        · exact f.symm
        · have := ltS_tr (p1 b f) (q1 a e)
          rw [ltS_irr] at this
          cases this
    subst hab
    congr 1
    refine srt_ext p2 q2 fun x => ⟨fun hx => ?_, fun hx => ?_⟩
    · rcases List.mem_cons.1 ((h x).1 (List.mem_cons_of_mem _ hx)) with e | e
      · have := p1 x hx
        rw [e, ltS_irr] at this
        cases this
      · exact e
    · rcases List.mem_cons.1 ((h x).2 (List.mem_cons_of_mem _ hx)) with e | e
      · have := q1 x hx
        rw [e, ltS_irr] at this
        cases this
      · exact e
/-- Ahead of how many texts w does not come. -/
def insAt (W : List ByteArray) (w : ByteArray) : Nat → Nat
  | 0 => 0
  | a + 1 => if ltS w (W.getD a ByteArray.empty) then insAt W w a else a + 1
def ins (W : List ByteArray) (w : ByteArray) : List ByteArray := W.take (insAt W w W.length) ++ [w] ++ W.drop (insAt W w W.length)
theorem insAt_in (W : List ByteArray) (w : ByteArray) : ∀ a, insAt W w a ≤ a ∧ (∀ j, insAt W w a ≤ j → j < a → ltS w (W.getD j ByteArray.empty) = true) ∧ (0 < insAt W w a → ltS w (W.getD (insAt W w a - 1) ByteArray.empty) = false)
  | 0 => ⟨Nat.le_refl _, fun j h1 h2 => by omega, fun h => by unfold insAt at h; omega⟩
  | a + 1 => by
    obtain ⟨x, y, z⟩ := insAt_in W w a
    unfold insAt
    split
    · rename_i h
      refine ⟨by omega, fun j h1 h2 => ?_, z⟩
      by_cases e : j = a
      · rw [e]; exact h
      · exact y j h1 (by omega)
    · rename_i h
      exact ⟨Nat.le_refl _, fun j h1 h2 => by omega, fun _ => by rw [Nat.add_sub_cancel]; simpa using h⟩
theorem getD_of {W : List ByteArray} {j : Nat} (hj : j < W.length) : W.getD j ByteArray.empty = W[j] := by
  rw [List.getD_eq_getElem?_getD, List.getElem?_eq_getElem hj]
  rfl
theorem mem_ins (W : List ByteArray) (w x : ByteArray) : x ∈ ins W w ↔ x = w ∨ x ∈ W := by
  unfold ins
  rw [List.mem_append, List.mem_append, List.mem_singleton]
  constructor
  · rintro ((h | h) | h)
    · exact .inr (List.mem_of_mem_take h)
    · exact .inl h
    · exact .inr (List.mem_of_mem_drop h)
  · rintro (h | h)
    · exact .inl (.inr h)
    · rw [← List.take_append_drop (insAt W w W.length) W, List.mem_append] at h
      rcases h with h | h
      · exact .inl (.inl h)
      · exact .inr h
theorem ins_srt {W : List ByteArray} {w : ByteArray} (h : Srt W) (hw : w ∉ W) : Srt (ins W w) := by
  obtain ⟨x, y, z⟩ := insAt_in W w W.length
  unfold ins
  generalize insAt W w W.length = a at *
  have hlow : ∀ t ∈ W.take a, ltS t w = true := by
    intro t ht
    obtain ⟨j, hj, rfl⟩ := List.mem_iff_getElem.1 ht
    rw [List.length_take] at hj
    rw [List.getElem_take]
    have ha : 0 < a := by omega
    have hz := z ha
    have hlt : a - 1 < W.length := by omega
    rw [getD_of hlt] at hz
    have hne : w ≠ W[a - 1] := fun e => hw (by rw [e]; exact List.getElem_mem _)
    have h1 := ltS_tri hz hne
    by_cases e : j = a - 1
    · subst e; exact h1
    · exact ltS_tr (List.pairwise_iff_getElem.1 h j (a - 1) (by omega) hlt (by omega)) h1
  have hhigh : ∀ t ∈ W.drop a, ltS w t = true := by
    intro t ht
    obtain ⟨j, hj, rfl⟩ := List.mem_iff_getElem.1 ht
    rw [List.length_drop] at hj
    rw [List.getElem_drop]
    have := y (a + j) (by omega) (by omega)
    rw [getD_of (by omega)] at this
    exact this
  refine List.pairwise_append.2 ⟨List.pairwise_append.2 ⟨h.sublist (List.take_sublist _ _), List.pairwise_singleton _ _, fun p hp q hq => ?_⟩, h.sublist (List.drop_sublist _ _), fun p hp q hq => ?_⟩
  · rw [List.mem_singleton] at hq
    rw [hq]
    exact hlow p hp
  · rw [List.mem_append, List.mem_singleton] at hp
    rcases hp with hp | hp
    · exact ltS_tr (hlow p hp) (hhigh q hq)
    · rw [hp]; exact hhigh q hq
theorem insAll_in : ∀ (ws W : List ByteArray), Srt ws → Srt W → (∀ w ∈ ws, w ∉ W) → Srt (ws.foldl ins W) ∧ ∀ x, x ∈ ws.foldl ins W ↔ x ∈ ws ∨ x ∈ W
  | [], W, _, h, _ => ⟨h, fun x => by simp⟩
  | w :: ws, W, h1, h2, h3 => by
    obtain ⟨p1, p2⟩ := List.pairwise_cons.1 h1
    obtain ⟨a, b⟩ := insAll_in ws (ins W w) p2 (ins_srt h2 (h3 w (by simp))) (fun v hv hm => by
      rcases (mem_ins W w v).1 hm with e | e
      · have := p1 v hv
        rw [e, ltS_irr] at this
        cases this
      · exact h3 v (by simp [hv]) e)
    refine ⟨a, fun x => ?_⟩
    rw [List.foldl_cons, b x, mem_ins]
    simp only [List.mem_cons]
    constructor
    · rintro (h | h | h)
      · exact .inl (.inr h)
      · exact .inl (.inl h)
      · exact .inr h
    · rintro ((h | h) | h)
      · exact .inr (.inl h)
      · exact .inl h
      · exact .inr (.inr h)
theorem mem_pwL (n k : Nat) (t : ByteArray) : t ∈ pwL n k (n ^ k) ↔ ∃ r, r < n ^ k ∧ t = wdB n k r ∧ isPr t = true := by
  unfold pwL
  rw [List.mem_flatMap]
  constructor
  · rintro ⟨r, hr, h⟩
    unfold hit1 at h
    split at h
    · rename_i g
      obtain rfl : t = wdB n k r := by simpa using h
      exact ⟨r, List.mem_range.1 hr, rfl, g⟩
    · simp at h
  · rintro ⟨r, hr, rfl, g⟩
    exact ⟨r, List.mem_range.2 hr, by unfold hit1; rw [if_pos g]; simp⟩
theorem pwL_srt (n k : Nat) (n1 : 1 ≤ n) (n2 : n ≤ 26) : Srt (pwL n k (n ^ k)) := by
  rw [← pw_eq n k n1 n2]
  exact dfs_srt n _ n1 n2 _ _
/-- The words that have been put in behind the numbers up to k. -/
def ringK (n L : Nat) : Nat → List ByteArray
  | 0 => []
  | k + 1 => if L % (k + 1) = 0 then (pwL n (k + 1) (n ^ (k + 1))).foldl ins (ringK n L k) else ringK n L k
theorem ringK_in (n L : Nat) (n1 : 1 ≤ n) (n2 : n ≤ 26) : ∀ k, Srt (ringK n L k) ∧ ∀ x, x ∈ ringK n L k ↔ ∃ j, 1 ≤ j ∧ j ≤ k ∧ L % j = 0 ∧ x ∈ pwL n j (n ^ j)
  | 0 => ⟨List.Pairwise.nil, fun x => ⟨fun h => by simp [ringK] at h, fun ⟨j, a, b, _⟩ => by omega⟩⟩
  | k + 1 => by
    obtain ⟨a, b⟩ := ringK_in n L n1 n2 k
    unfold ringK
    split
    · rename_i h
      obtain ⟨c, d⟩ := insAll_in (pwL n (k + 1) (n ^ (k + 1))) (ringK n L k) (pwL_srt n (k + 1) n1 n2) a (fun w hw hm => by
        obtain ⟨r, _, rfl, _⟩ := (mem_pwL n (k + 1) w).1 hw
        obtain ⟨j, _, hj, _, hx⟩ := (b _).1 hm
        obtain ⟨q, _, e, _⟩ := (mem_pwL n j _).1 hx
        have := congrArg ByteArray.size e
        rw [wdB_size, wdB_size] at this
        omega)
      refine ⟨c, fun x => ?_⟩
      rw [d x, b x]
      constructor
      · rintro (g | ⟨j, x1, x2, x3, x4⟩)
        · exact ⟨k + 1, by omega, Nat.le_refl _, h, g⟩
        · exact ⟨j, x1, by omega, x3, x4⟩
      · rintro ⟨j, x1, x2, x3, x4⟩
        by_cases e : j = k + 1
        · subst e; exact .inl x4
        · exact .inr ⟨j, x1, by omega, x3, x4⟩
    · rename_i h
      refine ⟨a, fun x => ?_⟩
      rw [b x]
      constructor
      · rintro ⟨j, x1, x2, x3, x4⟩
        exact ⟨j, x1, by omega, x3, x4⟩
      · rintro ⟨j, x1, x2, x3, x4⟩
        by_cases e : j = k + 1
        · subst e; exact absurd x3 h
        · exact ⟨j, x1, by omega, x3, x4⟩
theorem has_dv (L e : Nat) : hasI (dvL L) (e : Int) = true ↔ 1 ≤ e ∧ e ≤ L ∧ L % e = 0 := by
  unfold hasI dvL
  rw [List.contains_iff_mem]
  have key : ∀ m, (e : Int) ∈ selR (dvp L) 1 m ↔ 1 ≤ e ∧ e ≤ m ∧ L % e = 0 := by
    intro m
    induction m with
    | zero => simp [selR]; omega
    | succ m ih =>
      cases hq : dvp L (1 + m)
      · rw [selR_no hq, ih]
        have hne : ¬ L % (1 + m) = 0 := by unfold dvp at hq; simpa using hq
        constructor
        · rintro ⟨a, b, c⟩; exact ⟨a, by omega, c⟩
        · rintro ⟨a, b, c⟩
          refine ⟨a, ?_, c⟩
          by_cases h : e = m + 1
          · subst h; rw [Nat.add_comm] at c; exact absurd c hne
          · omega
      · rw [selR_yes hq, List.mem_append, ih, List.mem_singleton]
        have hz : L % (1 + m) = 0 := by unfold dvp at hq; simpa using hq
        constructor
        · rintro (⟨a, b, c⟩ | h)
          · exact ⟨a, by omega, c⟩
          · obtain rfl : e = 1 + m := by omega
            exact ⟨by omega, by omega, hz⟩
        · rintro ⟨a, b, c⟩
          by_cases h : e = 1 + m
          · exact .inr (by omega)
          · exact .inl ⟨a, by omega, c⟩
  exact key L
/-- Put in one by one, or found by the search: the same words in the same order. -/
theorem ring_dfs (n L : Nat) (n1 : 1 ≤ n) (n2 : n ≤ 26) : ringK n L L = dfs n (dvL L) L ByteArray.empty := by
  obtain ⟨a, b⟩ := ringK_in n L n1 n2 L
  refine srt_ext a (dfs_srt n _ n1 n2 _ _) fun x => ?_
  rw [b x, mem_dfs n _ n1 n2]
  constructor
  · rintro ⟨j, x1, x2, x3, x4⟩
    obtain ⟨r, hr, rfl, g⟩ := (mem_pwL n j x).1 x4
    exact ⟨j, r, x2, hr, by rw [empty_app], by rw [wdB_size]; exact (has_dv L j).2 ⟨x1, x2, x3⟩, g⟩
  · rintro ⟨e, r, he, hr, ht, h1, h2⟩
    rw [empty_app] at ht
    rw [ht, wdB_size] at h1
    obtain ⟨x1, x2, x3⟩ := (has_dv L e).1 h1
    exact ⟨e, x1, x2, x3, (mem_pwL n e x).2 ⟨r, hr, ht, h2⟩⟩
end Go.Proofs.Ytiblggfihpobkab
