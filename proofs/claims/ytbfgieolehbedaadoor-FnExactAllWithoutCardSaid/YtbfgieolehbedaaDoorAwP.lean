/- Texts without a pattern: they are counted by the automaton, and listed by their beginnings. -/
import Derived.Test.YtbfgieolehbedaaDoorCnt
import Derived.Test.YtbfgieolehbedaaDoorAllT
import Derived.Lib.IndexMore
namespace Go.Proofs.YtbfgieolehbedaaDoor
set_option linter.unusedSimpArgs false
open Go.ChangeShapes Go.WideShapes Go.ChangeAt Go.RowKit
set_option linter.unusedVariables false

abbrev LB := List UInt8
def preL (xs : List LB) (s : LB) : Bool := xs.any fun x => s.isPrefixOf x
theorem preL_iff (xs : List LB) (s : LB) : preL xs s = true ↔ ∃ x ∈ xs, s <+: x := by
  unfold preL
  simp [List.any_eq_true, List.isPrefixOf_iff_prefix]
def keptL (xs : List LB) : LB → LB
  | [] => []
  | c :: s => if preL xs (c :: s) then c :: s else keptL xs s
theorem keptL_suf (xs : List LB) : ∀ s, keptL xs s <:+ s
  | [] => List.suffix_refl _
  | c :: s => by
    unfold keptL
    split
    · exact List.suffix_refl _
    · exact (keptL_suf xs s).trans (List.suffix_cons c s)
theorem keptL_pre (xs : List LB) (h : xs ≠ []) : ∀ s, ∃ x ∈ xs, keptL xs s <+: x
  | [] => by
    cases xs with
    | nil => exact absurd rfl h
    | cons x l => exact ⟨x, by simp, List.nil_prefix⟩
  | c :: s => by
    unfold keptL
    split
    · rename_i q
      exact (preL_iff _ _).1 q
    · exact keptL_pre xs h s
theorem keptL_max (xs : List LB) (u : LB) (hu : ∃ x ∈ xs, u <+: x) : ∀ s, u <:+ s → u <:+ keptL xs s
  | [], h => h
  | c :: s, h => by
    unfold keptL
    split
    · exact h
    · rename_i q
      rcases List.suffix_cons_iff.1 h with e | e
      · exact absurd ((preL_iff _ _).2 (e ▸ hu)) q
      · exact keptL_max xs u hu s e
theorem suf_anti {a b : LB} (h1 : a <:+ b) (h2 : b <:+ a) : a = b := h1.eq_of_length (Nat.le_antisymm h1.length_le h2.length_le)
theorem suf_snoc {u y : LB} {c : UInt8} (h : u <:+ y ++ [c]) (hu : u ≠ []) : ∃ u', u = u' ++ [c] ∧ u' <:+ y := by
  obtain ⟨t, ht⟩ := h
  have e := List.dropLast_concat_getLast hu
  rw [← e, ← List.append_assoc] at ht
  have h2 := List.append_inj' ht rfl
  refine ⟨u.dropLast, ?_, ⟨t, h2.1⟩⟩
  have h3 : u.getLast hu = c := by simpa using h2.2
  rw [← h3]
  exact e.symm
theorem keptL_step (xs : List LB) (hx : xs ≠ []) (y : LB) (c : UInt8) : keptL xs (keptL xs y ++ [c]) = keptL xs (y ++ [c]) := by
  have hk := keptL_suf xs y
  apply suf_anti
  · refine keptL_max xs _ (keptL_pre xs hx _) _ ?_
    refine (keptL_suf xs _).trans ?_
    obtain ⟨t, ht⟩ := hk
    exact ⟨t, by rw [← List.append_assoc, ht]⟩
  · refine keptL_max xs _ (keptL_pre xs hx _) _ ?_
    by_cases hu : keptL xs (y ++ [c]) = []
    · rw [hu]; exact List.nil_suffix
    · obtain ⟨u', e, hs⟩ := suf_snoc (keptL_suf xs (y ++ [c])) hu
      rw [e]
      obtain ⟨x, hxm, hp⟩ := keptL_pre xs hx (y ++ [c])
      rw [e] at hp
      have hs2 := keptL_max xs u' ⟨x, hxm, (List.prefix_append u' [c]).trans hp⟩ y hs
      obtain ⟨t, ht⟩ := hs2
      exact ⟨t, by rw [← List.append_assoc, ht]⟩
theorem keptL_len (xs : List LB) (L : Nat) (hx : xs ≠ []) (hL : ∀ x ∈ xs, x.length = L) (s : LB) : (keptL xs s).length ≤ L := by
  obtain ⟨x, hxm, hp⟩ := keptL_pre xs hx s
  have := hp.length_le
  rw [hL x hxm] at this
  exact this
theorem keptL_last (xs : List LB) (L d : Nat) (hx : xs ≠ []) (hL : ∀ x ∈ xs, x.length = L) (z : LB) (hz : L ≤ (z.drop d).length) : keptL xs (z.drop d) = keptL xs z := by
  apply suf_anti
  · exact keptL_max xs _ (keptL_pre xs hx _) _ ((keptL_suf xs _).trans (List.drop_suffix d z))
  · refine keptL_max xs _ (keptL_pre xs hx _) _ ?_
    exact List.suffix_of_suffix_length_le (keptL_suf xs z) (List.drop_suffix d z) (Nat.le_trans (keptL_len xs L hx hL z) hz)
theorem keptL_self (xs : List LB) (x : LB) (h : x ∈ xs) : keptL xs x = x :=
  suf_anti (keptL_suf xs x) (keptL_max xs x ⟨x, h, List.prefix_refl x⟩ x (List.suffix_refl x))

theorem sum_pick (x m : Nat) (g : Nat → Int) : sumJ (fun k => if x = k then g k else 0) m = if x < m then g x else 0 := by
  have e : sumJ (fun k => if x = k then g k else 0) m = sumJ (ind x (g x)) m := sumJ_congr m fun k _ => by
    unfold ind
    by_cases h : x = k
    · subst h; rfl
    · rw [if_neg h, if_neg h]
  rw [e, ind_sum]
/-- Texts, sign by sign, that go on from b, in order. -/
def dubL (l : List LB) : List LB := l.flatMap fun t => [t ++ [104], t ++ [116]]
def allL : Nat → List LB
  | 0 => [[]]
  | n + 1 => dubL (allL n)
def extL : Nat → LB → List LB
  | 0, b => [b]
  | k + 1, b => extL k (b ++ [104]) ++ extL k (b ++ [116])
theorem dubL_app (a b : List LB) : dubL (a ++ b) = dubL a ++ dubL b := by unfold dubL; rw [List.flatMap_append]
theorem extL_dub : ∀ (k : Nat) (b : LB), extL (k + 1) b = dubL (extL k b)
  | 0, b => by simp [extL, dubL]
  | k + 1, b => by
    rw [extL, extL_dub k, extL_dub k, ← dubL_app]
    rfl
theorem extL_all : ∀ k, extL k [] = allL k
  | 0 => rfl
  | k + 1 => by rw [extL_dub, extL_all k]; rfl
theorem extL_pre : ∀ (k : Nat) (b x : LB), x ∈ extL k b → b <+: x
  | 0, b, x, h => by
    rw [extL, List.mem_singleton] at h
    rw [h]; exact List.prefix_refl _
  | k + 1, b, x, h => by
    rw [extL, List.mem_append] at h
    rcases h with h | h
    · exact (List.prefix_append b [104]).trans (extL_pre k _ x h)
    · exact (List.prefix_append b [116]).trans (extL_pre k _ x h)
/-- The pattern is nowhere in the text. -/
def freeL (P y : LB) : Bool := decide (¬ P <:+: y)
theorem freeL_iff {P y : LB} : freeL P y = true ↔ ¬ P <:+: y := by unfold freeL; exact decide_eq_true_iff
/-- The model's list. -/
def lstL (P : LB) : Nat → LB → List LB
  | k, b => if P.isSuffixOf b then [] else match k with
    | 0 => [b]
    | k + 1 => lstL P k (b ++ [104]) ++ lstL P k (b ++ [116])
theorem lstL_yes {P b : LB} (h : P.isSuffixOf b = true) (k : Nat) : lstL P k b = [] := by
  cases k <;> (unfold lstL; rw [if_pos h])
theorem lstL_zero {P b : LB} (h : P.isSuffixOf b = false) : lstL P 0 b = [b] := by unfold lstL; rw [if_neg (by rw [h]; simp)]
theorem lstL_succ {P b : LB} (h : P.isSuffixOf b = false) (k : Nat) : lstL P (k + 1) b = lstL P k (b ++ [104]) ++ lstL P k (b ++ [116]) := by
  conv => lhs; unfold lstL
  rw [if_neg (by rw [h]; simp)]
theorem lst_go {P : LB} (hP : P ≠ []) : ∀ (k : Nat) (b : LB), (P.isSuffixOf b = true ∨ freeL P b = true) → lstL P k b = (extL k b).filter (freeL P)
  | k, b, hb => by
    cases hs : P.isSuffixOf b with
    | true =>
      rw [lstL_yes hs]
      symm
      rw [List.filter_eq_nil_iff]
      intro x hx
      rw [freeL_iff]
      intro hno
      apply hno
      exact (List.isSuffixOf_iff_suffix.1 hs).isInfix.trans (extL_pre k b x hx).isInfix
    | false =>
      have hf : freeL P b = true := by
        rcases hb with h | h
        · rw [hs] at h; cases h
        · exact h
      cases k with
      | zero => rw [lstL_zero hs, extL]; simp [hf]
      | succ k =>
        have key : ∀ c : UInt8, P.isSuffixOf (b ++ [c]) = true ∨ freeL P (b ++ [c]) = true := by
          intro c
          cases h2 : P.isSuffixOf (b ++ [c]) with
          | true => exact .inl rfl
          | false =>
            right
            rw [freeL_iff, List.infix_concat_iff]
            rintro (h | h)
            · rw [List.isSuffixOf_iff_suffix.2 h] at h2; cases h2
            · exact (freeL_iff.1 hf) h
        rw [lstL_succ hs, extL, List.filter_append, lst_go hP k _ (key 104), lst_go hP k _ (key 116)]
theorem lst_all {P : LB} (hP : P ≠ []) (n : Nat) : lstL P n [] = (allL n).filter (freeL P) := by
  rw [← extL_all]
  refine lst_go hP n [] (.inr ?_)
  rw [freeL_iff]
  intro h
  exact hP (List.infix_nil.1 h)

/-- How many signs of the pattern a text ends with. -/
def lpL (P y : LB) : Nat := (keptL [P] y).length
theorem lp_take {P y : LB} : keptL [P] y = P.take (lpL P y) := by
  obtain ⟨x, hx, hp⟩ := keptL_pre [P] (by simp) y
  rw [List.mem_singleton] at hx
  subst hx
  exact List.prefix_iff_eq_take.1 hp
theorem lp_le (P y : LB) : lpL P y ≤ P.length := keptL_len [P] P.length (by simp) (by simp) y
theorem lp_full {P y : LB} : lpL P y = P.length ↔ P <:+ y := by
  constructor
  · intro h
    have := keptL_suf [P] y
    rw [lp_take, h, List.take_length] at this
    exact this
  · intro h
    have h1 := keptL_max [P] P ⟨P, by simp, List.prefix_refl P⟩ y h
    have h2 := h1.length_le
    have h3 := lp_le P y
    unfold lpL at *
    omega
theorem lp_step (P y : LB) (c : UInt8) : lpL P (y ++ [c]) = lpL P (P.take (lpL P y) ++ [c]) := by
  show (keptL [P] (y ++ [c])).length = (keptL [P] (P.take (lpL P y) ++ [c])).length
  rw [← lp_take, keptL_step [P] (by simp)]
theorem free_lt {P y : LB} (h : freeL P y = true) : lpL P y < P.length := by
  have h1 := lp_le P y
  have h2 : lpL P y ≠ P.length := fun e => (freeL_iff.1 h) (lp_full.1 e).isInfix
  omega
theorem free_step {P y : LB} (c : UInt8) : freeL P (y ++ [c]) = (freeL P y && decide (lpL P (P.take (lpL P y) ++ [c]) < P.length)) := by
  rw [Bool.eq_iff_iff, Bool.and_eq_true, decide_eq_true_iff, freeL_iff, freeL_iff, List.infix_concat_iff, ← lp_step]
  have h1 := lp_le P (y ++ [c])
  constructor
  · intro h
    refine ⟨fun e => h (.inr e), ?_⟩
    have : lpL P (y ++ [c]) ≠ P.length := fun e => h (.inl (lp_full.1 e))
    omega
  · rintro ⟨h2, h3⟩ (h | h)
    · have := lp_full.2 h; omega
    · exact h2 h
/-- So many texts of the list have no pattern and end with j of its signs. -/
def numL (P : LB) (l : List LB) (j : Nat) : Int := ((l.filter fun y => freeL P y && decide (lpL P y = j)).length : Int)
theorem numL_cons (P x : LB) (l : List LB) (j : Nat) : numL P (x :: l) j = (if freeL P x = true ∧ lpL P x = j then 1 else 0) + numL P l j := by
  unfold numL
  rw [List.filter_cons]
  by_cases h : freeL P x = true ∧ lpL P x = j
  · rw [if_pos h, if_pos (by simp [h.1, h.2])]
    simp
    omega
  · rw [if_neg h, if_neg (by intro e; rw [Bool.and_eq_true, decide_eq_true_iff] at e; exact h e)]
    omega
/-- One toss more. -/
theorem numL_dub {P : LB} (gh gt : Nat → Nat) (hh : ∀ j, j < P.length → gh j = lpL P (P.take j ++ [104])) (ht : ∀ j, j < P.length → gt j = lpL P (P.take j ++ [116])) (k : Nat) (hk : k < P.length) :
    ∀ l : List LB, numL P (dubL l) k = stp gh gt 1 1 (numL P l) P.length k
  | [] => by
    have : ∀ m, sumJ (fun j => con gh gt 1 1 (numL P []) j k) m = 0 := by
      intro m
      have e : sumJ (fun j => con gh gt 1 1 (numL P []) j k) m = sumJ (fun _ => 0) m := sumJ_congr m fun j _ => by simp [con, ind, numL]
      rw [e, sumJ_zero]
    unfold stp
    rw [this]
    rfl
  | x :: l => by
    have ih := numL_dub gh gt hh ht k hk l
    have e1 : dubL (x :: l) = (x ++ [104]) :: (x ++ [116]) :: dubL l := rfl
    have e2 : stp gh gt 1 1 (numL P (x :: l)) P.length k = stp gh gt 1 1 (fun j => if freeL P x = true ∧ lpL P x = j then 1 else 0) P.length k + stp gh gt 1 1 (numL P l) P.length k := by
      unfold stp
      rw [← sumJ_add]
      refine sumJ_congr _ fun j _ => ?_
      unfold con ind
      rw [numL_cons]
      dsimp only
      generalize (if freeL P x = true ∧ lpL P x = j then (1 : Int) else 0) = a
      split <;> split <;> omega
    have e3 : stp gh gt 1 1 (fun j => if freeL P x = true ∧ lpL P x = j then 1 else 0) P.length k = (if freeL P (x ++ [104]) = true ∧ lpL P (x ++ [104]) = k then 1 else 0) + (if freeL P (x ++ [116]) = true ∧ lpL P (x ++ [116]) = k then 1 else 0) := by
      by_cases hf : freeL P x = true
      · have hlt := free_lt hf
        have hc : ∀ (c : UInt8) (g : Nat → Nat), (∀ j, j < P.length → g j = lpL P (P.take j ++ [c])) → ((freeL P (x ++ [c]) = true ∧ lpL P (x ++ [c]) = k) ↔ g (lpL P x) = k) := by
          intro c g hg
          rw [free_step, hf, Bool.true_and, decide_eq_true_iff, lp_step P x c, hg _ hlt]
          constructor
          · exact fun h => h.2
          · exact fun h => ⟨by omega, h⟩
        have hs : stp gh gt 1 1 (fun j => if freeL P x = true ∧ lpL P x = j then 1 else 0) P.length k = sumJ (fun j => if lpL P x = j then ((if gh j = k then 1 else 0) + (if gt j = k then 1 else 0)) else 0) P.length := by
          unfold stp
          refine sumJ_congr _ fun j _ => ?_
          unfold con ind
          by_cases hj : lpL P x = j
          · simp [hf, hj]
          · simp [hf, hj]
        rw [hs, sum_pick, if_pos hlt]
        congr 1
        · by_cases h : gh (lpL P x) = k
          · rw [if_pos h, if_pos ((hc 104 gh hh).2 h)]
          · rw [if_neg h, if_neg fun e => h ((hc 104 gh hh).1 e)]
        · by_cases h : gt (lpL P x) = k
          · rw [if_pos h, if_pos ((hc 116 gt ht).2 h)]
          · rw [if_neg h, if_neg fun e => h ((hc 116 gt ht).1 e)]
      · have hz : ∀ c : UInt8, ¬ (freeL P (x ++ [c]) = true ∧ lpL P (x ++ [c]) = k) := by
          intro c h
          rw [free_step] at h
          simp [hf] at h
        rw [if_neg (hz 104), if_neg (hz 116)]
        have e : stp gh gt 1 1 (fun j => if freeL P x = true ∧ lpL P x = j then 1 else 0) P.length k = sumJ (fun _ => 0) P.length := by
          unfold stp
          refine sumJ_congr _ fun j _ => ?_
          unfold con ind
          simp [hf]
        rw [e, sumJ_zero]
        rfl
    rw [e1, numL_cons, numL_cons, ih, e2, e3]
    omega
theorem cnt_num {P : LB} (hP : P ≠ []) (gh gt : Nat → Nat) (hh : ∀ j, j < P.length → gh j = lpL P (P.take j ++ [104])) (ht : ∀ j, j < P.length → gt j = lpL P (P.take j ++ [116])) :
    ∀ (t k : Nat), k < P.length → cnt gh gt 1 1 P.length t k = numL P (allL t) k
  | 0, k, hk => by
    have h0 : freeL P [] = true := by
      rw [freeL_iff]
      intro h
      exact hP (List.infix_nil.1 h)
    have h1 : lpL P [] = 0 := rfl
    unfold cnt allL
    rw [numL_cons, h1]
    by_cases e : k = 0
    · rw [if_pos e, if_pos ⟨h0, e.symm⟩]; rfl
    · rw [if_neg e, if_neg fun h => e h.2.symm]; rfl
  | t + 1, k, hk => by
    unfold cnt allL
    rw [numL_dub gh gt hh ht k hk]
    unfold stp
    refine sumJ_congr _ fun j hj => ?_
    unfold con
    rw [cnt_num hP gh gt hh ht t j hj]
theorem num_sum (P : LB) : ∀ l : List LB, sumJ (numL P l) P.length = ((l.filter (freeL P)).length : Int)
  | [] => by
    have : sumJ (numL P []) P.length = sumJ (fun _ => 0) P.length := sumJ_congr _ fun j _ => rfl
    rw [this, sumJ_zero]
    rfl
  | x :: l => by
    have ih := num_sum P l
    have e : sumJ (numL P (x :: l)) P.length = sumJ (fun j => if lpL P x = j then (if freeL P x = true then 1 else 0) else 0) P.length + sumJ (numL P l) P.length := by
      rw [← sumJ_add]
      refine sumJ_congr _ fun j _ => ?_
      rw [numL_cons]
      congr 1
      by_cases h1 : freeL P x = true <;> by_cases h2 : lpL P x = j <;> simp [h1, h2]
    rw [e, ih, sum_pick, List.filter_cons]
    by_cases hf : freeL P x = true
    · rw [if_pos (free_lt hf), if_pos hf, if_pos hf]
      simp
      omega
    · rw [if_neg hf, if_neg hf]
      split <;> omega
/-- The automaton counts the texts without the pattern. -/
theorem cnt_free {P : LB} (hP : P ≠ []) (gh gt : Nat → Nat) (hh : ∀ j, j < P.length → gh j = lpL P (P.take j ++ [104])) (ht : ∀ j, j < P.length → gt j = lpL P (P.take j ++ [116])) (t : Nat) :
    sumJ (cnt gh gt 1 1 P.length t) P.length = (((allL t).filter (freeL P)).length : Int) := by
  rw [← num_sum]
  exact sumJ_congr _ fun k hk => cnt_num hP gh gt hh ht t k hk

theorem goD_eq {p : ByteArray} {j : Nat} {c : ByteArray} {m : Nat} : ∀ K, m ≤ K → (m = 0 ∨ fitB p j c m = true) → (∀ k, m < k → k ≤ K → fitB p j c k = false) → goD p j c K = m
  | 0, h, _, _ => by
    have := goD_le p j c 0
    omega
  | K + 1, h, h1, h2 => by
    by_cases e : m = K + 1
    · rcases h1 with h1 | h1
      · omega
      · rw [e] at h1 ⊢
        exact goD_yes h1
    · rw [goD_no (h2 (K + 1) (by omega) (Nat.le_refl _))]
      exact goD_eq K (by omega) h1 fun k a b => h2 k a (by omega)
theorem fit_iff {p : ByteArray} {j : Nat} {u : UInt8} {k : Nat} (hj : j < p.size) (hk : k ≤ j + 1) : fitB p j ⟨#[u]⟩ k = true ↔ p.data.toList.take k <:+ p.data.toList.take j ++ [u] := by
  have hl : (p.data.toList.take j ++ [u]).length = j + 1 := by rw [List.length_append, List.length_take, len_list]; simp; omega
  have hx : (txtN p j ⟨#[u]⟩).data.toList = p.data.toList.take j ++ [u] := by
    unfold txtN
    rw [ByteArray.data_append, Array.toList_append, ext_list, List.drop_zero]
  have hk2 : (p.data.toList.take k).length = k := by rw [List.length_take, len_list]; omega
  unfold fitB
  have ht : (p.data.toList.take j ++ [u]).take (j + 1) = p.data.toList.take j ++ [u] := List.take_of_length_le (by omega)
  rw [decide_eq_true_iff, ba_eq, ext_list, ext_list, List.drop_zero, hx, List.suffix_iff_eq_drop, hk2, hl, ht]
theorem goN_lp (p : ByteArray) (j : Nat) (u : UInt8) (hj : j < p.size) : goN p j ⟨#[u]⟩ = lpL p.data.toList (p.data.toList.take j ++ [u]) := by
  have hP := len_list p
  generalize hm : lpL p.data.toList (p.data.toList.take j ++ [u]) = m
  have ht : keptL [p.data.toList] (p.data.toList.take j ++ [u]) = p.data.toList.take m := by rw [← hm]; exact lp_take
  have hs := keptL_suf [p.data.toList] (p.data.toList.take j ++ [u])
  have hml : m ≤ j + 1 := by
    have := hs.length_le
    rw [show (keptL [p.data.toList] (p.data.toList.take j ++ [u])).length = m from hm, List.length_append, List.length_take] at this
    simp at this
    omega
  rw [ht] at hs
  refine goD_eq (j + 1) hml (.inr ((fit_iff hj hml).2 hs)) fun k h1 h2 => ?_
  rw [← Bool.not_eq_true, fit_iff hj h2]
  intro h3
  have h4 := (keptL_max [p.data.toList] _ ⟨_, by simp, List.take_prefix k _⟩ _ h3).length_le
  rw [show (keptL [p.data.toList] (p.data.toList.take j ++ [u])).length = m from hm, List.length_take] at h4
  omega
/-- The number of texts without the pattern is the number of those in the list. -/
theorem without_len (p : ByteArray) (h1 : 1 ≤ p.size) (t : Nat) : sumJ (cntS p t) p.size = (((allL t).filter (freeL p.data.toList)).length : Int) := by
  have hP := len_list p
  have hne : p.data.toList ≠ [] := by intro e; rw [e] at hP; simp at hP; omega
  have := cnt_free hne (gH p) (gT p) (fun j hj => goN_lp p j 104 (by omega)) (fun j hj => goN_lp p j 116 (by omega)) t
  rw [hP] at this
  exact this

def baT (l : LB) : ByteArray := ⟨l.toArray⟩
theorem baT_list (l : LB) : (baT l).data.toList = l := by simp [baT]
theorem baT_snoc (l : LB) (c : UInt8) : baT (l ++ [c]) = baT l ++ ⟨#[c]⟩ := by
  rw [ba_eq, ByteArray.data_append, Array.toList_append, baT_list, baT_list]
theorem allTx_map : ∀ n, allTx n = (allL n).map baT
  | 0 => rfl
  | n + 1 => by
    unfold allTx allL
    rw [allTx_map n]
    generalize allL n = l
    induction l with
    | nil => rfl
    | cons x l ih =>
      unfold dubS dubL at *
      rw [List.map_cons, List.flatMap_cons, ih, List.flatMap_cons, List.map_append]
      simp [baT_snoc]
theorem allL_len (n : Nat) : (allL n).length = 2 ^ n := by
  have := allTx_len n
  rw [allTx_map, List.length_map] at this
  exact this
/-- The texts without the pattern, in order. -/
def awL (p : ByteArray) (n : Nat) : List ByteArray := ((allL n).filter (freeL p.data.toList)).map baT
theorem index_free (P y : LB) : decide (0 ≤ Lib.index y P) = !freeL P y := by
  rw [Bool.eq_iff_iff, decide_eq_true_iff, Bool.not_eq_true', ← Bool.not_eq_true, freeL_iff, Classical.not_not]
  rcases Lib.index_spec y P with ⟨h1, h2⟩ | ⟨i, h1, h2, h3, _⟩
  · constructor
    · intro h; omega
    · rintro ⟨a, b, e⟩
      have := h2 a.length (by rw [← e]; simp)
      unfold Lib.occAt at this
      rw [← e, List.append_assoc, List.drop_left] at this
      have h4 : P.isPrefixOf (P ++ b) = true := List.isPrefixOf_iff_prefix.2 (List.prefix_append P b)
      rw [h4] at this
      cases this
  · constructor
    · intro _
      unfold Lib.occAt at h3
      obtain ⟨b, e⟩ := List.isPrefixOf_iff_prefix.1 h3
      exact ⟨y.take i, b, by rw [List.append_assoc, e, List.take_append_drop]⟩
    · intro _; omega
end Go.Proofs.YtbfgieolehbedaaDoor
