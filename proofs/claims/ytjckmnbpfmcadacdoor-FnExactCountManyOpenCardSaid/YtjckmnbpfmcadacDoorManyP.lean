/- What is kept of tosses, for several patterns of one length, and the model's machine: what is of no program. -/
import Derived.Test.YtjckmnbpfmcadacDoorLump
import Derived.Test.YtjckmnbpfmcadacDoorTosG
import Derived.Test.YtjckmnbpfmcadacDoorWinP
namespace Go.Proofs.YtjckmnbpfmcadacDoor
set_option linter.unusedSimpArgs false
open Go.ChangeShapes Go.WideShapes Go.ChangeAt Go.RowKit
set_option linter.unusedVariables false

abbrev LB := List UInt8
def preL (xs : List LB) (s : LB) : Bool := xs.any fun x => s.isPrefixOf x
theorem preL_iff (xs : List LB) (s : LB) : preL xs s = true ↔ ∃ x ∈ xs, s <+: x := by
  unfold preL
  simp [List.any_eq_true, List.isPrefixOf_iff_prefix]
def keptL (xs : List LB) : LB → LB
  | [] => []
  | c :: s => if preL xs (c :: s) then c :: s else keptL xs s
theorem keptL_suf (xs : List LB) : ∀ s, keptL xs s <:+ s
  | [] => List.suffix_refl _
  | c :: s => by
    unfold keptL
    split
    · exact List.suffix_refl _
    · exact (keptL_suf xs s).trans (List.suffix_cons c s)
theorem keptL_pre (xs : List LB) (h : xs ≠ []) : ∀ s, ∃ x ∈ xs, keptL xs s <+: x
  | [] => by
    cases xs with
    | nil => exact absurd rfl h
    | cons x l => exact ⟨x, by simp, List.nil_prefix⟩
  | c :: s => by
    unfold keptL
    split
    · rename_i q
      exact (preL_iff _ _).1 q
    · exact keptL_pre xs h s
theorem keptL_max (xs : List LB) (u : LB) (hu : ∃ x ∈ xs, u <+: x) : ∀ s, u <:+ s → u <:+ keptL xs s
  | [], h => h
  | c :: s, h => by
    unfold keptL
    split
    · exact h
    · rename_i q
      rcases List.suffix_cons_iff.1 h with e | e
      · exact absurd ((preL_iff _ _).2 (e ▸ hu)) q
      · exact keptL_max xs u hu s e
theorem suf_anti {a b : LB} (h1 : a <:+ b) (h2 : b <:+ a) : a = b := h1.eq_of_length (Nat.le_antisymm h1.length_le h2.length_le)
theorem suf_snoc {u y : LB} {c : UInt8} (h : u <:+ y ++ [c]) (hu : u ≠ []) : ∃ u', u = u' ++ [c] ∧ u' <:+ y := by
  obtain ⟨t, ht⟩ := h
  have e := List.dropLast_concat_getLast hu
  rw [← e, ← List.append_assoc] at ht
  have h2 := List.append_inj' ht rfl
  refine ⟨u.dropLast, ?_, ⟨t, h2.1⟩⟩
  have h3 : u.getLast hu = c := by simpa using h2.2
  rw [← h3]
  exact e.symm
theorem keptL_step (xs : List LB) (hx : xs ≠ []) (y : LB) (c : UInt8) : keptL xs (keptL xs y ++ [c]) = keptL xs (y ++ [c]) := by
  have hk := keptL_suf xs y
  apply suf_anti
  · refine keptL_max xs _ (keptL_pre xs hx _) _ ?_
    refine (keptL_suf xs _).trans ?_
    obtain ⟨t, ht⟩ := hk
    exact ⟨t, by rw [← List.append_assoc, ht]⟩
  · refine keptL_max xs _ (keptL_pre xs hx _) _ ?_
    by_cases hu : keptL xs (y ++ [c]) = []
    · rw [hu]; exact List.nil_suffix
    · obtain ⟨u', e, hs⟩ := suf_snoc (keptL_suf xs (y ++ [c])) hu
      rw [e]
      obtain ⟨x, hxm, hp⟩ := keptL_pre xs hx (y ++ [c])
      rw [e] at hp
      have hs2 := keptL_max xs u' ⟨x, hxm, (List.prefix_append u' [c]).trans hp⟩ y hs
      obtain ⟨t, ht⟩ := hs2
      exact ⟨t, by rw [← List.append_assoc, ht]⟩
theorem keptL_len (xs : List LB) (L : Nat) (hx : xs ≠ []) (hL : ∀ x ∈ xs, x.length = L) (s : LB) : (keptL xs s).length ≤ L := by
  obtain ⟨x, hxm, hp⟩ := keptL_pre xs hx s
  have := hp.length_le
  rw [hL x hxm] at this
  exact this
theorem keptL_last (xs : List LB) (L d : Nat) (hx : xs ≠ []) (hL : ∀ x ∈ xs, x.length = L) (z : LB) (hz : L ≤ (z.drop d).length) : keptL xs (z.drop d) = keptL xs z := by
  apply suf_anti
  · exact keptL_max xs _ (keptL_pre xs hx _) _ ((keptL_suf xs _).trans (List.drop_suffix d z))
  · refine keptL_max xs _ (keptL_pre xs hx _) _ ?_
    exact List.suffix_of_suffix_length_le (keptL_suf xs z) (List.drop_suffix d z) (Nat.le_trans (keptL_len xs L hx hL z) hz)
theorem keptL_self (xs : List LB) (x : LB) (h : x ∈ xs) : keptL xs x = x :=
  suf_anti (keptL_suf xs x) (keptL_max xs x ⟨x, h, List.prefix_refl x⟩ x (List.suffix_refl x))

theorem snocI {P : LB → Prop} (nil : P []) (snoc : ∀ y c, P y → P (y ++ [c])) (y : LB) : P y := by
  have h : ∀ l : LB, P l.reverse := by
    intro l
    induction l with
    | nil => exact nil
    | cons c l ih => rw [List.reverse_cons]; exact snoc _ _ ih
  have := h y.reverse
  rwa [List.reverse_reverse] at this
/- Texts as numbers. -/
def bitU (c : UInt8) : Nat := if c = 104 then 1 else 0
theorem bitU_le (c : UInt8) : bitU c ≤ 1 := by unfold bitU; split <;> omega
def codeF (a : Nat) (y : LB) : Nat := y.foldl (fun n c => 2 * n + bitU c) a
theorem codeF_snoc (a : Nat) (y : LB) (c : UInt8) : codeF a (y ++ [c]) = 2 * codeF a y + bitU c := by
  unfold codeF
  rw [List.foldl_append]
  rfl
def valL (y : LB) : Nat := codeF 0 y
theorem codeF_val (a : Nat) : ∀ y : LB, codeF a y = a * 2 ^ y.length + codeF 0 y ∧ codeF 0 y < 2 ^ y.length := by
  intro y
  induction y using snocI with
  | nil => exact ⟨by simp [codeF], by simp [codeF]⟩
  | snoc y c ih =>
    obtain ⟨h1, h2⟩ := ih
    have hb := bitU_le c
    rw [codeF_snoc, codeF_snoc, List.length_append, List.length_singleton, Nat.pow_succ, h1]
    generalize codeF 0 y = v at *
    generalize 2 ^ y.length = p at *
    constructor
    · rw [← Nat.mul_assoc, Nat.mul_add]
      have : 2 * (a * p) = a * p * 2 := Nat.mul_comm _ _
      omega
    · omega
def codeL (y : LB) : Nat := codeF 1 y
theorem codeL_in (y : LB) : 2 ^ y.length ≤ codeL y ∧ codeL y < 2 * 2 ^ y.length := by
  obtain ⟨h1, h2⟩ := codeF_val 1 y
  unfold codeL
  omega
theorem codeL_snoc (y : LB) (c : UInt8) : codeL (y ++ [c]) = 2 * codeL y + bitU c := codeF_snoc 1 y c
def txM (n : Nat) : LB := if h : n ≤ 1 then [] else txM (n / 2) ++ [if n % 2 = 1 then 104 else 116]
termination_by n
decreasing_by omega
theorem txM_one (n : Nat) (h : n ≤ 1) : txM n = [] := by rw [txM, dif_pos h]
theorem txM_more (n : Nat) (h : ¬ n ≤ 1) : txM n = txM (n / 2) ++ [if n % 2 = 1 then 104 else 116] := by rw [txM, dif_neg h]
theorem bit_of (n : Nat) : bitU (if n % 2 = 1 then 104 else 116) = n % 2 := by
  unfold bitU
  by_cases h : n % 2 = 1
  · rw [if_pos h, if_pos rfl, h]
  · rw [if_neg h, if_neg (by decide)]; omega
theorem code_tx (n : Nat) (h : 1 ≤ n) : codeL (txM n) = n := by
  induction n using Nat.strongRecOn with
  | _ n ih =>
    by_cases h1 : n ≤ 1
    · rw [txM_one n h1]; show 1 = n; omega
    · rw [txM_more n h1, codeL_snoc, ih (n / 2) (by omega) (by omega), bit_of]
      omega
theorem tx_code (y : LB) (hy : y.all tosB = true) : txM (codeL y) = y := by
  induction y using snocI with
  | nil => exact txM_one 1 (Nat.le_refl 1)
  | snoc y c ih =>
    rw [List.all_append, Bool.and_eq_true] at hy
    have hc : tosB c = true := by simpa using hy.2
    have h1 := (codeL_in y).1
    have hp : 0 < 2 ^ y.length := Nat.pow_pos (by omega)
    have hb := bitU_le c
    rw [codeL_snoc, txM_more _ (by omega), show (2 * codeL y + bitU c) / 2 = codeL y from by omega, ih hy.1, show (2 * codeL y + bitU c) % 2 = bitU c from by omega]
    congr 2
    unfold bitU
    by_cases e : c = 104
    · subst e; rfl
    · rw [if_neg e, if_neg (by decide)]
      unfold tosB at hc
      simp [e] at hc
      exact hc.symm
theorem tx_tos (n : Nat) : (txM n).all tosB = true := by
  induction n using Nat.strongRecOn with
  | _ n ih =>
    by_cases h1 : n ≤ 1
    · rw [txM_one n h1]; rfl
    · rw [txM_more n h1, List.all_append, ih (n / 2) (by omega)]
      split <;> rfl
theorem tx_len (n : Nat) (h : 1 ≤ n) : 2 ^ (txM n).length ≤ n ∧ n < 2 * 2 ^ (txM n).length := by
  have := codeL_in (txM n)
  rw [code_tx n h] at this
  exact this
theorem tx_snoc (n : Nat) (h : 1 ≤ n) (b : Nat) (hb : b ≤ 1) : txM (2 * n + b) = txM n ++ [if b = 1 then 104 else 116] := by
  rw [txM_more _ (by omega), show (2 * n + b) / 2 = n from by omega, show (2 * n + b) % 2 = b from by omega]
theorem len_of (n L : Nat) (h1 : 2 ^ L ≤ n) (h2 : n < 2 * 2 ^ L) : (txM n).length = L := by
  have hp : 0 < 2 ^ L := Nat.pow_pos (by omega)
  obtain ⟨a, b⟩ := tx_len n (by omega)
  rcases Nat.lt_trichotomy (txM n).length L with h | h | h
  · have := Nat.pow_le_pow_right (show 0 < 2 by omega) (show (txM n).length + 1 ≤ L from h)
    rw [Nat.pow_succ] at this
    omega
  · exact h
  · have := Nat.pow_le_pow_right (show 0 < 2 by omega) (show L + 1 ≤ (txM n).length from h)
    rw [Nat.pow_succ] at this
    omega
/-- The last L signs of L + 1. -/
theorem tx_trunc (x L : Nat) (h1 : 2 * 2 ^ L ≤ x) (h2 : x < 4 * 2 ^ L) : txM (x % 2 ^ L + 2 ^ L) = (txM x).drop 1 := by
  have hp : 0 < 2 ^ L := Nat.pow_pos (by omega)
  have hl := len_of x (L + 1) (by rw [Nat.pow_succ]; omega) (by rw [Nat.pow_succ]; omega)
  cases hx : txM x with
  | nil => rw [hx] at hl; simp at hl
  | cons c y =>
    have hyl : y.length = L := by rw [hx] at hl; simpa using hl
    have hall := tx_tos x
    rw [hx, List.all_cons, Bool.and_eq_true] at hall
    have hc := code_tx x (by omega)
    rw [hx] at hc
    have e1 : codeL (c :: y) = codeF (2 + bitU c) y := rfl
    obtain ⟨v1, v2⟩ := codeF_val (2 + bitU c) y
    obtain ⟨w1, _⟩ := codeF_val 1 y
    rw [hyl] at v1 v2 w1
    have hxm : x % 2 ^ L = codeF 0 y := by
      rw [← hc, e1, v1, Nat.mul_comm, Nat.mul_add_mod, Nat.mod_eq_of_lt v2]
    rw [hxm, show codeF 0 y + 2 ^ L = codeL y from by unfold codeL; omega, tx_code y hall.2]
    rfl

/- A list without doubles. -/
def dedA {α : Type} [DecidableEq α] (acc : List α) : List α → List α
  | [] => acc
  | a :: l => if a ∈ acc then dedA acc l else dedA (acc ++ [a]) l
theorem dedA_mem {α : Type} [DecidableEq α] (x : α) : ∀ (l acc : List α), x ∈ dedA acc l ↔ x ∈ acc ∨ x ∈ l
  | [], acc => by simp [dedA]
  | a :: l, acc => by
    unfold dedA
    split
    · rename_i h
      rw [dedA_mem x l acc]
      constructor
      · rintro (q | q)
        · exact .inl q
        · exact .inr (List.mem_cons_of_mem _ q)
      · rintro (q | q)
        · exact .inl q
        · rcases List.mem_cons.1 q with e | e
          · subst e; exact .inl h
          · exact .inr e
    · rw [dedA_mem x l (acc ++ [a])]
      have h1 : x ∈ acc ++ [a] ↔ x ∈ acc ∨ x = a := by simp
      rw [h1, List.mem_cons, or_assoc]
theorem dedA_nodup {α : Type} [DecidableEq α] : ∀ (l acc : List α), acc.Nodup → (dedA acc l).Nodup
  | [], acc, h => h
  | a :: l, acc, h => by
    unfold dedA
    split
    · exact dedA_nodup l acc h
    · rename_i q
      refine dedA_nodup l _ ?_
      rw [List.nodup_append]
      refine ⟨h, by simp, fun x hx y hy e => ?_⟩
      have hya : y = a := by simpa using hy
      rw [e, hya] at hx
      exact q hx
theorem dedA_head {α : Type} [DecidableEq α] (x d : α) : ∀ (l acc : List α), (dedA (x :: acc) l).getD 0 d = x
  | [], acc => rfl
  | a :: l, acc => by
    unfold dedA
    split
    · exact dedA_head x d l acc
    · exact dedA_head x d l (acc ++ [a])
end Go.Proofs.YtjckmnbpfmcadacDoor
