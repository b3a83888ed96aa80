/- Texts with two words: what is of no program. -/
import Derived.Test.YtiblggfihpobkabDoorWoPl
import Derived.Test.YtiblggfihpobkabDoorWoRp
import Derived.Lib.IndexMore
namespace Go.Proofs.YtiblggfihpobkabDoor
set_option linter.unusedSimpArgs false
open Go.ChangeShapes Go.WideShapes Go.ChangeAt Go.RowKit
set_option linter.unusedVariables false

/-- The word p is in t. -/
def conB (t p : ByteArray) : Bool := Lib.contains t.data.toList p.data.toList
theorem occ_plw (p t : ByteArray) (i : Nat) (hi : i ≤ t.size) : Lib.occAt t.data.toList p.data.toList i = plwB p t i := by
  rw [← pre_plw p t i hi]
  unfold Lib.occAt Lib.hasPrefix
  rw [ext_list, show List.take t.size t.data.toList = t.data.toList from List.take_of_length_le (by rw [len_list]; exact Nat.le_refl _)]
theorem con_iff (p t : ByteArray) : conB t p = true ↔ ∃ i, i ≤ t.size ∧ plwB p t i = true := by
  unfold conB Lib.contains
  rw [decide_eq_true_iff]
  rcases Lib.index_spec t.data.toList p.data.toList with ⟨h1, h2⟩ | ⟨i, h1, h2, h3, h4⟩
  · rw [h1]
    constructor
    · intro h; omega
    · rintro ⟨i, hi, hp⟩
      have := h2 i (by rw [len_list]; exact hi)
      rw [occ_plw p t i hi, hp] at this
      cases this
  · rw [h1]
    rw [len_list] at h2
    constructor
    · intro _
      exact ⟨i, h2, by rw [← occ_plw p t i h2]; exact h3⟩
    · intro _; omega
theorem selR_pos {p : Nat → Bool} : ∀ n, (0 < (selR p 0 n).length ↔ ∃ i, i < n ∧ p i = true)
  | 0 => by simp [selR]
  | n + 1 => by
    have ih := selR_pos (p := p) n
    cases hq : p (0 + n)
    · rw [selR_no hq, ih]
      rw [Nat.zero_add] at hq
      constructor
      · rintro ⟨i, h, g⟩; exact ⟨i, by omega, g⟩
      · rintro ⟨i, h, g⟩
        have : i ≠ n := by rintro rfl; rw [g] at hq; cases hq
        exact ⟨i, by omega, g⟩
    · rw [selR_yes hq, List.length_append]
      rw [Nat.zero_add] at hq
      constructor
      · intro _; exact ⟨n, by omega, hq⟩
      · intro _; simp
theorem con_sel {p t : ByteArray} (h1 : 1 ≤ p.size) : decide (0 < (selR (plwB p t) 0 (t.size + 1 - p.size)).length) = conB t p := by
  rw [Bool.eq_iff_iff, decide_eq_true_iff, selR_pos, con_iff]
  constructor
  · rintro ⟨i, h, g⟩; exact ⟨i, by omega, g⟩
  · rintro ⟨i, h, g⟩
    refine ⟨i, ?_, g⟩
    rcases Nat.lt_or_ge i (t.size + 1 - p.size) with q | q
    · exact q
    · rw [plw_out h1 (by omega)] at g
      cases g
/-- The last letters of a are the first c ones of b. -/
def sfx (a b : ByteArray) (c : Nat) : Bool := Lib.hasSuffix a.data.toList (b.extract 0 c).data.toList
theorem sfx_zero (a b : ByteArray) : sfx a b 0 = true := by
  unfold sfx
  rw [ext_list, List.drop_zero, List.take_zero]
  unfold Lib.hasSuffix
  simp
theorem sfx_in {a b : ByteArray} {c : Nat} (hc : c ≤ b.size) (h : sfx a b c = true) : c ≤ a.size ∧ a.data.toList.drop (a.size - c) = b.data.toList.take c := by
  unfold sfx at h
  rw [suf_iff, ext_list, List.drop_zero, List.length_take, len_list, len_list, Nat.min_eq_left hc] at h
  exact h
theorem sfx_eq (a b : ByteArray) (c : Nat) (ha : c ≤ a.size) (hb : c ≤ b.size) : decide (a.extract (a.size - c) a.size = b.extract 0 c) = sfx a b c := by
  rw [Bool.eq_iff_iff, decide_eq_true_iff]
  unfold sfx
  rw [suf_iff, ba_eq, ext_list, ext_list, List.drop_zero, List.length_take, len_list, len_list, Nat.min_eq_left hb, show List.take a.size a.data.toList = a.data.toList from List.take_of_length_le (by rw [len_list]; exact Nat.le_refl _)]
  constructor
  · intro h; exact ⟨ha, h⟩
  · rintro ⟨_, h⟩; exact h
/-- The greatest number up to m of letters that both have. -/
def jnC (a b : ByteArray) : Nat → Nat
  | 0 => 0
  | c + 1 => if sfx a b (c + 1) then c + 1 else jnC a b c
theorem jnC_yes {a b : ByteArray} {c : Nat} (h : sfx a b c = true) : jnC a b c = c := by
  cases c with
  | zero => rfl
  | succ c => unfold jnC; rw [h]; rfl
theorem jnC_no {a b : ByteArray} {c : Nat} (h : sfx a b (c + 1) = false) : jnC a b (c + 1) = jnC a b c := by
  rw [jnC, h]; rfl
theorem jnC_in (a b : ByteArray) : ∀ m, jnC a b m ≤ m ∧ sfx a b (jnC a b m) = true
  | 0 => ⟨Nat.le_refl _, sfx_zero a b⟩
  | m + 1 => by
    cases h : sfx a b (m + 1)
    · rw [jnC_no h]
      obtain ⟨x, y⟩ := jnC_in a b m
      exact ⟨by omega, y⟩
    · rw [jnC_yes h]
      exact ⟨Nat.le_refl _, h⟩
theorem jnC_shrink {a b : ByteArray} {k : Nat} : ∀ d, (∀ j, k < j → j ≤ k + d → sfx a b j = false) → jnC a b (k + d) = jnC a b k
  | 0, _ => rfl
  | d + 1, h => by
    rw [← Nat.add_assoc, jnC_no (h _ (by omega) (by omega)), jnC_shrink d (fun j x y => h j x (by omega))]
def bh (a b : ByteArray) (c : Nat) : ByteArray := a ++ b.extract c b.size
theorem bh_size (a b : ByteArray) (c : Nat) (hc : c ≤ b.size) : (bh a b c).size = a.size + (b.size - c) := by
  unfold bh
  rw [ByteArray.size_append, ext_size _ _ _ (Nat.le_refl _)]
theorem bh_list (a b : ByteArray) (c : Nat) : (bh a b c).data.toList = a.data.toList ++ b.data.toList.drop c := by
  unfold bh
  rw [ByteArray.data_append, Array.toList_append, ext_list, show List.take b.size b.data.toList = b.data.toList from List.take_of_length_le (by rw [len_list]; exact Nat.le_refl _)]
/-- The shortest text that begins with a and has b. -/
def jn (a b : ByteArray) : ByteArray := if conB a b then a else bh a b (jnC a b (b.size - 1))
def bef (x y : ByteArray) : Bool := decide (x.size < y.size) || (decide (x.size = y.size) && ltS x y)
def pick2 (x y : ByteArray) : ByteArray := if bef y x then y else x
/-- The shortest text with both. -/
def sbW (a b : ByteArray) : ByteArray :=
  if conB b a then b else if conB a b then a else pick2 (bh a b (jnC a b (min a.size b.size))) (bh b a (jnC b a (min b.size a.size)))
theorem con_self (a : ByteArray) : conB a a = true := (con_iff a a).2 ⟨0, by omega, by
  unfold plwB
  rw [decide_eq_true_iff, ba_eq, ext_list, List.drop_zero, Nat.zero_add, List.take_of_length_le (by rw [len_list]; exact Nat.le_refl _)]⟩
theorem con_size {a b : ByteArray} (h : conB a b = true) : b.size ≤ a.size := by
  obtain ⟨i, hi, g⟩ := (con_iff b a).1 h
  unfold plwB at g
  rw [decide_eq_true_iff] at g
  have := congrArg ByteArray.size g
  rw [ByteArray.size_extract] at this
  omega
theorem con_anti {a b : ByteArray} (h1 : conB a b = true) (h2 : conB b a = true) : a = b := by
  have e1 := con_size h1
  have e2 := con_size h2
  obtain ⟨i, hi, g⟩ := (con_iff b a).1 h1
  unfold plwB at g
  rw [decide_eq_true_iff] at g
  have := congrArg ByteArray.size g
  rw [ByteArray.size_extract] at this
  rw [ba_eq] at g ⊢
  rw [ext_list] at g
  by_cases hb : b.size = 0
  · have l1 := len_list a
    have l2 := len_list b
    rw [List.length_eq_zero_iff.1 (show a.data.toList.length = 0 by omega), List.length_eq_zero_iff.1 (show b.data.toList.length = 0 by omega)]
  · obtain rfl : i = 0 := by omega
    rw [List.drop_zero, Nat.zero_add, List.take_of_length_le (by rw [len_list]; omega)] at g
    exact g
theorem bef_irr (a : ByteArray) : bef a a = false := by
  unfold bef
  rw [ltS_irr]
  simp
/-- Where b is in a already, the text that begins with b is no shorter; if it is as short, it is a. -/
theorem bh_long {a b : ByteArray} (hb : 1 ≤ b.size) (c : Nat) (hc : c = jnC a b (b.size - 1)) : b.size ≤ (bh a b c).size ∧ ((bh a b c).size = b.size → bh a b c = b) := by
  obtain ⟨x, y⟩ := jnC_in a b (b.size - 1)
  rw [← hc] at x y
  obtain ⟨p, q⟩ := sfx_in (by omega) y
  rw [bh_size a b c (by omega)]
  refine ⟨by omega, fun e => ?_⟩
  have hca : c = a.size := by omega
  rw [ba_eq, bh_list]
  rw [hca, Nat.sub_self, List.drop_zero] at q
  rw [q, hca, List.take_append_drop]
theorem sb_eq (a b : ByteArray) (ha : 1 ≤ a.size) (hb : 1 ≤ b.size) : pick2 (jn a b) (jn b a) = sbW a b := by
  unfold sbW
  by_cases h1 : conB b a = true
  · rw [if_pos h1]
    have e2 : jn b a = b := if_pos h1
    rw [e2]
    by_cases h2 : conB a b = true
    · have e1 : jn a b = a := if_pos h2
      rw [e1, con_anti h2 h1]
      unfold pick2
      rw [bef_irr]
      rfl
    · have e1 : jn a b = bh a b (jnC a b (b.size - 1)) := if_neg h2
      obtain ⟨p, q⟩ := bh_long (a := a) hb _ rfl
      rw [e1]
      unfold pick2
      rcases Nat.lt_or_ge b.size (bh a b (jnC a b (b.size - 1))).size with g | g
      · rw [if_pos (show bef b (bh a b (jnC a b (b.size - 1))) = true from by unfold bef; simp [g])]
      · rw [q (by omega)]
        split <;> rfl
  · rw [if_neg h1]
    have e2 : jn b a = bh b a (jnC b a (a.size - 1)) := if_neg h1
    rw [e2]
    by_cases h2 : conB a b = true
    · rw [if_pos h2]
      have e1 : jn a b = a := if_pos h2
      rw [e1]
      obtain ⟨p, q⟩ := bh_long (a := b) ha _ rfl
      unfold pick2
      rcases Nat.lt_or_ge a.size (bh b a (jnC b a (a.size - 1))).size with g | g
      · rw [if_neg]
        unfold bef
        rw [Bool.not_eq_true, Bool.or_eq_false_iff, Bool.and_eq_false_iff]
        refine ⟨by simp; omega, .inl (by simp; omega)⟩
      · rw [q (by omega)]
        split <;> rfl
    · rw [if_neg h2]
      have e1 : jn a b = bh a b (jnC a b (b.size - 1)) := if_neg h2
      rw [e1]
      have key : ∀ a b : ByteArray, 1 ≤ b.size → ¬ conB a b = true → jnC a b (b.size - 1) = jnC a b (min a.size b.size) := by
        intro a b hb hn
        have hfull : b.size ≤ a.size → sfx a b b.size = false := by
          intro hle
          cases hs : sfx a b b.size
          · rfl
          · exfalso
            apply hn
            obtain ⟨p, q⟩ := sfx_in (Nat.le_refl _) hs
            rw [con_iff]
            refine ⟨a.size - b.size, by omega, ?_⟩
            unfold plwB
            rw [decide_eq_true_iff, ba_eq, ext_list, Nat.sub_add_cancel hle, show List.take a.size a.data.toList = a.data.toList from List.take_of_length_le (by rw [len_list]; exact Nat.le_refl _), q, List.take_of_length_le (by rw [len_list]; exact Nat.le_refl _)]
        by_cases hle : b.size ≤ a.size
        · rw [Nat.min_eq_right hle]
          have := jnC_shrink (a := a) (b := b) (k := b.size - 1) 1 (fun j x y => by rw [show j = b.size from by omega]; exact hfull hle)
          rw [Nat.sub_add_cancel hb] at this
          exact this.symm
        · rw [Nat.min_eq_left (by omega)]
          obtain ⟨d, hd⟩ := Nat.exists_eq_add_of_le (show a.size ≤ b.size - 1 by omega)
          rw [hd]
          refine jnC_shrink d fun j x y => ?_
          cases hs : sfx a b j
          · rfl
          · have := (sfx_in (by omega) hs).1
            omega
      rw [key a b hb h2, key b a ha h1]
end Go.Proofs.YtiblggfihpobkabDoor
