/- Parts of a text with a sign between them: both ways to cut it give them back. -/
import Derived.Test.YthmdkbeccohjkaaDoorRdN
import Derived.Test.YthmdkbeccohjkaaDoorNmI
import Derived.Lib.Split
import Derived.Lib.SplitLaws
namespace Go.Proofs.YthmdkbeccohjkaaDoor
set_option linter.unusedSimpArgs false
open Go.ChangeShapes Go.WideShapes Go.ChangeAt Go.RowKit
set_option linter.unusedVariables false

/-- Parts with a sign between them. -/
def jn (b : UInt8) : List (List UInt8) → List UInt8
  | [] => []
  | [x] => x
  | x :: y :: r => x ++ b :: jn b (y :: r)
theorem jn_two (b : UInt8) (x : List UInt8) {Z : List (List UInt8)} (h : Z ≠ []) : jn b (x :: Z) = x ++ b :: jn b Z := by
  cases Z with
  | nil => exact absurd rfl h
  | cons y r => rfl
theorem jn_J (b : UInt8) (x : List UInt8) : ∀ P : List (List UInt8), jn b (P ++ [x]) = P.flatMap (· ++ [b]) ++ x
  | [] => rfl
  | p :: P => by
    rw [List.cons_append, jn_two b p (by simp), jn_J b x P]
    simp
theorem jn_snoc (b : UInt8) (x : List UInt8) : ∀ {Z : List (List UInt8)}, Z ≠ [] → jn b (Z ++ [x]) = jn b Z ++ b :: x
  | [], h => absurd rfl h
  | [y], _ => rfl
  | y :: z :: r, _ => by
    rw [List.cons_append, jn_two b y (by simp), jn_two b y (by simp), jn_snoc b x (by simp)]
    simp
theorem mem_jn {b c : UInt8} : ∀ {Z : List (List UInt8)}, c ∈ jn b Z → c = b ∨ ∃ z ∈ Z, c ∈ z
  | [], h => by simp [jn] at h
  | [x], h => .inr ⟨x, by simp, h⟩
  | x :: y :: r, h => by
    rw [jn_two b x (by simp), List.mem_append, List.mem_cons] at h
    rcases h with h | h | h
    · exact .inr ⟨x, by simp, h⟩
    · exact .inl h
    · rcases mem_jn h with h | ⟨z, hz, hc⟩
      · exact .inl h
      · exact .inr ⟨z, by simp at hz ⊢; exact .inr hz, hc⟩
theorem cons_inj {b : UInt8} : ∀ {p q R S : List UInt8}, b ∉ p → b ∉ q → p ++ b :: R = q ++ b :: S → p = q ∧ R = S
  | [], [], R, S, _, _, h => by simpa using h
  | [], c :: q, R, S, _, hq, h => by
    simp at h hq
    exact absurd h.1 hq.1
  | c :: p, [], R, S, hp, _, h => by
    simp at h hp
    exact absurd h.1.symm hp.1
  | c :: p, d :: q, R, S, hp, hq, h => by
    simp at h hp hq
    obtain ⟨e1, e2⟩ := cons_inj (b := b) hp.2 hq.2 h.2
    exact ⟨by rw [h.1, e1], e2⟩
theorem jn_inj {b : UInt8} : ∀ {Z Y : List (List UInt8)}, Z ≠ [] → Y ≠ [] → (∀ z ∈ Z, b ∉ z) → (∀ y ∈ Y, b ∉ y) → jn b Z = jn b Y → Z = Y
  | [], _, h, _, _, _, _ => absurd rfl h
  | _, [], _, h, _, _, _ => absurd rfl h
  | [x], [y], _, _, _, _, h => by rw [show x = y from h]
  | [x], y :: y' :: s, _, _, hz, hy, h => by
    rw [jn_two b y (by simp)] at h
    have : b ∈ x := by rw [show x = _ from h]; simp
    exact absurd this (hz x (by simp))
  | x :: x' :: r, [y], _, _, hz, hy, h => by
    rw [jn_two b x (by simp)] at h
    have : b ∈ y := by rw [show y = _ from h.symm]; simp
    exact absurd this (hy y (by simp))
  | x :: x' :: r, y :: y' :: s, _, _, hz, hy, h => by
    rw [jn_two b x (by simp), jn_two b y (by simp)] at h
    obtain ⟨e1, e2⟩ := cons_inj (hz x (by simp)) (hy y (by simp)) h
    have := jn_inj (Z := x' :: r) (Y := y' :: s) (by simp) (by simp) (fun z h => hz z (by simp at h ⊢; exact .inr h)) (fun z h => hy z (by simp at h ⊢; exact .inr h)) e2
    rw [e1, this]

/-- The model's parts: none of them has the sign, and they make the text. -/
theorem splL_free (l : List UInt8) (b : UInt8) : ∀ k, k ≤ l.length → (∀ z ∈ splL l b k, b ∉ z) ∧ b ∉ (l.take k).drop (frmL l b k)
  | 0, _ => by simp [splL, frmL]
  | k + 1, hk => by
    obtain ⟨h1, h2⟩ := splL_free l b k (by omega)
    have hl : k < l.length := by omega
    have hs : sgB l k = l[k] := by unfold sgB; rw [List.getD_eq_getElem?_getD, List.getElem?_eq_getElem hl]; rfl
    have ht : l.take (k + 1) = l.take k ++ [l[k]] := by rw [List.take_succ_eq_append_getElem hl]
    have hf := frmL_le l b k
    rw [splL_succ, frmL_succ]
    split
    · rename_i e
      refine ⟨fun z hz => ?_, ?_⟩
      · rw [List.mem_append] at hz
        rcases hz with hz | hz
        · exact h1 z hz
        · rw [List.mem_singleton] at hz
          rw [hz]; exact h2
      · rw [ht, List.drop_eq_nil_of_le (by simp; omega)]
        simp
    · rename_i e
      refine ⟨h1, ?_⟩
      rw [ht, List.drop_append_of_le_length (by simp; omega), List.mem_append]
      rintro (h | h)
      · exact h2 h
      · rw [List.mem_singleton] at h
        exact e (hs.trans h.symm)
theorem prtL_jn {b : UInt8} {Z : List (List UInt8)} (hne : Z ≠ []) (hf : ∀ z ∈ Z, b ∉ z) : prtL (jn b Z) b = Z := by
  generalize hl : jn b Z = l
  have e := splL_join l b l.length (Nat.le_refl _)
  obtain ⟨f1, f2⟩ := splL_free l b l.length (Nat.le_refl _)
  rw [List.take_length] at e f2
  refine jn_inj (b := b) ?_ hne ?_ hf ?_
  · unfold prtL; simp
  · unfold prtL
    intro z hz
    rw [List.mem_append] at hz
    rcases hz with hz | hz
    · exact f1 z hz
    · rw [List.mem_singleton] at hz
      rw [hz]; exact f2
  · unfold prtL
    rw [jn_J, e, hl]

theorem idx_hit {b : UInt8} : ∀ {x y : List UInt8}, b ∉ x → Lib.indexByte (x ++ b :: y) b = x.length
  | [], y, _ => by unfold Lib.indexByte; simp
  | c :: x, y, h => by
    simp at h
    have ih := idx_hit (x := x) (y := y) h.2
    rw [List.cons_append]
    unfold Lib.indexByte
    have hcb : (c == b) = false := by
      rw [beq_eq_false_iff_ne]
      exact fun e => h.1 e.symm
    rw [hcb, ih]
    have : ((x.length : Int) == -1) = false := by rw [beq_eq_false_iff_ne]; omega
    rw [this]
    simp
theorem idx_miss {b : UInt8} : ∀ {x : List UInt8}, b ∉ x → Lib.indexByte x b = -1
  | [], _ => rfl
  | c :: x, h => by
    simp at h
    have ih := idx_miss (x := x) h.2
    unfold Lib.indexByte
    have hcb : (c == b) = false := by
      rw [beq_eq_false_iff_ne]
      exact fun e => h.1 e.symm
    rw [hcb, ih]
    rfl
/-- The program's parts. -/
def pcs (l : List UInt8) (b : UInt8) : List (List UInt8) := Lib.splitK [b] 0 (Lib.count l [b]) l
theorem pcs_jn {b : UInt8} : ∀ {Z : List (List UInt8)}, Z ≠ [] → (∀ z ∈ Z, b ∉ z) → pcs (jn b Z) b = Z
  | [], h, _ => absurd rfl h
  | [x], _, hf => by
    have h := idx_miss (hf x (by simp))
    unfold pcs
    rw [show jn b [x] = x from rfl, Lib.count_miss (by rw [index_one]; exact h)]
    rfl
  | x :: y :: r, _, hf => by
    have ih := pcs_jn (b := b) (Z := y :: r) (by simp) (fun z h => hf z (by simp at h ⊢; exact .inr h))
    have h := idx_hit (x := x) (y := jn b (y :: r)) (hf x (by simp))
    rw [jn_two b x (by simp)]
    generalize jn b (y :: r) = R at *
    have hd : (x ++ b :: R).drop (x.length + [b].length) = R := by
      rw [List.drop_append]
      simp
    unfold pcs at ih ⊢
    rw [Lib.count_hit (i := x.length) (by simp) (by rw [index_one]; exact h), hd, Nat.add_comm 1]
    unfold Lib.splitK
    rw [index_one, h, if_neg (by simp)]
    rw [show ((x.length : Int)).toNat + [b].length = x.length + [b].length from rfl, hd, ih]
    simp
theorem cut_jn {b : UInt8} {x : List UInt8} {Z : List (List UInt8)} (hne : Z ≠ []) (hx : b ∉ x) : Lib.cut (jn b (x :: Z)) [b] = (x, jn b Z, true) := by
  rw [jn_two b x hne, cut_yes (by rw [idx_hit hx]; omega), idx_hit hx]
  have hd : (x ++ b :: jn b Z).drop (x.length + 1) = jn b Z := by
    rw [List.drop_append]
    simp
  simp [hd]

end Go.Proofs.YthmdkbeccohjkaaDoor
