/- Some days follow, and some signs come with them, with a chance that is more than 0. -/
import Derived.Test.YtjfcpbedmdnjcacHdP
namespace Go.Proofs.Ytjfcpbedmdnjcac
set_option linter.unusedSimpArgs false
open Go.ChangeShapes Go.WideShapes Go.ChangeAt Go.RowKit
set_option linter.unusedVariables false

--BEGIN
theorem flw_left (a b c : Int) (A B : ByteArray) : ∀ m, m ≤ A.size → flw a b c (A ++ B) m = flw a b c A m
  | 0, _ => rfl
  | n + 1, h => by
    show (if n = 0 then 1 else flw a b c (A ++ B) n * stp a b c (sgn (A ++ B) (n - 1)) (sgn (A ++ B) n)) = if n = 0 then 1 else flw a b c A n * stp a b c (sgn A (n - 1)) (sgn A n)
    rw [flw_left a b c A B n (by omega), sgn_left A B (n - 1) (by omega), sgn_left A B n (by omega)]
theorem mul_pos_of {x y : Int} (hx : 0 < x) (hy : 0 < y) : 0 < x * y := Int.mul_pos hx hy
theorem flw_more {a b c : Int} (h : inR a b c) (A : ByteArray) (hA : 0 < flw a b c A A.size) (hd : A.size = 0 ∨ sgn A (A.size - 1) = 100 ∨ sgn A (A.size - 1) = 119) :
    ∃ x : UInt8, (x = 100 ∨ x = 119) ∧ 0 < flw a b c (A ++ ⟨#[x]⟩) (A.size + 1) := by
  have step : ∀ x : UInt8, flw a b c (A ++ ⟨#[x]⟩) (A.size + 1) = if A.size = 0 then 1 else flw a b c A A.size * stp a b c (sgn A (A.size - 1)) x.toNat := fun x => by
    show (if A.size = 0 then 1 else flw a b c (A ++ ⟨#[x]⟩) A.size * stp a b c (sgn (A ++ ⟨#[x]⟩) (A.size - 1)) (sgn (A ++ ⟨#[x]⟩) A.size)) = _
    by_cases e : A.size = 0
    · rw [if_pos e, if_pos e]
    · rw [if_neg e, if_neg e, flw_left a b c A _ A.size (Nat.le_refl _), sgn_left A _ (A.size - 1) (by omega), sgn_last]
  by_cases e : A.size = 0
  · exact ⟨100, .inl rfl, by rw [step, if_pos e]; decide⟩
  · have hg : ∀ d : Int, 0 < c - chg a b d ∨ 0 < chg a b d := fun d => by
      have := chg_in h d
      unfold inR at h
      omega
    rcases hd with hd | hd | hd
    · exact absurd hd e
    · rcases hg 100 with g | g
      · refine ⟨100, .inl rfl, ?_⟩
        rw [step, if_neg e, hd]
        exact mul_pos_of hA (by unfold stp; rw [if_pos (by decide)]; exact g)
      · refine ⟨119, .inr rfl, ?_⟩
        rw [step, if_neg e, hd]
        exact mul_pos_of hA (by unfold stp; rw [if_neg (by decide)]; exact g)
    · rcases hg 119 with g | g
      · refine ⟨119, .inr rfl, ?_⟩
        rw [step, if_neg e, hd]
        exact mul_pos_of hA (by unfold stp; rw [if_pos (by decide)]; exact g)
      · refine ⟨100, .inl rfl, ?_⟩
        rw [step, if_neg e, hd]
        exact mul_pos_of hA (by unfold stp; rw [if_neg (by decide)]; exact g)
theorem rkT_step (x y : UInt8) (n i : Nat) (z : UInt8) (h : z = x ∨ z = y) (hi : i < 2 ^ n) : ∃ j, j < 2 ^ (n + 1) ∧ rkT x y (n + 1) j = rkT x y n i ++ ⟨#[z]⟩ := by
  rcases h with rfl | rfl
  · refine ⟨2 * i, by rw [Nat.pow_succ]; omega, ?_⟩
    rw [rkT, show 2 * i / 2 = i from by omega, if_pos (by omega)]
  · refine ⟨2 * i + 1, by rw [Nat.pow_succ]; omega, ?_⟩
    rw [rkT, show (2 * i + 1) / 2 = i from by omega, if_neg (by omega)]
/-- Behind any days some others follow. -/
theorem ex_flw {a b c : Int} (h : inR a b c) (D : ByteArray) (hD : 0 < flw a b c D D.size) (hd : D.size = 0 ∨ sgn D (D.size - 1) = 100 ∨ sgn D (D.size - 1) = 119) :
    ∀ n, ∃ i, i < 2 ^ n ∧ 0 < flw a b c (D ++ rkT 100 119 n i) (D.size + n) ∧ (D.size + n = 0 ∨ sgn (D ++ rkT 100 119 n i) (D.size + n - 1) = 100 ∨ sgn (D ++ rkT 100 119 n i) (D.size + n - 1) = 119)
  | 0 => by
    refine ⟨0, by simp, ?_⟩
    have e : D ++ rkT 100 119 0 0 = D := by rw [rkT]; exact ByteArray.append_empty
    rw [e]
    exact ⟨hD, hd⟩
  | n + 1 => by
    obtain ⟨i, hi, h1, h2⟩ := ex_flw h D hD hd n
    have hz : (D ++ rkT 100 119 n i).size = D.size + n := by rw [ByteArray.size_append, rkT_size]
    rw [← hz] at h1 h2
    obtain ⟨x, hx, h3⟩ := flw_more h _ h1 h2
    obtain ⟨j, hj, e⟩ := rkT_step 100 119 n i x hx hi
    refine ⟨j, hj, ?_⟩
    rw [e, ← ByteArray.append_assoc, ← Nat.add_assoc, ← hz]
    refine ⟨h3, .inr ?_⟩
    rw [Nat.add_sub_cancel, sgn_last]
    rcases hx with rfl | rfl
    · exact .inl rfl
    · exact .inr rfl
theorem bthK_left (a b c p q r : Int) (D A B : ByteArray) : ∀ m, m ≤ A.size → bthK a b c p q r D (A ++ B) m = bthK a b c p q r D A m
  | 0, _ => rfl
  | n + 1, h => by
    show bthK a b c p q r D (A ++ B) n * sgc p q r (sgn D n) (sgn (A ++ B) n) = bthK a b c p q r D A n * sgc p q r (sgn D n) (sgn A n)
    rw [bthK_left a b c p q r D A B n (by omega), sgn_left A B n (by omega)]
theorem ex_bth {a b c p q r : Int} (g : inR p q r) (D : ByteArray) (hD : 0 < flw a b c D D.size) : ∀ k, ∃ j, j < 2 ^ k ∧ 0 < bthK a b c p q r D (rkT 110 117 k j) k
  | 0 => ⟨0, by simp, hD⟩
  | k + 1 => by
    obtain ⟨i, hi, h1⟩ := ex_bth g D hD k
    have hz := rkT_size 110 117 k i
    have key : ∃ x : UInt8, (x = 110 ∨ x = 117) ∧ 0 < sgc p q r (sgn D k) x.toNat := by
      have ht := tkn_in g (sgn D k)
      by_cases e : 0 < r - tkn p q (sgn D k)
      · exact ⟨110, .inl rfl, by unfold sgc; rw [if_pos (by decide)]; exact e⟩
      · refine ⟨117, .inr rfl, ?_⟩
        unfold sgc
        rw [if_neg (by decide)]
        unfold inR at g
        omega
    obtain ⟨x, hx, h2⟩ := key
    obtain ⟨j, hj, e⟩ := rkT_step 110 117 k i x hx hi
    refine ⟨j, hj, ?_⟩
    rw [e]
    show 0 < bthK a b c p q r D (rkT 110 117 k i ++ ⟨#[x]⟩) k * sgc p q r (sgn D k) (sgn (rkT 110 117 k i ++ ⟨#[x]⟩) k)
    rw [bthK_left a b c p q r D _ _ k (by omega)]
    have hl := sgn_last (rkT 110 117 k i) x
    rw [hz] at hl
    rw [hl]
    exact mul_pos_of h1 h2
theorem sumU_ge (f : Nat → Int) : ∀ n i, i < n → (∀ j, j < n → 0 ≤ f j) → f i ≤ sumU f n
  | 0, _, h, _ => by omega
  | n + 1, i, h, hp => by
    have h1 := (sumU_nonneg f n fun j hj => hp j (by omega))
    show f i ≤ sumU f n + f n
    by_cases e : i = n
    · subst e; omega
    · have := sumU_ge f n i (by omega) (fun j hj => hp j (by omega))
      have := hp n (by omega)
      omega
where
  sumU_nonneg (f : Nat → Int) : ∀ n, (∀ j, j < n → 0 ≤ f j) → 0 ≤ sumU f n
  | 0, _ => Int.le_refl _
  | n + 1, h => by
    have := sumU_nonneg f n fun j hj => h j (by omega)
    have := h n (by omega)
    show 0 ≤ sumU f n + f n
    omega
/-- The search that starts below 0 finds the same. -/
def topM (f : Nat → Int) (j : Nat) : Int := if j = 0 then -1 else topV f j
def topN (f : Nat → Int) (j : Nat) : Nat := if 0 < topV f j then topR f j else 0
theorem topM_yes {f : Nat → Int} {j : Nat} (h0 : 0 ≤ f j) (hp : j = 0 ∨ 0 ≤ topV f j) (h : topM f j < f j) : topM f (j + 1) = f j ∧ topN f (j + 1) = j := by
  have e1 : topM f (j + 1) = topV f (j + 1) := by unfold topM; rw [if_neg (by omega)]
  rw [e1]
  by_cases e : j = 0
  · subst e
    have e2 : topV f (0 + 1) = f 0 := by
      show (if topV f 0 < f 0 then f 0 else topV f 0) = f 0
      show (if 0 < f 0 then f 0 else 0) = f 0
      split <;> omega
    refine ⟨e2, ?_⟩
    unfold topN
    split
    · show (if topV f 0 < f 0 then 0 else topR f 0) = 0
      split
      · rfl
      · rfl
    · rfl
  · unfold topM at h
    rw [if_neg e] at h
    have hge := (topV_ge f j).1
    have e2 : topV f (j + 1) = f j := by
      show (if topV f j < f j then f j else topV f j) = f j
      rw [if_pos h]
    refine ⟨e2, ?_⟩
    unfold topN
    rw [e2, if_pos (by omega)]
    show (if topV f j < f j then j else topR f j) = j
    rw [if_pos h]
theorem topM_no {f : Nat → Int} {j : Nat} (h0 : 0 ≤ f j) (h : ¬ topM f j < f j) : topM f (j + 1) = topM f j ∧ topN f (j + 1) = topN f j ∧ j ≠ 0 := by
  have hj : j ≠ 0 := by
    intro e
    apply h
    unfold topM
    rw [if_pos e]
    omega
  have h' : ¬ topV f j < f j := by unfold topM at h; rw [if_neg hj] at h; exact h
  have e1 : topV f (j + 1) = topV f j := by
    show (if topV f j < f j then f j else topV f j) = topV f j
    rw [if_neg h']
  have e2 : topR f (j + 1) = topR f j := by
    show (if topV f j < f j then j else topR f j) = topR f j
    rw [if_neg h']
  refine ⟨?_, ?_, hj⟩
  · unfold topM
    rw [if_neg (by omega), if_neg hj, e1]
  · unfold topN
    rw [e1, e2]
--END
end Go.Proofs.Ytjfcpbedmdnjcac
