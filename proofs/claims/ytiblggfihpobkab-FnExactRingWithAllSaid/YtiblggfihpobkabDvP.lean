/- Numbers of prime words: what is of no program. -/
import Derived.Test.YtiblggfihpobkabWoP
import Derived.Test.YtiblggfihpobkabRowI
namespace Go.Proofs.Ytiblggfihpobkab
set_option linter.unusedSimpArgs false
open Go.ChangeShapes Go.WideShapes Go.ChangeAt Go.RowKit
set_option linter.unusedVariables false

/-- The sum, over the numbers up to k that divide L, of each times what g tells of it. -/
def pcSm (g : Nat → Int) (L : Nat) : Nat → Int
  | 0 => 0
  | k + 1 => pcSm g L k + (if L % (k + 1) = 0 then ((k + 1 : Nat) : Int) * g (k + 1) else 0)
def pcT (n : Nat) : Nat → List Int
  | 0 => [0]
  | L + 1 => pcT n L ++ [((n : Int) ^ (L + 1) - pcSm (fun j => (pcT n L).getD j 0) (L + 1) L).tdiv ((L + 1 : Nat) : Int)]
/-- How many prime words there are. -/
def pcW (n L : Nat) : Int := (pcT n L).getD L 0
theorem pcT_len (n : Nat) : ∀ L, (pcT n L).length = L + 1
  | 0 => rfl
  | L + 1 => by unfold pcT; rw [List.length_append, pcT_len n L]; rfl
theorem pcT_at (n : Nat) : ∀ m k, k ≤ m → (pcT n m).getD k 0 = pcW n k
  | 0, k, h => by obtain rfl : k = 0 := by omega
                  rfl
  | m + 1, k, h => by
    by_cases e : k = m + 1
    · rw [e]; rfl
    · rw [← pcT_at n m k (by omega)]
      show (pcT n m ++ _).getD k 0 = _
      rw [List.getD_eq_getElem?_getD, List.getD_eq_getElem?_getD, List.getElem?_append_left (by rw [pcT_len]; omega)]
theorem pcSm_congr {g h : Nat → Int} {L : Nat} : ∀ k, (∀ j, 1 ≤ j → j ≤ k → g j = h j) → pcSm g L k = pcSm h L k
  | 0, _ => rfl
  | k + 1, e => by
    unfold pcSm
    rw [pcSm_congr k (fun j a b => e j a (by omega)), e (k + 1) (by omega) (Nat.le_refl _)]
theorem pcW_eq (n L : Nat) (h : 1 ≤ L) : pcW n L = ((n : Int) ^ L - pcSm (pcW n) L (L - 1)).tdiv (L : Int) := by
  obtain ⟨m, rfl⟩ : ∃ m, L = m + 1 := ⟨L - 1, by omega⟩
  have e : pcW n (m + 1) = ((n : Int) ^ (m + 1) - pcSm (fun j => (pcT n m).getD j 0) (m + 1) m).tdiv ((m + 1 : Nat) : Int) := by
    unfold pcW
    conv => lhs; unfold pcT
    rw [List.getD_eq_getElem?_getD, List.getElem?_append_right (by rw [pcT_len]; exact Nat.le_refl _), pcT_len, Nat.sub_self]
    rfl
  rw [e, pcSm_congr (h := pcW n) m (fun j a b => pcT_at n m j b)]
  rfl
/-- How great they can be. -/
def bnd : Nat → Int
  | 1 => 26 | 2 => 702 | 3 => 17602 | 4 => 458406 | 5 => 11881402 | 6 => 308970100 | 7 => 8031810202 | 8 => 208830000000 | _ => 0
def bndChk : Bool := (List.range 9).all fun L => L == 0 || decide ((26 : Int) ^ L + pcSm bnd L (L - 1) ≤ bnd L)
theorem bndChk_ok : bndChk = true := by kernel_rfl
theorem bnd_at (L : Nat) (h1 : 1 ≤ L) (h8 : L ≤ 8) : (26 : Int) ^ L + pcSm bnd L (L - 1) ≤ bnd L := by
  have c := bndChk_ok
  unfold bndChk at c
  rw [List.all_eq_true] at c
  have c1 := c L (List.mem_range.2 (by omega))
  rw [Bool.or_eq_true] at c1
  rcases c1 with c1 | c1
  · simp at c1; omega
  · simpa using c1
theorem bnd_pos : ∀ k, 0 ≤ bnd k ∧ bnd k ≤ 208830000000
  | 0 | 1 | 2 | 3 | 4 | 5 | 6 | 7 | 8 => by decide
  | k + 9 => by show (0 : Int) ≤ 0 ∧ (0 : Int) ≤ _; decide
theorem pcSm_bnd {g : Nat → Int} {L : Nat} : ∀ k, (∀ j, 1 ≤ j → j ≤ k → -bnd j ≤ g j ∧ g j ≤ bnd j) → -pcSm bnd L k ≤ pcSm g L k ∧ pcSm g L k ≤ pcSm bnd L k
  | 0, _ => by simp [pcSm]
  | k + 1, h => by
    obtain ⟨a, b⟩ := pcSm_bnd k (fun j x y => h j x (by omega)) (L := L)
    obtain ⟨c, d⟩ := h (k + 1) (by omega) (Nat.le_refl _)
    unfold pcSm
    split
    · have h1 : ((k + 1 : Nat) : Int) * g (k + 1) ≤ ((k + 1 : Nat) : Int) * bnd (k + 1) := Int.mul_le_mul_of_nonneg_left d (by omega)
      have h2 : ((k + 1 : Nat) : Int) * -bnd (k + 1) ≤ ((k + 1 : Nat) : Int) * g (k + 1) := Int.mul_le_mul_of_nonneg_left c (by omega)
      rw [Int.mul_neg] at h2
      omega
    · omega
theorem pcSm_mono {L : Nat} : ∀ k d, pcSm bnd L k ≤ pcSm bnd L (k + d)
  | k, 0 => Int.le_refl _
  | k, d + 1 => by
    have h := pcSm_mono (L := L) k d
    rw [← Nat.add_assoc]
    show _ ≤ pcSm bnd L (k + d) + _
    have := (bnd_pos (k + d + 1)).1
    split
    · have := Int.mul_nonneg (show (0 : Int) ≤ ((k + d + 1 : Nat) : Int) by omega) this
      omega
    · omega
/-- What is left behind the numbers up to k. -/
def pcL (n L k : Nat) : Int := (n : Int) ^ L - pcSm (pcW n) L k
theorem tdiv_bnd (x B : Int) (L : Nat) (h1 : 1 ≤ L) (ha : -B ≤ x) (hb : x ≤ B) : -B ≤ x.tdiv (L : Int) ∧ x.tdiv (L : Int) ≤ B := by
  rcases Int.le_total 0 x with h | h
  · rw [Int.tdiv_eq_ediv_of_nonneg h]
    have h2 : 0 ≤ x / (L : Int) := Int.ediv_nonneg h (by omega)
    have h3 : x / (L : Int) ≤ x := Int.ediv_le_self _ h
    omega
  · have e : x.tdiv (L : Int) = -((-x).tdiv (L : Int)) := by rw [Int.neg_tdiv, Int.neg_neg]
    rw [e, Int.tdiv_eq_ediv_of_nonneg (by omega)]
    have h2 : 0 ≤ -x / (L : Int) := Int.ediv_nonneg (by omega) (by omega)
    have h3 : -x / (L : Int) ≤ -x := Int.ediv_le_self _ (by omega)
    omega
theorem pcW_bnd (n : Nat) (n1 : 1 ≤ n) (n2 : n ≤ 26) : ∀ L, 1 ≤ L → L ≤ 8 → (-bnd L ≤ pcW n L ∧ pcW n L ≤ bnd L) ∧ ∀ k, k ≤ L - 1 → -bnd L ≤ pcL n L k ∧ pcL n L k ≤ bnd L := by
  intro L
  induction L using Nat.strongRecOn with
  | _ L ih =>
    intro h1 h8
    have hk : ∀ k, k ≤ L - 1 → -bnd L ≤ pcL n L k ∧ pcL n L k ≤ bnd L := by
      intro k hk
      obtain ⟨a, b⟩ := pcSm_bnd (g := pcW n) (L := L) k (fun j j1 j2 => (ih j (by omega) j1 (by omega)).1)
      obtain ⟨d, hd⟩ := Nat.exists_eq_add_of_le hk
      have m := pcSm_mono (L := L) k d
      rw [← hd] at m
      have t := bnd_at L h1 h8
      obtain ⟨p, q⟩ := pw_tn n n1 n2 L
      unfold pcL
      omega
    refine ⟨?_, hk⟩
    rw [pcW_eq n L h1]
    obtain ⟨a, b⟩ := hk (L - 1) (Nat.le_refl _)
    exact tdiv_bnd _ _ L h1 a b
def dvp (L k : Nat) : Bool := decide (L % k = 0)
/-- The numbers that divide L. -/
def dvL (L : Nat) : List Int := selR (dvp L) 1 L
/-- The sum over the first i of some numbers, those under L alone. -/
def dvS (g : Nat → Int) (L : Nat) (ks : List Int) : Nat → Int
  | 0 => 0
  | i + 1 => dvS g L ks i + (if ks.getD i 0 < (L : Int) then ks.getD i 0 * g (ks.getD i 0).toNat else 0)
/-- The sum over the first i of them, without more. -/
def dvA (g : Nat → Int) (ks : List Int) : Nat → Int
  | 0 => 0
  | i + 1 => dvA g ks i + g (ks.getD i 0).toNat
/-- The sum over the numbers up to k that divide L. -/
def nkS (g : Nat → Int) (L : Nat) : Nat → Int
  | 0 => 0
  | k + 1 => nkS g L k + (if L % (k + 1) = 0 then g (k + 1) else 0)
theorem dvS_app (g : Nat → Int) (L : Nat) (ks t : List Int) : ∀ i, i ≤ ks.length → dvS g L (ks ++ t) i = dvS g L ks i
  | 0, _ => rfl
  | i + 1, h => by
    unfold dvS
    rw [dvS_app g L ks t i (by omega), List.getD_eq_getElem?_getD, List.getD_eq_getElem?_getD, List.getElem?_append_left (by omega)]
theorem dvA_app (g : Nat → Int) (ks t : List Int) : ∀ i, i ≤ ks.length → dvA g (ks ++ t) i = dvA g ks i
  | 0, _ => rfl
  | i + 1, h => by
    unfold dvA
    rw [dvA_app g ks t i (by omega), List.getD_eq_getElem?_getD, List.getD_eq_getElem?_getD, List.getElem?_append_left (by omega)]
theorem getD_last (ks : List Int) (x : Int) : (ks ++ [x]).getD ks.length 0 = x := by
  rw [List.getD_eq_getElem?_getD, List.getElem?_append_right (Nat.le_refl _), Nat.sub_self]
  rfl
theorem dvS_sel (g : Nat → Int) (L : Nat) : ∀ m, m < L → dvS g L (selR (dvp L) 1 m) (selR (dvp L) 1 m).length = pcSm g L m
  | 0, _ => rfl
  | m + 1, h => by
    unfold pcSm
    cases hq : dvp L (1 + m)
    · rw [selR_no hq, dvS_sel g L m (by omega), if_neg (by unfold dvp at hq; rw [Nat.add_comm]; simpa using hq), Int.add_zero]
    · rw [selR_yes hq, List.length_append, List.length_singleton]
      unfold dvS
      rw [dvS_app _ _ _ _ _ (Nat.le_refl _), dvS_sel g L m (by omega), getD_last, if_pos (by omega), if_pos (by unfold dvp at hq; rw [Nat.add_comm]; simpa using hq), Int.toNat_natCast, Nat.add_comm 1 m]
theorem dvA_sel (g : Nat → Int) (L : Nat) : ∀ m, dvA g (selR (dvp L) 1 m) (selR (dvp L) 1 m).length = nkS g L m
  | 0 => rfl
  | m + 1 => by
    unfold nkS
    cases hq : dvp L (1 + m)
    · rw [selR_no hq, dvA_sel g L m, if_neg (by unfold dvp at hq; rw [Nat.add_comm]; simpa using hq), Int.add_zero]
    · rw [selR_yes hq, List.length_append, List.length_singleton]
      unfold dvA
      rw [dvA_app _ _ _ _ (Nat.le_refl _), dvA_sel g L m, getD_last, if_pos (by unfold dvp at hq; rw [Nat.add_comm]; simpa using hq), Int.toNat_natCast, Nat.add_comm 1 m]
theorem dvS_some (g : Nat → Int) (L : Nat) : ∀ m, m < L → ∀ i, i ≤ (selR (dvp L) 1 m).length → ∃ k, k ≤ m ∧ dvS g L (selR (dvp L) 1 m) i = pcSm g L k
  | 0, _, i, hi => ⟨0, Nat.le_refl _, by simp [selR] at hi; rw [hi]; rfl⟩
  | m + 1, h, i, hi => by
    by_cases e : i = (selR (dvp L) 1 (m + 1)).length
    · exact ⟨m + 1, Nat.le_refl _, by rw [e]; exact dvS_sel g L (m + 1) h⟩
    · cases hq : dvp L (1 + m)
      · rw [selR_no hq] at hi ⊢
        obtain ⟨k, hk, he⟩ := dvS_some g L m (by omega) i hi
        exact ⟨k, by omega, he⟩
      · rw [selR_yes hq] at e hi ⊢
        rw [List.length_append, List.length_singleton] at e hi
        rw [dvS_app _ _ _ _ _ (by omega)]
        obtain ⟨k, hk, he⟩ := dvS_some g L m (by omega) i (by omega)
        exact ⟨k, by omega, he⟩
theorem dvL_last (L : Nat) (h : 1 ≤ L) : dvL L = selR (dvp L) 1 (L - 1) ++ [(L : Int)] := by
  obtain ⟨m, rfl⟩ : ∃ m, L = m + 1 := ⟨L - 1, by omega⟩
  unfold dvL
  rw [selR_yes (show dvp (m + 1) (1 + m) = true from by unfold dvp; rw [Nat.add_comm 1 m, Nat.mod_self]; rfl), Nat.add_comm 1 m]
  rfl
theorem dvL_len (L : Nat) (h : 1 ≤ L) : (dvL L).length = (selR (dvp L) 1 (L - 1)).length + 1 := by rw [dvL_last L h, List.length_append]; rfl
theorem dvL_all (g : Nat → Int) (L : Nat) (h : 1 ≤ L) : dvS g L (dvL L) (dvL L).length = pcSm g L (L - 1) := by
  rw [dvL_len L h, dvL_last L h]
  unfold dvS
  rw [dvS_app _ _ _ _ _ (Nat.le_refl _), dvS_sel g L (L - 1) (by omega), getD_last, if_neg (by omega), Int.add_zero]
theorem dvL_some (g : Nat → Int) (L : Nat) (h : 1 ≤ L) (i : Nat) (hi : i ≤ (dvL L).length) : ∃ k, k ≤ L - 1 ∧ dvS g L (dvL L) i = pcSm g L k := by
  by_cases e : i = (dvL L).length
  · rw [e]; exact ⟨L - 1, Nat.le_refl _, dvL_all g L h⟩
  · rw [dvL_len L h] at e hi
    rw [dvL_last L h, dvS_app _ _ _ _ _ (by omega)]
    exact dvS_some g L (L - 1) (by omega) i (by omega)
theorem dvL_in (L i : Nat) (hi : i < (dvL L).length) : ∃ k : Nat, (dvL L).getD i 0 = k ∧ 1 ≤ k ∧ k ≤ L := by
  have hm : (dvL L).getD i 0 ∈ dvL L := by rw [List.getD_eq_getElem?_getD, List.getElem?_eq_getElem hi]; exact List.getElem_mem _
  obtain ⟨k, e, l, u⟩ := selR_mem _ _ _ _ hm
  exact ⟨k, e, l, by omega⟩
theorem dvA_bnd {g : Nat → Int} {ks : List Int} {B : Int} (hg : ∀ i, i < ks.length → -B ≤ g (ks.getD i 0).toNat ∧ g (ks.getD i 0).toNat ≤ B) : ∀ i, i ≤ ks.length → -(i * B) ≤ dvA g ks i ∧ dvA g ks i ≤ i * B
  | 0, _ => by simp [dvA]
  | i + 1, h => by
    obtain ⟨a, b⟩ := dvA_bnd hg i (by omega)
    obtain ⟨c, d⟩ := hg i (by omega)
    unfold dvA
    have : ((i + 1 : Nat) : Int) * B = i * B + B := by rw [Int.natCast_add, Int.add_mul]; simp
    omega
theorem nkS_bnd {g : Nat → Int} {L : Nat} {B : Int} (hB : 0 ≤ B) : ∀ k, (∀ j, 1 ≤ j → j ≤ k → -B ≤ g j ∧ g j ≤ B) → -(k * B) ≤ nkS g L k ∧ nkS g L k ≤ k * B
  | 0, _ => by simp [nkS]
  | k + 1, h => by
    obtain ⟨a, b⟩ := nkS_bnd hB k (fun j x y => h j x (by omega)) (L := L)
    obtain ⟨c, d⟩ := h (k + 1) (by omega) (Nat.le_refl _)
    unfold nkS
    have : ((k + 1 : Nat) : Int) * B = k * B + B := by rw [Int.natCast_add, Int.add_mul]; simp
    split <;> omega
end Go.Proofs.Ytiblggfihpobkab
