/- Hidden days: what is of no program. -/
import Derived.Test.YtjfcpbedmdnjcabDoorFollowD
namespace Go.Proofs.YtjfcpbedmdnjcabDoor
set_option linter.unusedSimpArgs false
open Go.ChangeShapes Go.WideShapes Go.ChangeAt Go.RowKit
set_option linter.unusedVariables false

--BEGIN
/-- All texts of so many days, in order. -/
def dubD (l : List ByteArray) : List ByteArray := l.flatMap fun t => [t ++ ⟨#[100]⟩, t ++ ⟨#[119]⟩]
def allDy : Nat → List ByteArray
  | 0 => [ByteArray.empty]
  | n + 1 => dubD (allDy n)
/-- The text of n signs, x or y, whose rank is r. -/
def rkT (x y : UInt8) : Nat → Nat → ByteArray
  | 0, _ => ByteArray.empty
  | n + 1, r => rkT x y n (r / 2) ++ ⟨#[if r % 2 = 0 then x else y]⟩
theorem rkT_size (x y : UInt8) : ∀ n r, (rkT x y n r).size = n
  | 0, _ => rfl
  | n + 1, r => by
    rw [rkT, ByteArray.size_append, rkT_size x y n]
    rfl
theorem range_two (m : Nat) : List.range (2 * (m + 1)) = List.range (2 * m) ++ [2 * m, 2 * m + 1] := by
  rw [show 2 * (m + 1) = 2 * m + 1 + 1 from by omega, List.range_succ, List.range_succ]
  simp
theorem dubD_range (f : Nat → ByteArray) : ∀ m, dubD ((List.range m).map f) = (List.range (2 * m)).map (fun r => f (r / 2) ++ ⟨#[if r % 2 = 0 then 100 else 119]⟩)
  | 0 => rfl
  | m + 1 => by
    have ih := dubD_range f m
    have h1 : 2 * m / 2 = m := by omega
    have h2 : (2 * m + 1) / 2 = m := by omega
    have h3 : 2 * m % 2 = 0 := by omega
    have h4 : (2 * m + 1) % 2 = 1 := by omega
    rw [range_two, List.range_succ, List.map_append, List.map_append, ← ih]
    unfold dubD
    rw [List.flatMap_append]
    simp [h1, h2, h3, h4]
theorem allDy_eq : ∀ n, allDy n = (List.range (2 ^ n)).map (rkT 100 119 n)
  | 0 => rfl
  | n + 1 => by
    rw [allDy, allDy_eq n, dubD_range, Nat.pow_succ, Nat.mul_comm]
    rfl
theorem allDy_len (n : Nat) : (allDy n).length = 2 ^ n := by rw [allDy_eq]; simp
theorem allDy_at (n r : Nat) (h : r < 2 ^ n) : (allDy n).getD r ByteArray.empty = rkT 100 119 n r := by
  rw [allDy_eq, List.getD_eq_getElem?_getD, List.getElem?_map, List.getElem?_range h]
  rfl
theorem dubD_len (l : List ByteArray) : (dubD l).length = 2 * l.length := by
  unfold dubD
  induction l with
  | nil => rfl
  | cons a l ih => rw [List.flatMap_cons, List.length_append, ih]; simp; omega
theorem dubD_take (l : List ByteArray) (k : Nat) (hk : k < l.length) : dubD (l.take (k + 1)) = dubD (l.take k) ++ [l.getD k ByteArray.empty ++ ⟨#[100]⟩, l.getD k ByteArray.empty ++ ⟨#[119]⟩] := by
  unfold dubD
  rw [List.take_succ_eq_append_getElem hk, List.flatMap_append, List.getD_eq_getElem?_getD, List.getElem?_eq_getElem hk]
  simp
theorem mem_dubD {l : List ByteArray} {x : ByteArray} : x ∈ dubD l ↔ ∃ t ∈ l, x = t ++ ⟨#[100]⟩ ∨ x = t ++ ⟨#[119]⟩ := by
  unfold dubD
  simp [List.mem_flatMap]
theorem allDy_mem : ∀ (n : Nat) (x : ByteArray), x ∈ allDy n → x.size = n ∧ allB x = true
  | 0, x, h => by
    simp [allDy] at h
    subst h
    exact ⟨rfl, rfl⟩
  | n + 1, x, h => by
    rw [allDy, mem_dubD] at h
    obtain ⟨t, ht, e⟩ := h
    obtain ⟨a, b⟩ := allDy_mem n t ht
    rcases e with rfl | rfl
    · refine ⟨by rw [ByteArray.size_append, a]; rfl, ?_⟩
      unfold allB at *
      simp [b, dayB]
    · refine ⟨by rw [ByteArray.size_append, a]; rfl, ?_⟩
      unfold allB at *
      simp [b, dayB]
theorem dy_pos (k : Nat) : 0 < (allDy k).length := by rw [allDy_len]; exact Nat.pow_pos (by omega)
theorem pow8 (k : Nat) (h : k ≤ 8) : 2 ^ k ≤ 256 := by
  have : 2 ^ k ≤ 2 ^ 8 := Nat.pow_le_pow_right (by omega) h
  simpa using this
theorem rkT_days (n r : Nat) (h : r < 2 ^ n) : allB (rkT 100 119 n r) = true := by
  refine (allDy_mem n _ ?_).2
  rw [allDy_eq]
  exact List.mem_map.2 ⟨r, List.mem_range.2 h, rfl⟩
theorem sgn_left (A B : ByteArray) (k : Nat) (h : k < A.size) : sgn (A ++ B) k = sgn A k := by
  unfold sgn
  have e : (A ++ B).data.toList = A.data.toList ++ B.data.toList := by simp
  rw [e, List.getD_eq_getElem?_getD, List.getD_eq_getElem?_getD, List.getElem?_append_left (by simpa using h)]
theorem sgn_last (A : ByteArray) (x : UInt8) : sgn (A ++ ⟨#[x]⟩) A.size = x.toNat := by
  unfold sgn
  have e : (A ++ ⟨#[x]⟩).data.toList = A.data.toList ++ [x] := by simp
  rw [e, List.getD_eq_getElem?_getD, List.getElem?_append_right (by simp)]
  simp
/-- The sign k of the text whose rank is r. -/
theorem rkT_sgn (x y : UInt8) : ∀ (n r k : Nat), k < n → sgn (rkT x y n r) k = ((if r / 2 ^ (n - 1 - k) % 2 = 0 then x else y).toNat : Int)
  | 0, _, _, h => by omega
  | n + 1, r, k, h => by
    rw [rkT]
    by_cases e : k < n
    · rw [sgn_left _ _ _ (by rw [rkT_size]; exact e), rkT_sgn x y n (r / 2) k e, Nat.div_div_eq_div_mul]
      have : 2 * 2 ^ (n - 1 - k) = 2 ^ (n + 1 - 1 - k) := by
        rw [Nat.mul_comm, ← Nat.pow_succ]
        congr 1
        omega
      rw [this]
    · obtain rfl : k = n := by omega
      have := sgn_last (rkT x y k (r / 2)) (if r % 2 = 0 then x else y)
      rw [rkT_size] at this
      rw [this]
      simp

/-! ### Signs -/
def sgB (c : UInt8) : Bool := c == 110 || c == 117
def allG (s : ByteArray) : Bool := s.data.toList.all sgB
def signsB (s : ByteArray) : Bool := inB s.size 1 6 && allG s
def sgV (d : Int) : Prop := d = 110 ∨ d = 117
theorem sgB_iff (c : UInt8) : sgB c = true ↔ c.toNat = 110 ∨ c.toNat = 117 := by
  unfold sgB
  simp only [Bool.or_eq_true, beq_iff_eq]
  constructor
  · rintro (rfl | rfl) <;> simp
  · rintro (h | h)
    · left; apply UInt8.toNat.inj; simpa using h
    · right; apply UInt8.toNat.inj; simpa using h
theorem allG_of (s : ByteArray) (h : ∀ k, (hk : k < s.size) → sgB s[k] = true) : allG s = true := by
  unfold allG
  rw [List.all_eq_true]
  intro x hx
  obtain ⟨k, hk, rfl⟩ := List.getElem_of_mem hx
  exact h k (by simpa using hk)
theorem allG_not (s : ByteArray) (k : Nat) (hk : k < s.size) (h : sgB s[k] = false) : allG s = false := by
  unfold allG
  rw [List.all_eq_false]
  exact ⟨s[k], getElem_mem_data s k hk, by simp [h]⟩
theorem allG_at (s : ByteArray) (k : Nat) (hk : k < s.size) (h : allG s = true) : sgB s[k] = true := by
  unfold allG at h
  rw [List.all_eq_true] at h
  exact h s[k] (getElem_mem_data s k hk)
theorem sg_no {c : UInt8} (h1 : ¬ (c.toNat : Int) = 117) (h2 : ((c.toNat : Int) != 110) = true) : sgB c = false := by
  rw [← Bool.not_eq_true, sgB_iff]
  simp at h2
  omega
theorem sg_n {c : UInt8} (h2 : ((c.toNat : Int) != 110) = false) : sgB c = true := by
  rw [sgB_iff]
  simp at h2
  omega
theorem sg_u {c : UInt8} (h2 : (c.toNat : Int) = 117) : sgB c = true := by
  rw [sgB_iff]
  omega
theorem sg_step {s : ByteArray} {k : Nat} (h : ∀ j, (hj : j < s.size) → j < k → sgB s[j] = true) (hk : k < s.size) (h1 : sgB s[k] = true) : ∀ j, (hj : j < s.size) → j < k + 1 → sgB s[j] = true := by
  intro j hj hl
  by_cases e : j = k
  · subst e; exact h1
  · exact h j hj (by omega)
theorem sgn_sg (s : ByteArray) (k : Nat) (h : k < s.size) (ha : allG s = true) : sgV (sgn s k) := by
  rw [← sgn_at s k h]
  have := (sgB_iff _).1 (allG_at s k h ha)
  unfold sgV; omega
theorem signs_in {s : ByteArray} (g : signsB s = true) : 1 ≤ s.size ∧ s.size ≤ 6 ∧ allG s = true := by
  unfold signsB inB at g
  simp at g
  exact ⟨by omega, by omega, g.2⟩

/-- The chance of an umbrella on a day, in parts of r; and that of a sign. -/
def tkn (p q d : Int) : Int := if d = 119 then q else p
def sgc (p q r d g : Int) : Int := if g = 110 then r - tkn p q d else tkn p q d
theorem tkn_in {p q r : Int} (h : inR p q r) (d : Int) : 0 ≤ tkn p q d ∧ tkn p q d ≤ r := by
  unfold inR at h; unfold tkn; split <;> omega
theorem sgc_in {p q r : Int} (h : inR p q r) (d g : Int) : 0 ≤ sgc p q r d g ∧ sgc p q r d g ≤ r := by
  have := tkn_in h d
  unfold sgc; split <;> omega
/-- The chance of days and of the first k of some signs, in parts. -/
def bthK (a b c p q r : Int) (d s : ByteArray) : Nat → Int
  | 0 => flw a b c d d.size
  | k + 1 => bthK a b c p q r d s k * sgc p q r (sgn d k) (sgn s k)
def bth (a b c p q r : Int) (d s : ByteArray) : Int := bthK a b c p q r d s d.size
theorem bthK_in {a b c p q r : Int} (h : inR a b c) (g : inR p q r) (d s : ByteArray) : ∀ k, 0 ≤ bthK a b c p q r d s k ∧ bthK a b c p q r d s k ≤ 10 ^ (d.size + k)
  | 0 => flw_in h d d.size
  | k + 1 => by
    obtain ⟨x, y⟩ := bthK_in h g d s k
    obtain ⟨u, v⟩ := sgc_in g (sgn d k) (sgn s k)
    have hc : r ≤ 10 := by unfold inR at g; omega
    have p0 : (0 : Int) ≤ 10 ^ (d.size + k) := Int.pow_nonneg (by omega)
    unfold bthK
    rw [← Nat.add_assoc, Int.pow_succ]
    exact ⟨Int.mul_nonneg x u, Int.mul_le_mul y (by omega) u p0⟩
theorem ten_le14 (k : Nat) (h : k ≤ 14) : (10 : Int) ^ k ≤ 100000000000000 := by
  match k, h with
  | 0, _ | 1, _ | 2, _ | 3, _ | 4, _ | 5, _ | 6, _ | 7, _ | 8, _ | 9, _ | 10, _ | 11, _ | 12, _ | 13, _ | 14, _ => decide
theorem bthK_le {a b c p q r : Int} (h : inR a b c) (g : inR p q r) (d s : ByteArray) (k : Nat) (hd : d.size ≤ 7) (hk : k ≤ 7) : 0 ≤ bthK a b c p q r d s k ∧ bthK a b c p q r d s k ≤ 100000000000000 :=
  ⟨(bthK_in h g d s k).1, Int.le_trans (bthK_in h g d s k).2 (ten_le14 _ (by omega))⟩

/-! ### Sums -/
def sumU (f : Nat → Int) : Nat → Int
  | 0 => 0
  | n + 1 => sumU f n + f n
/-- n terms from k on. -/
def sumF (f : Nat → Int) (k : Nat) : Nat → Int
  | 0 => 0
  | n + 1 => sumF f k n + f (k + n)
theorem sumU_add (f : Nat → Int) (k : Nat) : ∀ n, sumU f (k + n) = sumU f k + sumF f k n
  | 0 => by simp [sumF]
  | n + 1 => by
    show sumU f (k + n) + f (k + n) = sumU f k + (sumF f k n + f (k + n))
    rw [sumU_add f k n]
    omega
theorem sumU_in (f : Nat → Int) (B : Int) : ∀ n, (∀ i, i < n → 0 ≤ f i ∧ f i ≤ B) → 0 ≤ sumU f n ∧ sumU f n ≤ n * B
  | 0, _ => by simp [sumU]
  | n + 1, h => by
    obtain ⟨x, y⟩ := sumU_in f B n (fun i hi => h i (by omega))
    obtain ⟨u, v⟩ := h n (by omega)
    unfold sumU
    have : ((n + 1 : Nat) : Int) * B = n * B + B := by rw [Int.natCast_add, Int.add_mul]; simp
    rw [this]
    omega
theorem sumU_congr (f g : Nat → Int) : ∀ n, (∀ i, i < n → f i = g i) → sumU f n = sumU g n
  | 0, _ => rfl
  | n + 1, h => by
    unfold sumU
    rw [sumU_congr f g n (fun i hi => h i (by omega)), h n (by omega)]
theorem sumF_congr (f g : Nat → Int) (k : Nat) : ∀ n, (∀ i, i < n → f (k + i) = g (k + i)) → sumF f k n = sumF g k n
  | 0, _ => rfl
  | n + 1, h => by
    unfold sumF
    rw [sumF_congr f g k n (fun i hi => h i (by omega)), h n (by omega)]
theorem sumF_zero (k : Nat) : ∀ n, sumF (fun _ => 0) k n = 0
  | 0 => rfl
  | n + 1 => by unfold sumF; rw [sumF_zero k n]; rfl
/-- What has a bit of a kind. -/
def bitF (f : Nat → Int) (L e : Nat) : Nat → Int := fun r => if r / L % 2 = e then f r else 0
theorem bit_in (L j i e : Nat) (h : i < L) : (j * L + i) / L = j := by
  rw [Nat.mul_comm, Nat.mul_add_div (by omega), Nat.div_eq_of_lt h]
  omega
theorem bit_same (f : Nat → Int) (L j e n : Nat) (hn : n ≤ L) (h : j % 2 = e) : sumF (bitF f L e) (j * L) n = sumF f (j * L) n := by
  refine sumF_congr _ _ _ _ fun i hi => ?_
  unfold bitF
  rw [bit_in L j i e (by omega), if_pos h]
theorem bit_none (f : Nat → Int) (L j e n : Nat) (hn : n ≤ L) (h : j % 2 ≠ e) : sumF (bitF f L e) (j * L) n = 0 := by
  rw [← sumF_zero (j * L) n]
  refine sumF_congr _ _ _ _ fun i hi => ?_
  unfold bitF
  rw [bit_in L j i e (by omega), if_neg h]
theorem block_zero (f : Nat → Int) (L j : Nat) : sumU (bitF f L 0) (2 * (j + 1) * L) = sumU (bitF f L 0) (2 * j * L) + sumF f (2 * j * L) L := by
  rw [show 2 * (j + 1) * L = 2 * j * L + L + L from by rw [Nat.mul_add, Nat.add_mul]; omega, sumU_add, sumU_add, bit_same f L (2 * j) 0 L (Nat.le_refl _) (by omega),
    show 2 * j * L + L = (2 * j + 1) * L from by rw [Nat.add_mul]; omega, bit_none f L (2 * j + 1) 0 L (Nat.le_refl _) (by omega)]
  omega
theorem block_one (f : Nat → Int) (L j : Nat) : sumU (bitF f L 1) (2 * (j + 1) * L) = sumU (bitF f L 1) (2 * j * L) + sumF f (2 * j * L + L) L := by
  rw [show 2 * (j + 1) * L = 2 * j * L + L + L from by rw [Nat.mul_add, Nat.add_mul]; omega, sumU_add, sumU_add, bit_none f L (2 * j) 1 L (Nat.le_refl _) (by omega),
    show 2 * j * L + L = (2 * j + 1) * L from by rw [Nat.add_mul]; omega, bit_same f L (2 * j + 1) 1 L (Nat.le_refl _) (by omega)]
  omega
theorem bits_all (f : Nat → Int) (L : Nat) : ∀ n, sumU (bitF f L 0) n + sumU (bitF f L 1) n = sumU f n
  | 0 => rfl
  | n + 1 => by
    have ih := bits_all f L n
    unfold sumU
    have : bitF f L 0 n + bitF f L 1 n = f n := by
      unfold bitF
      rcases Nat.mod_two_eq_zero_or_one (n / L) with h | h <;> simp [h]
    omega
theorem bitF_in (f : Nat → Int) (L e n : Nat) (B : Int) (hB : 0 ≤ B) (h : ∀ i, i < n → 0 ≤ f i ∧ f i ≤ B) : ∀ i, i < n → 0 ≤ bitF f L e i ∧ bitF f L e i ≤ B := by
  intro i hi
  have := h i hi
  unfold bitF
  split
  · exact this
  · exact ⟨Int.le_refl _, hB⟩

/-! ### The greatest one -/
def topV (f : Nat → Int) : Nat → Int
  | 0 => 0
  | n + 1 => if topV f n < f n then f n else topV f n
def topR (f : Nat → Int) : Nat → Nat
  | 0 => 0
  | n + 1 => if topV f n < f n then n else topR f n
theorem topV_ge (f : Nat → Int) : ∀ n, 0 ≤ topV f n ∧ ∀ i, i < n → f i ≤ topV f n
  | 0 => ⟨Int.le_refl _, fun _ h => by omega⟩
  | n + 1 => by
    obtain ⟨x, y⟩ := topV_ge f n
    unfold topV
    split
    · refine ⟨by omega, fun i hi => ?_⟩
      by_cases e : i = n
      · subst e; exact Int.le_refl _
      · have := y i (by omega); omega
    · refine ⟨x, fun i hi => ?_⟩
      by_cases e : i = n
      · subst e; omega
      · exact y i (by omega)
theorem topR_is (f : Nat → Int) : ∀ n, 0 < topV f n → topR f n < n ∧ f (topR f n) = topV f n ∧ ∀ i, i < topR f n → f i < topV f n
  | 0, h => by simp [topV] at h
  | n + 1, h => by
    unfold topV at h
    unfold topV topR
    by_cases e : topV f n < f n
    · simp only [e, if_true] at h ⊢
      refine ⟨by omega, trivial, fun i hi => ?_⟩
      have := (topV_ge f n).2 i hi
      omega
    · simp only [e, if_false] at h ⊢
      obtain ⟨x, y, z⟩ := topR_is f n h
      exact ⟨by omega, y, z⟩
theorem topV_zero (f : Nat → Int) (n : Nat) (h : ∀ i, i < n → f i = 0) : topV f n = 0 := by
  induction n with
  | zero => rfl
  | succ n ih =>
    unfold topV
    rw [ih (fun i hi => h i (by omega)), h n (by omega)]
    simp
theorem sum_pos (f : Nat → Int) (n : Nat) (h : ∀ i, i < n → 0 ≤ f i) : 0 < sumU f n ↔ 0 < topV f n := by
  induction n with
  | zero => simp [sumU, topV]
  | succ n ih =>
    have h1 := ih (fun i hi => h i (by omega))
    have h2 := h n (by omega)
    have h3 := (topV_ge f n).1
    have h4 : 0 ≤ sumU f n := by
      clear ih h1 h2 h3
      induction n with
      | zero => simp [sumU]
      | succ n ih2 =>
        have := ih2 (fun i hi => h i (by omega))
        have := h n (by omega)
        unfold sumU; omega
    unfold sumU topV
    split <;> omega
--END
end Go.Proofs.YtjfcpbedmdnjcabDoor
