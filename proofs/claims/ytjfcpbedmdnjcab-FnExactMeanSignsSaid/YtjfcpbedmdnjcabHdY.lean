/- The mean number of umbrellas: what is of no program. -/
import Derived.Test.YtjfcpbedmdnjcabHdX
import Derived.Test.YtjfcpbedmdnjcabLaterD
namespace Go.Proofs.Ytjfcpbedmdnjcab
set_option linter.unusedSimpArgs false
open Go.ChangeShapes Go.WideShapes Go.ChangeAt Go.RowKit
set_option linter.unusedVariables false

--BEGIN
/-- The chances that the day behind n others is dry, and wet, whatever the first one was, in parts. -/
def m0 (a b c : Int) (n : Nat) : Int := (ltr a b c 100 n).1 + (ltr a b c 119 n).1
def m1 (a b c : Int) (n : Nat) : Int := (ltr a b c 100 n).2 + (ltr a b c 119 n).2
theorem m0_succ (a b c : Int) (n : Nat) : m0 a b c (n + 1) = m0 a b c n * (c - a) + m1 a b c n * b := by
  unfold m0 m1
  show ((ltr a b c 100 n).1 * (c - a) + (ltr a b c 100 n).2 * b) + ((ltr a b c 119 n).1 * (c - a) + (ltr a b c 119 n).2 * b) = _
  rw [Int.add_mul, Int.add_mul]
  omega
theorem m1_succ (a b c : Int) (n : Nat) : m1 a b c (n + 1) = m0 a b c n * a + m1 a b c n * (c - b) := by
  unfold m0 m1
  show ((ltr a b c 100 n).1 * a + (ltr a b c 100 n).2 * (c - b)) + ((ltr a b c 119 n).1 * a + (ltr a b c 119 n).2 * (c - b)) = _
  rw [Int.add_mul, Int.add_mul]
  omega
theorem m_all {a b c : Int} (h : inR a b c) (n : Nat) : 0 ≤ m0 a b c n ∧ 0 ≤ m1 a b c n ∧ m0 a b c n + m1 a b c n = 2 * c ^ n := by
  obtain ⟨x, y, z⟩ := ltr_in h 100 n
  obtain ⟨u, v, t⟩ := ltr_in h 119 n
  unfold m0 m1
  omega
/-- The mean of the first n days, in parts of 2 c^(n-1) r. -/
def mnS (a b c p q : Int) : Nat → Int
  | 0 => 0
  | n + 1 => c * mnS a b c p q n + (m0 a b c n * p + m1 a b c n * q)
theorem mn_term {a b c p q r : Int} (h : inR a b c) (g : inR p q r) (n : Nat) : 0 ≤ m0 a b c n * p + m1 a b c n * q ∧ m0 a b c n * p + m1 a b c n * q ≤ 2 * c ^ n * r := by
  obtain ⟨x, y, z⟩ := m_all h n
  obtain ⟨g1, g2, g3, g4, g5, g6⟩ := g
  have e1 := Int.mul_nonneg x g1
  have e2 := Int.mul_nonneg y g3
  have e3 : m0 a b c n * p ≤ m0 a b c n * r := Int.mul_le_mul_of_nonneg_left g2 x
  have e4 : m1 a b c n * q ≤ m1 a b c n * r := Int.mul_le_mul_of_nonneg_left g4 y
  have e5 : (m0 a b c n + m1 a b c n) * r = m0 a b c n * r + m1 a b c n * r := Int.add_mul _ _ _
  rw [← z, e5]
  omega
theorem mnS_in {a b c p q r : Int} (h : inR a b c) (g : inR p q r) : ∀ n, 0 ≤ mnS a b c p q (n + 1) ∧ mnS a b c p q (n + 1) ≤ (n + 1 : Nat) * (2 * c ^ n * r)
  | 0 => by
    have := mn_term h g 0
    show 0 ≤ c * 0 + _ ∧ c * 0 + _ ≤ _
    rw [Int.mul_zero, Int.zero_add]
    refine ⟨this.1, ?_⟩
    simpa using this.2
  | n + 1 => by
    obtain ⟨x, y⟩ := mnS_in h g n
    obtain ⟨u, v⟩ := mn_term h g (n + 1)
    have hc : 0 ≤ c := by unfold inR at h; omega
    have e1 := Int.mul_nonneg hc x
    have e2 : c * mnS a b c p q (n + 1) ≤ c * ((n + 1 : Nat) * (2 * c ^ n * r)) := Int.mul_le_mul_of_nonneg_left y hc
    have e3 : c * (((n + 1 : Nat) : Int) * (2 * c ^ n * r)) = ((n + 1 : Nat) : Int) * (2 * c ^ (n + 1) * r) := by
      rw [Int.pow_succ, Int.mul_left_comm]
      congr 1
      rw [Int.mul_left_comm c]
      simp only [Int.mul_assoc, Int.mul_left_comm, Int.mul_comm]
    have e4 : (((n + 1 + 1 : Nat) : Int)) * (2 * c ^ (n + 1) * r) = ((n + 1 : Nat) : Int) * (2 * c ^ (n + 1) * r) + 2 * c ^ (n + 1) * r := by
      rw [Int.natCast_add (n + 1) 1, Int.add_mul]; simp
    show 0 ≤ c * mnS a b c p q (n + 1) + _ ∧ c * mnS a b c p q (n + 1) + _ ≤ _
    rw [e4, ← e3]
    omega

/-! ### The same, over all texts of days -/
def wtN (s : ByteArray) : Nat := s.data.toList.count 119
theorem wtN_le (s : ByteArray) : wtN s ≤ s.size := by
  unfold wtN
  exact Nat.le_trans List.count_le_length (by simp)
theorem wtN_d (s : ByteArray) : wtN (s ++ ⟨#[100]⟩) = wtN s := by
  unfold wtN
  have e : (s ++ ⟨#[100]⟩).data.toList = s.data.toList ++ [100] := by simp
  rw [e, List.count_append]
  rfl
theorem wtN_w (s : ByteArray) : wtN (s ++ ⟨#[119]⟩) = wtN s + 1 := by
  unfold wtN
  have e : (s ++ ⟨#[119]⟩).data.toList = s.data.toList ++ [119] := by simp
  rw [e, List.count_append]
  rfl
theorem sum_double (f : Nat → Int) : ∀ m, sumU f (2 * m) = sumU (fun i => f (2 * i) + f (2 * i + 1)) m
  | 0 => rfl
  | m + 1 => by
    show sumU f (2 * m) + f (2 * m) + f (2 * m + 1) = sumU (fun i => f (2 * i) + f (2 * i + 1)) m + (f (2 * m) + f (2 * m + 1))
    rw [sum_double f m]
    omega
theorem sumU_lin (f g : Nat → Int) (x y : Int) : ∀ m, sumU (fun i => f i * x + g i * y) m = sumU f m * x + sumU g m * y
  | 0 => by simp [sumU]
  | m + 1 => by
    show sumU (fun i => f i * x + g i * y) m + (f m * x + g m * y) = (sumU f m + f m) * x + (sumU g m + g m) * y
    rw [sumU_lin f g x y m, Int.add_mul, Int.add_mul]
    omega
theorem rkT_even (n i : Nat) : rkT 100 119 (n + 1) (2 * i) = rkT 100 119 n i ++ ⟨#[100]⟩ := by
  rw [rkT, show 2 * i / 2 = i from by omega, if_pos (by omega)]
theorem rkT_odd (n i : Nat) : rkT 100 119 (n + 1) (2 * i + 1) = rkT 100 119 n i ++ ⟨#[119]⟩ := by
  rw [rkT, show (2 * i + 1) / 2 = i from by omega, if_neg (by omega)]
/-- What follows once more. -/
theorem flw_add (a b c : Int) (A : ByteArray) (y z : UInt8) : flw a b c (A ++ ⟨#[y]⟩ ++ ⟨#[z]⟩) (A.size + 1 + 1) = flw a b c (A ++ ⟨#[y]⟩) (A.size + 1) * stp a b c y.toNat z.toNat := by
  have hz : (A ++ ⟨#[y]⟩).size = A.size + 1 := by rw [ByteArray.size_append]; rfl
  show (if A.size + 1 = 0 then 1 else flw a b c (A ++ ⟨#[y]⟩ ++ ⟨#[z]⟩) (A.size + 1) * stp a b c (sgn (A ++ ⟨#[y]⟩ ++ ⟨#[z]⟩) (A.size + 1 - 1)) (sgn (A ++ ⟨#[y]⟩ ++ ⟨#[z]⟩) (A.size + 1))) = _
  rw [if_neg (by omega), flw_left a b c (A ++ ⟨#[y]⟩) _ (A.size + 1) (by omega), Nat.add_sub_cancel, sgn_left (A ++ ⟨#[y]⟩) _ A.size (by omega), sgn_last]
  have := sgn_last (A ++ ⟨#[y]⟩) z
  rw [hz] at this
  rw [this]
theorem last_sum (a b c : Int) : ∀ n, sumU (fun i => flw a b c (rkT 100 119 n i ++ ⟨#[100]⟩) (n + 1)) (2 ^ n) = m0 a b c n ∧ sumU (fun i => flw a b c (rkT 100 119 n i ++ ⟨#[119]⟩) (n + 1)) (2 ^ n) = m1 a b c n
  | 0 => by
    constructor
    · show (0 : Int) + 1 = (ltr a b c 100 0).1 + (ltr a b c 119 0).1
      simp [ltr]
    · show (0 : Int) + 1 = (ltr a b c 100 0).2 + (ltr a b c 119 0).2
      simp [ltr]
  | n + 1 => by
    obtain ⟨h0, h1⟩ := last_sum a b c n
    have hp : 2 ^ (n + 1) = 2 * 2 ^ n := by rw [Nat.pow_succ]; omega
    have key : ∀ z : UInt8, sumU (fun i => flw a b c (rkT 100 119 (n + 1) i ++ ⟨#[z]⟩) (n + 1 + 1)) (2 ^ (n + 1)) = m0 a b c n * stp a b c 100 z.toNat + m1 a b c n * stp a b c 119 z.toNat := fun z => by
      rw [hp, sum_double, ← h0, ← h1, ← sumU_lin]
      refine sumU_congr _ _ _ fun i _ => ?_
      have hz := rkT_size 100 119 n i
      have e1 := flw_add a b c (rkT 100 119 n i) 100 z
      have e2 := flw_add a b c (rkT 100 119 n i) 119 z
      rw [hz] at e1 e2
      show flw a b c (rkT 100 119 (n + 1) (2 * i) ++ ⟨#[z]⟩) (n + 1 + 1) + flw a b c (rkT 100 119 (n + 1) (2 * i + 1) ++ ⟨#[z]⟩) (n + 1 + 1) = _
      rw [rkT_even, rkT_odd, e1, e2]
      rfl
    refine ⟨?_, ?_⟩
    · rw [key 100, m0_succ]
      rfl
    · rw [key 119, m1_succ]
      rfl
/-- The mean of one text of days. -/
def cvS (p q : Int) (s : ByteArray) : Int := ((s.size : Int) - (wtN s : Int)) * p + (wtN s : Int) * q
theorem cvS_d (p q : Int) (s : ByteArray) : cvS p q (s ++ ⟨#[100]⟩) = cvS p q s + p := by
  unfold cvS
  rw [wtN_d, ByteArray.size_append]
  show (((s.size + 1 : Nat) : Int) - (wtN s : Int)) * p + _ = _
  rw [show (((s.size + 1 : Nat) : Int) - (wtN s : Int)) = ((s.size : Int) - (wtN s : Int)) + 1 from by omega, Int.add_mul]
  omega
theorem cvS_w (p q : Int) (s : ByteArray) : cvS p q (s ++ ⟨#[119]⟩) = cvS p q s + q := by
  unfold cvS
  rw [wtN_w, ByteArray.size_append]
  show (((s.size + 1 : Nat) : Int) - ((wtN s + 1 : Nat) : Int)) * p + ((wtN s + 1 : Nat) : Int) * q = _
  rw [show (((s.size + 1 : Nat) : Int) - ((wtN s + 1 : Nat) : Int)) = ((s.size : Int) - (wtN s : Int)) from by omega, Int.natCast_add, Int.add_mul (wtN s : Int)]
  simp
  omega
def mnF (a b c p q : Int) (n : Nat) : Nat → Int := fun i => flw a b c (rkT 100 119 n i) n * cvS p q (rkT 100 119 n i)
theorem mean_all {a b c : Int} (h : inR a b c) (p q : Int) : ∀ n, sumU (mnF a b c p q n) (2 ^ n) = mnS a b c p q n
  | 0 => by
    show (0 : Int) + 1 * cvS p q (rkT 100 119 0 0) = 0
    have e : cvS p q (rkT 100 119 0 0) = 0 := by
      unfold cvS
      show (((0 : Nat) : Int) - ((0 : Nat) : Int)) * p + ((0 : Nat) : Int) * q = 0
      simp
    rw [e]
    rfl
  | n + 1 => by
    have ih := mean_all h p q n
    obtain ⟨h0, h1⟩ := last_sum a b c n
    have hp : 2 ^ (n + 1) = 2 * 2 ^ n := by rw [Nat.pow_succ]; omega
    have hsplit : ∀ i, i < 2 ^ n → flw a b c (rkT 100 119 n i ++ ⟨#[100]⟩) (n + 1) * cvS p q (rkT 100 119 n i) + flw a b c (rkT 100 119 n i ++ ⟨#[119]⟩) (n + 1) * cvS p q (rkT 100 119 n i) = mnF a b c p q n i * c := fun i hi => by
      unfold mnF
      have hz := rkT_size 100 119 n i
      by_cases e : n = 0
      · subst e
        have ec : cvS p q (rkT 100 119 0 i) = 0 := by
          unfold cvS
          show (((0 : Nat) : Int) - ((0 : Nat) : Int)) * p + ((0 : Nat) : Int) * q = 0
          simp
        rw [ec]
        simp
      · have step : ∀ x : UInt8, flw a b c (rkT 100 119 n i ++ ⟨#[x]⟩) (n + 1) = flw a b c (rkT 100 119 n i) n * stp a b c (sgn (rkT 100 119 n i) (n - 1)) x.toNat := fun x => by
          show (if n = 0 then 1 else flw a b c (rkT 100 119 n i ++ ⟨#[x]⟩) n * stp a b c (sgn (rkT 100 119 n i ++ ⟨#[x]⟩) (n - 1)) (sgn (rkT 100 119 n i ++ ⟨#[x]⟩) n)) = _
          have hl := sgn_last (rkT 100 119 n i) x
          rw [hz] at hl
          rw [if_neg e, flw_left a b c _ _ n (by omega), sgn_left _ _ (n - 1) (by omega), hl]
        rw [step, step, ← Int.add_mul, ← Int.mul_add]
        have hd : stp a b c (sgn (rkT 100 119 n i) (n - 1)) ((100 : UInt8).toNat : Int) + stp a b c (sgn (rkT 100 119 n i) (n - 1)) ((119 : UInt8).toNat : Int) = c := by
          rw [rkT_sgn 100 119 n i (n - 1) (by omega)]
          unfold stp
          split <;> simp <;> omega
        rw [hd, Int.mul_assoc, Int.mul_comm c, ← Int.mul_assoc]
    rw [hp, sum_double]
    show _ = c * mnS a b c p q n + (m0 a b c n * p + m1 a b c n * q)
    rw [← ih, ← h0, ← h1, ← sumU_lin, Int.mul_comm c, ← Int.mul_one (sumU (fun i => _ * p + _ * q) _), ← sumU_lin]
    refine sumU_congr _ _ _ fun i hi => ?_
    rw [← hsplit i hi]
    show mnF a b c p q (n + 1) (2 * i) + mnF a b c p q (n + 1) (2 * i + 1) = _
    unfold mnF
    rw [rkT_even, rkT_odd, cvS_d, cvS_w, Int.mul_add, Int.mul_add]
    omega
--END
end Go.Proofs.Ytjfcpbedmdnjcab
