/- Patterns of tosses: what is of no program. -/
import Derived.Test.YthmdkbeccohjkaaDoorNum
import Derived.Lib.SlTrimSet
import Derived.Lib.Bytealg
import Derived.Lib.Strings
namespace Go.Proofs.YthmdkbeccohjkaaDoor
set_option linter.unusedSimpArgs false
open Go.ChangeShapes Go.WideShapes Go.ChangeAt Go.RowKit
set_option linter.unusedVariables false

def tosB (c : UInt8) : Bool := c == 104 || c == 116
theorem cont_tos (b : UInt8) : ([104, 116] : List UInt8).contains b = tosB b := by
  simp [List.contains, List.elem, tosB]
  cases h : (b == 104) <;> cases h2 : (b == 116) <;> simp_all
theorem dw_all {p : UInt8 → Bool} : ∀ l : List UInt8, (∀ x ∈ l.dropWhile p, p x = true) → ∀ x ∈ l, p x = true
  | [], _ => by simp
  | a :: l, h => by
    by_cases ha : p a = true
    · have := dw_all l (by simpa [List.dropWhile, ha] using h)
      intro x hx
      rcases List.mem_cons.1 hx with rfl | hx
      · exact ha
      · exact this x hx
    · have : List.dropWhile p (a :: l) = a :: l := by simp [List.dropWhile, ha]
      rw [this] at h
      exact h
theorem dw_nil {p : UInt8 → Bool} : ∀ l : List UInt8, (∀ x ∈ l, p x = true) → l.dropWhile p = []
  | [], _ => rfl
  | a :: l, h => by
    have := dw_nil l (fun x hx => h x (List.mem_cons_of_mem _ hx))
    simp [List.dropWhile, h a (by simp), this]
theorem nil_dw {p : UInt8 → Bool} (l : List UInt8) (h : l.dropWhile p = []) : ∀ x ∈ l, p x = true :=
  dw_all l (by rw [h]; simp)
theorem trim_iff (l : List UInt8) : Lib.trimS l [104, 116] = [] ↔ l.all tosB = true := by
  have e : (fun b : UInt8 => ([104, 116] : List UInt8).contains b) = tosB := funext cont_tos
  unfold Lib.trimS Lib.trimLeftS Lib.trimRightS
  rw [e, List.all_eq_true]
  constructor
  · intro h
    have h1 := nil_dw _ h
    have h2 := dw_all l.reverse (fun x hx => h1 x (by simpa using hx))
    intro x hx
    exact h2 x (by simpa using hx)
  · intro h
    rw [dw_nil l.reverse (fun x hx => h x (by simpa using hx))]
    rfl
/-- How many heads the first k tosses have. -/
def hds (s : ByteArray) (k : Nat) : Nat := (s.data.toList.take k).count 104
theorem hds_le (s : ByteArray) (k : Nat) : hds s k ≤ k := by
  unfold hds
  exact Nat.le_trans List.count_le_length (by simp; omega)
theorem hds_succ (s : ByteArray) (k : Nat) (hk : k < s.size) : hds s (k + 1) = hds s k + (if s[k] = 104 then 1 else 0) := by
  unfold hds
  have e : s.data.toList[k]'(by simpa using hk) = s[k] := rfl
  rw [List.take_succ_eq_append_getElem (by simpa using hk), List.count_append, e]
  congr 1
  by_cases h : s[k] = 104
  · simp [h]
  · simp [h]
theorem hds_all (s : ByteArray) : hds s s.size = Lib.countByte s.data.toList 104 := by
  unfold hds Lib.countByte
  rw [List.take_of_length_le (by simp)]
/-- The chance of the first k tosses, in parts. -/
def prK (h o : Int) (s : ByteArray) (k : Nat) : Int := h ^ hds s k * (o - h) ^ (k - hds s k)
theorem prK_zero (h o : Int) (s : ByteArray) : prK h o s 0 = 1 := by simp [prK, hds]
theorem prK_h (h o : Int) (s : ByteArray) (k : Nat) (hk : k < s.size) (hs : s[k] = 104) : prK h o s (k + 1) = prK h o s k * h := by
  unfold prK
  rw [hds_succ s k hk, if_pos hs, Int.pow_succ, show k + 1 - (hds s k + 1) = k - hds s k from by omega, Int.mul_assoc, Int.mul_assoc, Int.mul_comm h]
theorem prK_t (h o : Int) (s : ByteArray) (k : Nat) (hk : k < s.size) (hs : s[k] ≠ 104) : prK h o s (k + 1) = prK h o s k * (o - h) := by
  unfold prK
  have := hds_le s k
  rw [hds_succ s k hk, if_neg hs, Nat.add_zero, show k + 1 - hds s k = (k - hds s k) + 1 from by omega, Int.pow_succ, Int.mul_assoc]
theorem pow_tn (p : Int) (h0 : 1 ≤ p) (h1 : p ≤ 10) : ∀ k : Nat, 1 ≤ p ^ k ∧ p ^ k ≤ 10 ^ k
  | 0 => by simp
  | k + 1 => by
    obtain ⟨a, b⟩ := pow_tn p h0 h1 k
    rw [Int.pow_succ, Int.pow_succ]
    refine ⟨?_, Int.mul_le_mul b h1 (by omega) (by omega)⟩
    have := Int.mul_le_mul a h0 (by omega) (by omega)
    omega
theorem prK_in (h o : Int) (s : ByteArray) (k : Nat) (h1 : 1 ≤ h) (h2 : h < o) (h3 : o ≤ 10) : 1 ≤ prK h o s k ∧ prK h o s k ≤ 10 ^ k := by
  unfold prK
  have := hds_le s k
  obtain ⟨a, b⟩ := pow_tn h h1 (by omega) (hds s k)
  obtain ⟨c, d⟩ := pow_tn (o - h) (by omega) (by omega) (k - hds s k)
  constructor
  · have := Int.mul_le_mul a c (by omega) (by omega)
    omega
  · have := Int.mul_le_mul b d (by omega) (by omega)
    rw [← Int.pow_add, show hds s k + (k - hds s k) = k from by omega] at this
    exact this
/-- The last ones of the first e signs are p. -/
theorem ext_size (s : ByteArray) (i j : Nat) (hj : j ≤ s.size) : (s.extract i j).size = j - i := by
  rw [ByteArray.size_extract]; omega
theorem suf_iff (l p : List UInt8) : Lib.hasSuffix l p = true ↔ p.length ≤ l.length ∧ l.drop (l.length - p.length) = p := by
  unfold Lib.hasSuffix
  rw [List.isSuffixOf_iff_suffix]
  constructor
  · intro h
    exact ⟨h.length_le, (List.suffix_iff_eq_drop.1 h).symm⟩
  · rintro ⟨h1, h2⟩
    rw [← h2]
    exact List.drop_suffix _ _
theorem ext_list (s : ByteArray) (i j : Nat) : (s.extract i j).data.toList = (s.data.toList.take j).drop i := by
  rw [ByteArray.data_extract, Array.toList_extract, List.extract_eq_take_drop, List.drop_take]
theorem ba_eq {a b : ByteArray} : a = b ↔ a.data.toList = b.data.toList := by
  constructor
  · rintro rfl; rfl
  · intro h
    apply ByteArray.ext
    exact Array.toList_inj.1 h
theorem len_list (s : ByteArray) : s.data.toList.length = s.size := by simp
/-- The text overlaps itself by k signs. -/
def ovlB (s : ByteArray) (k : Nat) : Bool := decide (s.extract 0 k = s.extract (s.size - k) s.size)
theorem suf_ovl (s : ByteArray) (k : Nat) (hk : k ≤ s.size) : Lib.hasSuffix s.data.toList (s.extract 0 k).data.toList = ovlB s k := by
  rw [Bool.eq_iff_iff, suf_iff]
  unfold ovlB
  rw [decide_eq_true_iff, ba_eq, ext_list, ext_list, List.drop_zero, List.length_take, len_list, Nat.min_eq_left hk, List.take_of_length_le (by simp : s.data.toList.length ≤ s.size)]
  constructor
  · rintro ⟨_, h⟩; exact h.symm
  · intro h; exact ⟨hk, h.symm⟩
/-- The text p comes in t with the sign e. -/
def plcB (p t : ByteArray) (e : Nat) : Bool := decide (t.extract (e - p.size) e = p)
theorem suf_plc (p t : ByteArray) (e : Nat) (h1 : p.size ≤ e) (h2 : e ≤ t.size) : Lib.hasSuffix (t.extract 0 e).data.toList p.data.toList = plcB p t e := by
  rw [Bool.eq_iff_iff, suf_iff]
  unfold plcB
  rw [decide_eq_true_iff, ba_eq, ext_list, ext_list, List.drop_zero, List.length_take, len_list, len_list, Nat.min_eq_left h2]
  constructor
  · rintro ⟨_, h⟩; exact h
  · intro h; exact ⟨h1, h⟩
theorem low_eq (x d y e : Int) (hx : 0 ≤ x) (hd : 1 ≤ d) (hy : 0 ≤ y) (he : 1 ≤ e) (h : x * e = y * d) : x / (Int.gcd x d : Int) = y / (Int.gcd y e : Int) ∧ d / (Int.gcd x d : Int) = e / (Int.gcd y e : Int) := by
  obtain ⟨x, rfl⟩ := Int.eq_ofNat_of_zero_le hx
  obtain ⟨y, rfl⟩ := Int.eq_ofNat_of_zero_le hy
  obtain ⟨d, rfl⟩ := Int.eq_ofNat_of_zero_le (show 0 ≤ d by omega)
  obtain ⟨e, rfl⟩ := Int.eq_ofNat_of_zero_le (show 0 ≤ e by omega)
  have hd' : 0 < d := by omega
  have he' : 0 < e := by omega
  have h' : x * e = y * d := by exact_mod_cast h
  show ((x : Int) / ((Nat.gcd x d : Nat) : Int) = (y : Int) / ((Nat.gcd y e : Nat) : Int)) ∧ ((d : Int) / ((Nat.gcd x d : Nat) : Int) = (e : Int) / ((Nat.gcd y e : Nat) : Int))
  have g1 : 0 < Nat.gcd x d := Nat.gcd_pos_of_pos_right _ hd'
  have g2 : 0 < Nat.gcd y e := Nat.gcd_pos_of_pos_right _ he'
  have c1 : Nat.Coprime (x / Nat.gcd x d) (d / Nat.gcd x d) := Nat.coprime_div_gcd_div_gcd g1
  have c2 : Nat.Coprime (y / Nat.gcd y e) (e / Nat.gcd y e) := Nat.coprime_div_gcd_div_gcd g2
  obtain ⟨a, ha⟩ := Nat.gcd_dvd_left x d
  obtain ⟨b, hb⟩ := Nat.gcd_dvd_right x d
  obtain ⟨a', ha'⟩ := Nat.gcd_dvd_left y e
  obtain ⟨b', hb'⟩ := Nat.gcd_dvd_right y e
  generalize Nat.gcd x d = g at *
  generalize Nat.gcd y e = k at *
  subst ha hb ha' hb'
  rw [Nat.mul_div_cancel_left _ g1, Nat.mul_div_cancel_left _ g1] at c1
  rw [Nat.mul_div_cancel_left _ g2, Nat.mul_div_cancel_left _ g2] at c2
  have hab : a * b' = a' * b := by
    have : (g * k) * (a * b') = (g * k) * (a' * b) := by
      calc (g * k) * (a * b') = g * a * (k * b') := by simp only [Nat.mul_comm, Nat.mul_left_comm]
        _ = k * a' * (g * b) := h'
        _ = (g * k) * (a' * b) := by simp only [Nat.mul_comm, Nat.mul_left_comm]
    exact Nat.eq_of_mul_eq_mul_left (Nat.mul_pos g1 g2) this
  have e1 : a = a' := by
    apply Nat.dvd_antisymm
    · exact c1.dvd_of_dvd_mul_right ⟨b', hab.symm⟩
    · exact c2.dvd_of_dvd_mul_right ⟨b, hab⟩
  have e2 : b = b' := by
    apply Nat.dvd_antisymm
    · exact c1.symm.dvd_of_dvd_mul_left ⟨a', by rw [hab, Nat.mul_comm]⟩
    · exact c2.symm.dvd_of_dvd_mul_left ⟨a, by rw [← hab, Nat.mul_comm]⟩
  subst e1 e2
  constructor
  · rw [← Int.natCast_ediv, ← Int.natCast_ediv, Nat.mul_div_cancel_left _ g1, Nat.mul_div_cancel_left _ g2]
  · rw [← Int.natCast_ediv, ← Int.natCast_ediv, Nat.mul_div_cancel_left _ g1, Nat.mul_div_cancel_left _ g2]

def prA (h o : Int) (s : ByteArray) : Int := prK h o s s.size
theorem hds_take (s : ByteArray) (k : Nat) : hds (s.extract 0 k) (s.extract 0 k).size = hds s k := by
  unfold hds
  rw [List.take_of_length_le (by rw [len_list]; exact Nat.le_refl _), ext_list, List.drop_zero]
theorem hds_self (s : ByteArray) : hds s s.size = s.data.toList.count 104 := by
  unfold hds
  rw [List.take_of_length_le (by rw [len_list]; exact Nat.le_refl _)]
theorem hds_drop (s : ByteArray) (k : Nat) : hds s k + hds (s.extract k s.size) (s.extract k s.size).size = hds s s.size := by
  rw [hds_self, hds_self, ext_list]
  rw [show s.data.toList.take s.size = s.data.toList from List.take_of_length_le (by rw [len_list]; exact Nat.le_refl _)]
  unfold hds
  rw [← List.count_append, List.take_append_drop]
theorem prA_split (h o : Int) (s : ByteArray) (k : Nat) (hk : k ≤ s.size) : prA h o (s.extract 0 k) * prA h o (s.extract k s.size) = prA h o s := by
  have a := hds_take s k
  have b := hds_drop s k
  have c := ext_size s 0 k hk
  have d := ext_size s k s.size (Nat.le_refl _)
  have e := hds_le s k
  have f := hds_le (s.extract k s.size) (s.extract k s.size).size
  unfold prA prK
  rw [a, ← b]
  generalize hds (s.extract k s.size) (s.extract k s.size).size = y at *
  rw [c, d] at *
  generalize hds s k = x at *
  rw [show s.size - (x + y) = (k - 0 - x) + (s.size - k - y) from by omega, Int.pow_add, Int.pow_add]
  simp only [Int.mul_assoc, Int.mul_left_comm]
theorem low_cross (x d : Int) : (x / (Int.gcd x d : Int)) * d = x * (d / (Int.gcd x d : Int)) := by
  have h1 : (Int.gcd x d : Int) ∣ x := Int.gcd_dvd_left ..
  have h2 : (Int.gcd x d : Int) ∣ d := Int.gcd_dvd_right ..
  rw [← Int.mul_ediv_assoc x h2, Int.mul_comm _ d, ← Int.mul_ediv_assoc d h1, Int.mul_comm]
theorem low_pos (x d : Int) (hx : 1 ≤ x) (hd : 1 ≤ d) : 1 ≤ x / (Int.gcd x d : Int) ∧ x / (Int.gcd x d : Int) ≤ x := by
  have hg : (0 : Int) < (Int.gcd x d : Int) := by
    have : 0 < Int.gcd x d := Int.gcd_pos_of_ne_zero_right _ (by omega)
    omega
  have h1 : (Int.gcd x d : Int) ∣ x := Int.gcd_dvd_left ..
  refine ⟨?_, Int.ediv_le_self _ (by omega)⟩
  have := Int.le_of_dvd (by omega) h1
  exact (Int.le_ediv_iff_mul_le hg).2 (by omega)
theorem low_pos2 (x d : Int) (hx : 0 ≤ x) (hd : 1 ≤ d) : 1 ≤ d / (Int.gcd x d : Int) ∧ d / (Int.gcd x d : Int) ≤ d := by
  have hg : (0 : Int) < (Int.gcd x d : Int) := by
    have : 0 < Int.gcd x d := Int.gcd_pos_of_ne_zero_right _ (by omega)
    omega
  have h1 : (Int.gcd x d : Int) ∣ d := Int.gcd_dvd_right ..
  refine ⟨?_, Int.ediv_le_self _ (by omega)⟩
  have := Int.le_of_dvd (by omega) h1
  exact (Int.le_ediv_iff_mul_le hg).2 (by omega)
/-- One more fraction is added: the sum S / P, in lowest terms, and q / n, P being n times r. -/
theorem wait_step (S P n r q : Int) (hS : 0 ≤ S) (hn : 1 ≤ n) (hr : 1 ≤ r) (hq : 1 ≤ q) (hP : P = n * r) :
    let a := n / (Int.gcd n q : Int); let b := q / (Int.gcd n q : Int); let u := S / (Int.gcd S P : Int); let v := P / (Int.gcd S P : Int)
    (u * a + b * v) / (Int.gcd (u * a + b * v) (v * a) : Int) = (S + q * r) / (Int.gcd (S + q * r) P : Int) ∧ (v * a) / (Int.gcd (u * a + b * v) (v * a) : Int) = P / (Int.gcd (S + q * r) P : Int) := by
  intro a b u v
  have hP1 : 1 ≤ P := by rw [hP]; have := Int.mul_le_mul hn hr (by omega) (by omega); omega
  have ha := (low_pos n q hn hq).1
  have hb := (low_pos2 n q (by omega) hq).1
  have hv := (low_pos2 S P hS hP1).1
  have hu : 0 ≤ u := Int.ediv_nonneg hS (by omega)
  have c1 : u * P = S * v := low_cross S P
  have c2 : a * q = n * b := low_cross n q
  refine low_eq _ _ _ _ ?_ ?_ ?_ hP1 ?_
  · have := Int.mul_nonneg hu (show 0 ≤ a by omega)
    have := Int.mul_nonneg (show 0 ≤ b by omega) (show 0 ≤ v by omega)
    omega
  · exact Int.mul_pos (show 0 < v from hv) (show 0 < a from ha)
  · have := Int.mul_nonneg (show 0 ≤ q by omega) (show 0 ≤ r by omega)
    omega
  · have e1 : (u * a + b * v) * P = (u * P) * a + (n * b) * (r * v) := by
      rw [Int.add_mul]
      congr 1
      · simp only [Int.mul_assoc, Int.mul_comm]
      · rw [hP]; simp only [Int.mul_assoc, Int.mul_comm, Int.mul_left_comm]
    have e2 : (S + q * r) * (v * a) = (S * v) * a + (a * q) * (r * v) := by
      rw [Int.add_mul]
      congr 1
      · simp only [Int.mul_assoc]
      · simp only [Int.mul_assoc, Int.mul_comm, Int.mul_left_comm]
    rw [e1, e2, c1, c2]
/-- The sum of the parts over the numbers of signs below k by which s overlaps itself, and over some more. -/
def waitS (h o : Int) (s : ByteArray) : List Int → Int
  | [] => 0
  | k :: l => waitS h o s l + o ^ k.toNat * prA h o (s.extract k.toNat s.size)
end Go.Proofs.YthmdkbeccohjkaaDoor
