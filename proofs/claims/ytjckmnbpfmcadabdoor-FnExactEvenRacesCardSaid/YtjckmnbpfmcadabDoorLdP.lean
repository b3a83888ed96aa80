/- Leading numbers: what is of no program. -/
import Derived.Test.YtjckmnbpfmcadabDoorPt
namespace Go.Proofs.YtjckmnbpfmcadabDoor
set_option linter.unusedSimpArgs false
open Go.ChangeShapes Go.WideShapes Go.ChangeAt Go.RowKit
set_option linter.unusedVariables false

/-- The last k signs of a are the first k ones of b. -/
def meetB (a b : ByteArray) (k : Nat) : Bool := decide (a.extract (a.size - k) a.size = b.extract 0 k)
/-- One divided by the chance of the first k signs of b, times the chances of heads and of tails, n times each. -/
def ldT (h o : Int) (b : ByteArray) (n k : Nat) : Int := o ^ k * prK (o - h) o b k * (h * (o - h)) ^ (n - k)
def ldS (h o : Int) (a b : ByteArray) (n : Nat) : Nat → Int
  | 0 => 0
  | k + 1 => ldS h o a b n k + if meetB a b (k + 1) then ldT h o b n (k + 1) else 0
def ldN (h o : Int) (a b : ByteArray) : Int := ldS h o a b a.size a.size
theorem ldS_succ (h o : Int) (a b : ByteArray) (n k : Nat) : ldS h o a b n (k + 1) = ldS h o a b n k + if meetB a b (k + 1) then ldT h o b n (k + 1) else 0 := rfl
theorem ldS_yes {h o : Int} {a b : ByteArray} {n k : Nat} (q : meetB a b (k + 1) = true) : ldS h o a b n (k + 1) = ldS h o a b n k + ldT h o b n (k + 1) := by
  rw [ldS_succ, q]; rfl
theorem ldS_no {h o : Int} {a b : ByteArray} {n k : Nat} (q : meetB a b (k + 1) = false) : ldS h o a b n (k + 1) = ldS h o a b n k := by
  rw [ldS_succ, q]; simp

/-- What the model multiplies while it looks at the i-th sign, for the first k signs. -/
def ldI (h o : Int) (b : ByteArray) (k i : Nat) : Int := o ^ (min i k) * prK (o - h) o b (min i k) * (h * (o - h)) ^ (i - k)
theorem ldI_zero (h o : Int) (b : ByteArray) (k : Nat) : ldI h o b k 0 = 1 := by simp [ldI, prK_zero]
theorem ldI_h (h o : Int) (b : ByteArray) (k i : Nat) (hk : i < k) (hi : i < b.size) (hs : b[i] = 104) : ldI h o b k (i + 1) = ldI h o b k i * o * (o - h) := by
  unfold ldI
  rw [Nat.min_eq_left (by omega : i + 1 ≤ k), Nat.min_eq_left (by omega : i ≤ k), show i + 1 - k = 0 from by omega, show i - k = 0 from by omega, prK_h _ _ _ _ hi hs, Int.pow_succ]
  simp only [Int.pow_zero, Int.mul_one]
  simp only [Int.mul_assoc, Int.mul_comm, Int.mul_left_comm]
theorem ldI_t (h o : Int) (b : ByteArray) (k i : Nat) (hk : i < k) (hi : i < b.size) (hs : b[i] ≠ 104) : ldI h o b k (i + 1) = ldI h o b k i * o * h := by
  unfold ldI
  rw [Nat.min_eq_left (by omega : i + 1 ≤ k), Nat.min_eq_left (by omega : i ≤ k), show i + 1 - k = 0 from by omega, show i - k = 0 from by omega, prK_t _ _ _ _ hi hs, Int.pow_succ, show o - (o - h) = h from by omega]
  simp only [Int.pow_zero, Int.mul_one]
  simp only [Int.mul_assoc, Int.mul_comm, Int.mul_left_comm]
theorem ldI_more (h o : Int) (b : ByteArray) (k i : Nat) (hk : k ≤ i) : ldI h o b k (i + 1) = ldI h o b k i * (h * (o - h)) := by
  unfold ldI
  rw [Nat.min_eq_right (by omega : k ≤ i + 1), Nat.min_eq_right (by omega : k ≤ i), show i + 1 - k = (i - k) + 1 from by omega, Int.pow_succ]
  simp only [Int.mul_assoc]
theorem ldI_all (h o : Int) (b : ByteArray) (k n : Nat) (hk : k ≤ n) : ldI h o b k n = ldT h o b n k := by
  unfold ldI ldT
  rw [Nat.min_eq_right hk]

theorem four_le (k : Nat) (h : k ≤ 5) : (4 : Int) ^ k ≤ 1024 := by
  match k, h with
  | 0, _ | 1, _ | 2, _ | 3, _ | 4, _ | 5, _ => decide
theorem pow_fr (p : Int) (h0 : 1 ≤ p) (h1 : p ≤ 4) : ∀ k : Nat, 1 ≤ p ^ k ∧ p ^ k ≤ 4 ^ k
  | 0 => by simp
  | k + 1 => by
    obtain ⟨a, b⟩ := pow_fr p h0 h1 k
    rw [Int.pow_succ, Int.pow_succ]
    refine ⟨?_, Int.mul_le_mul b h1 (by omega) (by omega)⟩
    have := Int.mul_le_mul a h0 (by omega) (by omega)
    omega
theorem pow_f5 (p : Int) (h0 : 1 ≤ p) (h1 : p ≤ 4) (k : Nat) (hk : k ≤ 5) : 1 ≤ p ^ k ∧ p ^ k ≤ 1024 :=
  ⟨(pow_fr p h0 h1 k).1, Int.le_trans (pow_fr p h0 h1 k).2 (four_le k hk)⟩
theorem prK_fr (h o : Int) (s : ByteArray) (k : Nat) (h1 : 1 ≤ h) (h2 : h < o) (h3 : o ≤ 4) (hk : k ≤ 5) : 1 ≤ prK h o s k ∧ prK h o s k ≤ 1024 := by
  unfold prK
  have := hds_le s k
  obtain ⟨a, b⟩ := pow_fr h h1 (by omega) (hds s k)
  obtain ⟨c, d⟩ := pow_fr (o - h) (by omega) (by omega) (k - hds s k)
  constructor
  · have := Int.mul_le_mul a c (by omega) (by omega)
    omega
  · have := Int.mul_le_mul b d (by omega) (by omega)
    rw [← Int.pow_add, show hds s k + (k - hds s k) = k from by omega] at this
    exact Int.le_trans this (four_le k hk)
theorem ht_in (h o : Int) (h1 : 1 ≤ h) (h2 : h < o) (h3 : o ≤ 4) : 1 ≤ h * (o - h) ∧ h * (o - h) ≤ 4 := by
  have a : h = 1 ∨ h = 2 ∨ h = 3 := by omega
  have b : o - h = 1 ∨ o - h = 2 ∨ o - h = 3 := by omega
  have hs : h + (o - h) ≤ 4 := by omega
  clear h2
  generalize o - h = t at *
  rcases a with rfl | rfl | rfl <;> rcases b with rfl | rfl | rfl <;> omega
theorem three_in {x y z : Int} (a : 1 ≤ x ∧ x ≤ 1024) (b : 1 ≤ y ∧ y ≤ 1024) (c : 1 ≤ z ∧ z ≤ 1024) : 1 ≤ x * y * z ∧ x * y * z ≤ 1073741824 := by
  have p1 := Int.mul_le_mul a.1 b.1 (by omega) (by omega)
  have p2 := Int.mul_le_mul a.2 b.2 (by omega) (by omega)
  have q1 := Int.mul_le_mul (a := 1) (by omega : (1 : Int) ≤ x * y) c.1 (by omega) (by omega)
  have q2 := Int.mul_le_mul (by omega : x * y ≤ 1048576) c.2 (by omega) (by omega)
  omega
theorem ldI_in (h o : Int) (b : ByteArray) (k i : Nat) (h1 : 1 ≤ h) (h2 : h < o) (h3 : o ≤ 4) (hi : i ≤ 5) : 1 ≤ ldI h o b k i ∧ ldI h o b k i ≤ 1073741824 := by
  unfold ldI
  obtain ⟨t1, t2⟩ := ht_in h o h1 h2 h3
  exact three_in (pow_f5 o (by omega) h3 _ (by omega)) (prK_fr (o - h) o b _ (by omega) (by omega) h3 (by omega)) (pow_f5 _ t1 t2 _ (by omega))
theorem ldT_in (h o : Int) (b : ByteArray) (n k : Nat) (h1 : 1 ≤ h) (h2 : h < o) (h3 : o ≤ 4) (hn : n ≤ 5) (hk : k ≤ n) : 1 ≤ ldT h o b n k ∧ ldT h o b n k ≤ 1073741824 := by
  rw [← ldI_all h o b k n hk]
  exact ldI_in h o b k n h1 h2 h3 hn
theorem ldS_in (h o : Int) (a b : ByteArray) (n : Nat) (h1 : 1 ≤ h) (h2 : h < o) (h3 : o ≤ 4) (hn : n ≤ 5) : ∀ k, k ≤ n → 0 ≤ ldS h o a b n k ∧ ldS h o a b n k ≤ 1073741824 * k
  | 0, _ => by simp [ldS]
  | k + 1, hk => by
    obtain ⟨p, q⟩ := ldS_in h o a b n h1 h2 h3 hn k (by omega)
    obtain ⟨r, s⟩ := ldT_in h o b n (k + 1) h1 h2 h3 hn hk
    rw [ldS_succ]
    cases meetB a b (k + 1) <;> simp <;> omega

/-- What the program divides. -/
theorem prK_both (h o : Int) (s : ByteArray) (k : Nat) : prK h o s k * prK (o - h) o s k = (h * (o - h)) ^ k := by
  unfold prK
  have := hds_le s k
  rw [show o - (o - h) = h from by omega, Int.mul_pow]
  obtain ⟨d, hd⟩ : ∃ d, k = hds s k + d := ⟨k - hds s k, by omega⟩
  generalize hds s k = c at *
  subst hd
  rw [show c + d - c = d from by omega, Int.pow_add, Int.pow_add]
  simp only [Int.mul_assoc, Int.mul_comm, Int.mul_left_comm]
theorem ld_div (h o : Int) (b : ByteArray) (n k : Nat) (h1 : 1 ≤ h) (h2 : h < o) (h3 : o ≤ 4) (hk : k ≤ n) (hn : n ≤ 5) :
    (h * (o - h)) ^ n / prK h o b k = prK (o - h) o b k * (h * (o - h)) ^ (n - k) := by
  have e : (h * (o - h)) ^ n = prK h o b k * (prK (o - h) o b k * (h * (o - h)) ^ (n - k)) := by
    rw [← Int.mul_assoc, prK_both, ← Int.pow_add]
    congr 1
    omega
  rw [e, Int.mul_ediv_cancel_left _ (by have := (prK_fr h o b k h1 h2 h3 (by omega)).1; omega)]
theorem prA_take (h o : Int) (b : ByteArray) (k : Nat) (hk : k ≤ b.size) : prA h o (b.extract 0 k) = prK h o b k := by
  unfold prA prK
  rw [hds_take, ext_size b 0 k hk, Nat.sub_zero]
theorem pre_meet (a b : ByteArray) (k : Nat) (ha : k ≤ a.size) (hb : k ≤ b.size) : Lib.hasPrefix b.data.toList (a.extract (a.size - k) a.size).data.toList = meetB a b k := by
  unfold Lib.hasPrefix meetB
  rw [Bool.eq_iff_iff, List.isPrefixOf_iff_prefix, decide_eq_true_iff, List.prefix_iff_eq_take, ba_eq]
  have hl : (a.extract (a.size - k) a.size).data.toList.length = k := by rw [len_list, ext_size _ _ _ (Nat.le_refl _)]; omega
  rw [hl]
  rw [ext_list b 0 k, List.drop_zero]

/- All pairs of patterns, by their signs. -/
def bitS (s : ByteArray) : List Bool := s.data.toList.map (· == 104)
def allB : Nat → List (List Bool)
  | 0 => [[]]
  | n + 1 => (allB n).flatMap fun l => [true :: l, false :: l]
theorem mem_allB : ∀ (n : Nat) (l : List Bool), l.length = n → l ∈ allB n
  | 0, l, h => by rw [List.length_eq_zero_iff.1 h]; simp [allB]
  | n + 1, [], h => by simp at h
  | n + 1, c :: l, h => by
    rw [allB, List.mem_flatMap]
    refine ⟨l, mem_allB n l (by simpa using h), ?_⟩
    cases c <;> simp
theorem bit_len (s : ByteArray) : (bitS s).length = s.size := by simp [bitS]
theorem tos_bit {x y : UInt8} (hx : tosB x = true) (hy : tosB y = true) (h : (x == 104) = (y == 104)) : x = y := by
  unfold tosB at hx hy
  cases hx1 : (x == 104) <;> cases hy1 : (y == 104) <;> simp_all
theorem bit_list : ∀ (l m : List UInt8), l.all tosB = true → m.all tosB = true → l.map (· == 104) = m.map (· == 104) → l = m
  | [], [], _, _, _ => rfl
  | [], _ :: _, _, _, h => by simp at h
  | _ :: _, [], _, _, h => by simp at h
  | x :: l, y :: m, hl, hm, h => by
    simp only [List.all_cons, Bool.and_eq_true] at hl hm
    simp only [List.map_cons, List.cons.injEq] at h
    rw [tos_bit hl.1 hm.1 h.1, bit_list l m hl.2 hm.2 h.2]
theorem bit_inj {a b : ByteArray} (ha : allT a = true) (hb : allT b = true) (h : bitS a = bitS b) : a = b := ba_eq.2 (bit_list _ _ ha hb h)
theorem all_sub {p : UInt8 → Bool} {l m : List UInt8} (h : l.all p = true) (hm : ∀ x ∈ m, x ∈ l) : m.all p = true := by
  rw [List.all_eq_true] at *
  exact fun x hx => h x (hm x hx)
theorem meet_bit (a b : ByteArray) (k : Nat) (ha : allT a = true) (hb : allT b = true) : meetB a b k = ((bitS a).drop (a.size - k) == (bitS b).take k) := by
  unfold meetB bitS
  rw [Bool.eq_iff_iff, decide_eq_true_iff, beq_iff_eq, ba_eq, ext_list, ext_list, List.drop_zero, List.take_of_length_le (by simp : a.data.toList.length ≤ a.size), ← List.map_drop, ← List.map_take]
  constructor
  · intro h; rw [h]
  · intro h
    exact bit_list _ _ (all_sub ha fun x hx => List.mem_of_mem_drop hx) (all_sub hb fun x hx => List.mem_of_mem_take hx) h
def qL (H T : Nat) : List Bool → Nat
  | [] => 1
  | true :: l => T * qL H T l
  | false :: l => H * qL H T l
def ldL (H T n : Nat) (a b : List Bool) : Nat → Nat
  | 0 => 0
  | k + 1 => ldL H T n a b k + if a.drop (n - (k + 1)) == b.take (k + 1) then (H + T) ^ (k + 1) * qL H T (b.take (k + 1)) * (H * T) ^ (n - (k + 1)) else 0
theorem qL_pow (H T : Nat) : ∀ l : List UInt8, ((qL H T (l.map (· == 104)) : Nat) : Int) = (T : Int) ^ (l.count 104) * (H : Int) ^ (l.length - l.count 104)
  | [] => by simp [qL]
  | x :: l => by
    have ih := qL_pow H T l
    have hc : l.count 104 ≤ l.length := List.count_le_length
    by_cases hx : x = 104
    · subst hx
      simp only [List.map_cons, beq_self_eq_true, qL, List.count_cons_self, List.length_cons]
      rw [Int.natCast_mul, ih, Int.pow_succ, show l.length + 1 - (l.count 104 + 1) = l.length - l.count 104 from by omega]
      simp only [Int.mul_assoc, Int.mul_comm, Int.mul_left_comm]
    · have hx2 : (x == 104) = false := by simpa using hx
      simp only [List.map_cons, hx2, qL, List.length_cons]
      rw [Int.natCast_mul, ih, List.count_cons_of_ne (by simpa using hx), show l.length + 1 - l.count 104 = (l.length - l.count 104) + 1 from by omega, Int.pow_succ]
      simp only [Int.mul_assoc, Int.mul_comm, Int.mul_left_comm]
theorem qL_prK (H T : Nat) (b : ByteArray) (k : Nat) (hk : k ≤ b.size) : ((qL H T ((bitS b).take k) : Nat) : Int) = prK (((H + T : Nat) : Int) - (H : Int)) ((H + T : Nat) : Int) b k := by
  unfold bitS prK hds
  rw [← List.map_take, qL_pow, List.length_take, len_list, Nat.min_eq_left hk]
  rw [show ((H + T : Nat) : Int) - (H : Int) = (T : Int) from by omega, show ((H + T : Nat) : Int) - (T : Int) = (H : Int) from by omega]
theorem ldS_L (H T : Nat) (a b : ByteArray) (ha : allT a = true) (hb : allT b = true) (hab : a.size = b.size) : ∀ k, k ≤ a.size → ldS (H : Int) ((H + T : Nat) : Int) a b a.size k = ((ldL H T a.size (bitS a) (bitS b) k : Nat) : Int)
  | 0, _ => rfl
  | k + 1, hk => by
    have e := meet_bit a b (k + 1) ha hb
    rw [ldS_succ, ldL, ldS_L H T a b ha hb hab k (by omega)]
    cases hq : meetB a b (k + 1)
    · rw [hq] at e
      rw [← e]
      simp
    · rw [hq] at e
      rw [← e, if_pos rfl, if_pos rfl, Int.natCast_add (ldL H T a.size (bitS a) (bitS b) k), Int.natCast_mul, Int.natCast_mul, qL_prK H T b (k + 1) (by omega), Int.natCast_pow, Int.natCast_pow, Int.natCast_mul]
      unfold ldT
      rw [show ((H + T : Nat) : Int) - (H : Int) = (T : Int) from by omega]
def chkP (H T n : Nat) (a b : List Bool) : Bool := Nat.ble (ldL H T n a b n) 400000 && ((a == b) || Nat.blt (ldL H T n b a n) (ldL H T n b b n))
theorem chk_all : ([(1, 1), (1, 2), (2, 1), (1, 3), (2, 2), (3, 1)].all fun c => [1, 2, 3, 4, 5].all fun n => (allB n).all fun a => (allB n).all fun b => chkP c.1 c.2 n a b) = true := by
  kernel_rfl
theorem ld_chk (h o : Int) (a b : ByteArray) (h1 : 1 ≤ h) (h2 : h < o) (h3 : o ≤ 4) (ha : allT a = true) (hb : allT b = true) (hab : a.size = b.size) (hn1 : 1 ≤ a.size) (hn : a.size ≤ 5) :
    ldN h o a b ≤ 400000 ∧ (a ≠ b → ldN h o b a < ldN h o b b) := by
  obtain ⟨H, rfl⟩ := Int.eq_ofNat_of_zero_le (show 0 ≤ h by omega)
  obtain ⟨T, hT⟩ := Int.eq_ofNat_of_zero_le (show 0 ≤ o - (H : Int) by omega)
  obtain rfl : o = ((H + T : Nat) : Int) := by omega
  have hc : (H, T) ∈ [(1, 1), (1, 2), (2, 1), (1, 3), (2, 2), (3, 1)] := by
    have q1 : H = 1 ∨ H = 2 ∨ H = 3 := by omega
    have q2 : T = 1 ∨ T = 2 ∨ T = 3 := by omega
    rcases q1 with rfl | rfl | rfl <;> rcases q2 with rfl | rfl | rfl <;> first | (simp; done) | (exfalso; omega)
  have hm : a.size ∈ [1, 2, 3, 4, 5] := by
    have q : a.size = 1 ∨ a.size = 2 ∨ a.size = 3 ∨ a.size = 4 ∨ a.size = 5 := by omega
    rcases q with q | q | q | q | q <;> rw [q] <;> simp
  have c := List.all_eq_true.1 (List.all_eq_true.1 (List.all_eq_true.1 (List.all_eq_true.1 chk_all _ hc) _ hm) _ (mem_allB _ _ (bit_len a))) _ (mem_allB _ _ ((bit_len b).trans hab.symm))
  unfold chkP at c
  simp only [Bool.and_eq_true, Bool.or_eq_true, beq_iff_eq] at c
  obtain ⟨c1, c2⟩ := c
  have e1 := ldS_L H T a b ha hb hab a.size (Nat.le_refl _)
  have e2 := ldS_L H T b a hb ha hab.symm b.size (Nat.le_refl _)
  have e3 := ldS_L H T b b hb hb rfl b.size (Nat.le_refl _)
  unfold ldN
  rw [e1, e2, e3]
  refine ⟨by have := Nat.le_of_ble_eq_true c1; omega, fun hne => ?_⟩
  rcases c2 with c2 | c2
  · exact absurd (bit_inj ha hb c2) hne
  · have := Nat.le_of_ble_eq_true c2
    rw [← hab]
    omega
theorem ldN_in (h o : Int) (a b : ByteArray) (h1 : 1 ≤ h) (h2 : h < o) (h3 : o ≤ 4) (ha : allT a = true) (hb : allT b = true) (hab : a.size = b.size) (hn1 : 1 ≤ a.size) (hn : a.size ≤ 5) :
    0 ≤ ldN h o a b ∧ ldN h o a b ≤ 400000 :=
  ⟨(ldS_in h o a b a.size h1 h2 h3 hn a.size (Nat.le_refl _)).1, (ld_chk h o a b h1 h2 h3 ha hb hab hn1 hn).1⟩

/- How the chances of two are to each other. -/
def odX (h o : Int) (a b : ByteArray) : Int := ldN h o b b - ldN h o b a
def odF (h o : Int) (a b : ByteArray) : Int := low (odX h o a b) (odX h o a b) (odX h o b a)
def odO (h o : Int) (a b : ByteArray) : Int := low (odX h o b a) (odX h o a b) (odX h o b a)
theorem odX_in (h o : Int) (a b : ByteArray) (h1 : 1 ≤ h) (h2 : h < o) (h3 : o ≤ 4) (ha : allT a = true) (hb : allT b = true) (hab : a.size = b.size) (hn1 : 1 ≤ a.size) (hn : a.size ≤ 5) (hne : a ≠ b) :
    1 ≤ odX h o a b ∧ odX h o a b ≤ 400000 := by
  unfold odX
  have p1 := (ld_chk h o a b h1 h2 h3 ha hb hab hn1 hn).2 hne
  have p2 := ldN_in h o b b h1 h2 h3 hb hb rfl (by omega) (by omega)
  have p3 := ldN_in h o b a h1 h2 h3 hb ha hab.symm (by omega) (by omega)
  omega
theorem low_cop (x y : Int) (hx : 1 ≤ x) (hy : 1 ≤ y) : 1 ≤ low x x y ∧ low x x y ≤ x ∧ 1 ≤ low y x y ∧ low y x y ≤ y ∧ Int.gcd (low x x y) (low y x y) = 1 := by
  obtain ⟨a1, a2⟩ := low_pos x y hx hy
  obtain ⟨b1, b2⟩ := low_pos2 x y (by omega) hy
  refine ⟨a1, a2, b1, b2, ?_⟩
  unfold low
  have hg : 0 < Int.gcd x y := Int.gcd_pos_of_ne_zero_right _ (by omega)
  exact Int.gcd_ediv_gcd_ediv_gcd hg
theorem low_cop2 (f s : Int) (hf : 1 ≤ f) (hs : 1 ≤ s) (h : Int.gcd f s = 1) : low f f (f + s) = f ∧ low (f + s) f (f + s) = f + s := by
  have e : Int.gcd f (f + s) = 1 := by rw [Int.add_comm, Int.gcd_add_self_right]; exact h
  unfold low
  rw [e]
  simp
theorem od_in (h o : Int) (a b : ByteArray) (h1 : 1 ≤ h) (h2 : h < o) (h3 : o ≤ 4) (ha : allT a = true) (hb : allT b = true) (hab : a.size = b.size) (hn1 : 1 ≤ a.size) (hn : a.size ≤ 5) (hne : a ≠ b) :
    1 ≤ odF h o a b ∧ odF h o a b ≤ 400000 ∧ 1 ≤ odO h o a b ∧ odO h o a b ≤ 400000 ∧ Int.gcd (odF h o a b) (odO h o a b) = 1 := by
  have p := odX_in h o a b h1 h2 h3 ha hb hab hn1 hn hne
  have q := odX_in h o b a h1 h2 h3 hb ha hab.symm (by omega) (by omega) hne.symm
  have c := low_cop _ _ p.1 q.1
  unfold odF odO
  exact ⟨c.1, by omega, c.2.2.1, by omega, c.2.2.2.2⟩
end Go.Proofs.YtjckmnbpfmcadabDoor
