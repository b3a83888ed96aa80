/- Words: what is of no program. -/
import Derived.Test.YtjfcpbedmdnjcabDoorPtPure
import Derived.Lib.Repeat
namespace Go.Proofs.YtjfcpbedmdnjcabDoor
set_option linter.unusedSimpArgs false
open Go.ChangeShapes Go.WideShapes Go.ChangeAt Go.RowKit
set_option linter.unusedVariables false

def alB (n : Nat) (c : UInt8) : Bool := decide (97 ≤ c.toNat) && decide (c.toNat < 97 + n)
/-- The alphabet. -/
def alpha : ByteArray := ⟨#[97, 98, 99, 100, 101, 102, 103, 104, 105, 106, 107, 108, 109, 110, 111, 112, 113, 114, 115, 116, 117, 118, 119, 120, 121, 122]⟩
def alChk : Bool := (List.range 27).all fun n => (List.range 256).all fun b => ((alpha.data.toList.take n).contains (UInt8.ofNat b)) == alB n (UInt8.ofNat b)
theorem alChk_ok : alChk = true := by kernel_rfl
theorem cont_al (n : Nat) (hn : n ≤ 26) (b : UInt8) : ((alpha.extract 0 n).data.toList).contains b = alB n b := by
  have h := alChk_ok
  unfold alChk at h
  rw [List.all_eq_true] at h
  have h1 := h n (List.mem_range.2 (by omega))
  rw [List.all_eq_true] at h1
  have h2 := h1 b.toNat (List.mem_range.2 b.toNat_lt)
  rw [UInt8.ofNat_toNat] at h2
  rw [ext_list, List.drop_zero]
  exact eq_of_beq h2
theorem trim_all (p : UInt8 → Bool) (l cs : List UInt8) (hp : ∀ b, cs.contains b = p b) : Lib.trimS l cs = [] ↔ l.all p = true := by
  have e : (fun b : UInt8 => cs.contains b) = p := funext hp
  unfold Lib.trimS Lib.trimLeftS Lib.trimRightS
  rw [e, List.all_eq_true]
  constructor
  · intro h
    have h1 := nil_dw _ h
    have h2 := dw_all l.reverse (fun x hx => h1 x (by simpa using hx))
    intro x hx
    exact h2 x (by simpa using hx)
  · intro h
    rw [dw_nil l.reverse (fun x hx => h x (by simpa using hx))]
    rfl
def allN (n : Nat) (s : ByteArray) : Bool := s.data.toList.all (alB n)
/-- A word of an alphabet of n letters. -/
def woG (n : Nat) (s : ByteArray) : Bool := inB s.size 1 8 && allN n s
theorem mem_dat (s : ByteArray) (k : Nat) (hk : k < s.size) : s[k] ∈ s.data.toList :=
  List.mem_iff_getElem.2 ⟨k, by simpa using hk, rfl⟩
theorem allN_of (n : Nat) (s : ByteArray) (h : ∀ k, (hk : k < s.size) → alB n s[k] = true) : allN n s = true := by
  unfold allN
  rw [List.all_eq_true]
  intro x hx
  obtain ⟨k, hk, rfl⟩ := List.getElem_of_mem hx
  exact h k (by simpa using hk)
theorem allN_not (n : Nat) (s : ByteArray) (k : Nat) (hk : k < s.size) (h : alB n s[k] = false) : allN n s = false := by
  unfold allN
  rw [List.all_eq_false]
  exact ⟨s[k], mem_dat s k hk, by simp [h]⟩
theorem allN_at {n : Nat} {s : ByteArray} (h : allN n s = true) (k : Nat) (hk : k < s.size) : 97 ≤ s[k].toNat ∧ s[k].toNat < 97 + n := by
  unfold allN at h
  rw [List.all_eq_true] at h
  have := h s[k] (mem_dat s k hk)
  unfold alB at this
  simpa using this
theorem al_step {n : Nat} {s : ByteArray} {k : Nat} (h : ∀ j, (hj : j < s.size) → j < k → alB n s[j] = true) (hk : k < s.size) (h1 : alB n s[k] = true) : ∀ j, (hj : j < s.size) → j < k + 1 → alB n s[j] = true := by
  intro j hj hl
  by_cases e : j = k
  · subst e; exact h1
  · exact h j hj (by omega)
theorem al_in {n : Nat} {c : UInt8} : alB n c = inB ((c.toNat : Int) - 97) 0 ((n : Int) - 1) := by
  unfold alB inB
  rw [Bool.eq_iff_iff]
  simp only [Bool.and_eq_true, decide_eq_true_eq]
  omega
theorem wo_in {n : Nat} {s : ByteArray} (g : woG n s = true) : 1 ≤ s.size ∧ s.size ≤ 8 ∧ allN n s = true := by
  unfold woG inB at g
  simp at g
  exact ⟨by omega, by omega, g.2⟩
theorem allN_mono {n m : Nat} {s : ByteArray} (h : allN n s = true) (hm : n ≤ m) : allN m s = true := by
  refine allN_of m s fun k hk => ?_
  have := allN_at h k hk
  unfold alB
  simp
  omega
/-- Powers of numbers of letters. -/
theorem pw_tn (n : Nat) (h0 : 1 ≤ n) (h1 : n ≤ 26) : ∀ k : Nat, 1 ≤ (n : Int) ^ k ∧ (n : Int) ^ k ≤ 26 ^ k
  | 0 => by simp
  | k + 1 => by
    obtain ⟨a, b⟩ := pw_tn n h0 h1 k
    rw [Int.pow_succ, Int.pow_succ]
    refine ⟨?_, Int.mul_le_mul b (by omega) (by omega) (by omega)⟩
    have := Int.mul_le_mul a (show (1 : Int) ≤ n by omega) (by omega) (by omega)
    omega
theorem p26 (k : Nat) (h : k ≤ 9) : (26 : Int) ^ k ≤ 5429503678976 := by
  match k, h with
  | 0, _ | 1, _ | 2, _ | 3, _ | 4, _ | 5, _ | 6, _ | 7, _ | 8, _ | 9, _ => decide
theorem p268 (k : Nat) (h : k ≤ 8) : (26 : Int) ^ k ≤ 208827064576 := by
  match k, h with
  | 0, _ | 1, _ | 2, _ | 3, _ | 4, _ | 5, _ | 6, _ | 7, _ | 8, _ => decide
theorem pw_le9 (n : Nat) (h0 : 1 ≤ n) (h1 : n ≤ 26) (k : Nat) (hk : k ≤ 9) : 1 ≤ (n : Int) ^ k ∧ (n : Int) ^ k ≤ 5429503678976 :=
  ⟨(pw_tn n h0 h1 k).1, Int.le_trans (pw_tn n h0 h1 k).2 (p26 k hk)⟩
theorem pw_le8 (n : Nat) (h0 : 1 ≤ n) (h1 : n ≤ 26) (k : Nat) (hk : k ≤ 8) : 1 ≤ (n : Int) ^ k ∧ (n : Int) ^ k ≤ 208827064576 :=
  ⟨(pw_tn n h0 h1 k).1, Int.le_trans (pw_tn n h0 h1 k).2 (p268 k hk)⟩
/-- How many words come before the first k letters. -/
def rkK (n : Nat) (s : ByteArray) (k : Nat) : Int := (s.data.toList.take k).foldl (fun r c => r * n + ((c.toNat : Int) - 97)) 0
theorem rkK_zero (n : Nat) (s : ByteArray) : rkK n s 0 = 0 := by simp [rkK]
theorem rkK_succ (n : Nat) (s : ByteArray) (k : Nat) (hk : k < s.size) : rkK n s (k + 1) = rkK n s k * n + ((s[k].toNat : Int) - 97) := by
  unfold rkK
  have e : s.data.toList[k]'(by simpa using hk) = s[k] := rfl
  rw [List.take_succ_eq_append_getElem (by simpa using hk), List.foldl_append, e]
  rfl
theorem rkK_in {n : Nat} {s : ByteArray} (h : allN n s = true) : ∀ k, k ≤ s.size → 0 ≤ rkK n s k ∧ rkK n s k < (n : Int) ^ k
  | 0, _ => by simp [rkK_zero]
  | k + 1, hk => by
    obtain ⟨a, b⟩ := rkK_in h k (by omega)
    have c := allN_at h k (by omega)
    rw [rkK_succ n s k (by omega), Int.pow_succ]
    have h1 : (rkK n s k + 1) * n ≤ (n : Int) ^ k * n := Int.mul_le_mul_of_nonneg_right (by omega) (by omega)
    have h2 := Int.mul_nonneg a (show (0 : Int) ≤ n by omega)
    rw [Int.add_mul] at h1
    constructor <;> omega
/-- A word, told from its letter k on. -/
def trn (s : ByteArray) (k : Nat) : ByteArray := s.extract k s.size ++ s.extract 0 k
theorem trn_size (s : ByteArray) (k : Nat) (hk : k ≤ s.size) : (trn s k).size = s.size := by
  unfold trn
  rw [ByteArray.size_append, ext_size _ _ _ (Nat.le_refl _), ext_size _ _ _ hk]
  omega
theorem trn_list (s : ByteArray) (k : Nat) : (trn s k).data.toList = s.data.toList.drop k ++ s.data.toList.take k := by
  unfold trn
  rw [ByteArray.data_append, Array.toList_append, ext_list, ext_list, List.drop_zero, List.take_of_length_le (by rw [len_list]; exact Nat.le_refl _)]
theorem trn_zero (s : ByteArray) : trn s 0 = s := by
  rw [ba_eq, trn_list]
  simp
/-- The letters of a word, around. -/
def lt8 (s : ByteArray) (i : Nat) : UInt8 := s.data.toList.getD (i % s.size) 0
theorem lt8_mod (s : ByteArray) (i : Nat) : lt8 s (i % s.size) = lt8 s i := by unfold lt8; rw [Nat.mod_mod]
theorem lt8_add (s : ByteArray) (i : Nat) : lt8 s (i + s.size) = lt8 s i := by unfold lt8; rw [Nat.add_mod_right]
theorem trn_get (s : ByteArray) (k i : Nat) (hk : k < s.size) (hi : i < s.size) : (trn s k).data.toList.getD i 0 = lt8 s (i + k) := by
  have hl := len_list s
  rw [trn_list]
  unfold lt8
  generalize s.data.toList = l at *
  rw [List.getD_eq_getElem?_getD, List.getD_eq_getElem?_getD]
  by_cases h : i + k < s.size
  · rw [Nat.mod_eq_of_lt h, List.getElem?_append_left (by rw [List.length_drop]; omega), List.getElem?_drop, Nat.add_comm k i]
  · rw [List.getElem?_append_right (by rw [List.length_drop]; omega), List.length_drop, List.getElem?_take_of_lt (by omega),
      show (i + k) % s.size = i - (l.length - k) from by
        rw [show i + k = (i - (l.length - k)) + s.size from by omega, Nat.add_mod_right, Nat.mod_eq_of_lt (by omega)]]
theorem trn_eq_iff (s : ByteArray) (k : Nat) (hk : k < s.size) : trn s k = s ↔ ∀ i, lt8 s (i + k) = lt8 s i := by
  have hl := len_list s
  constructor
  · intro h i
    have hi : i % s.size < s.size := Nat.mod_lt _ (by omega)
    have := trn_get s k (i % s.size) hk hi
    rw [h] at this
    have e1 : lt8 s i = s.data.toList.getD (i % s.size) 0 := rfl
    rw [e1, this]
    unfold lt8
    rw [Nat.mod_add_mod]
  · intro h
    rw [ba_eq]
    apply List.ext_getElem
    · rw [len_list, len_list, trn_size _ _ (by omega)]
    · intro i h1 h2
      rw [len_list] at h2
      have := trn_get s k i hk h2
      rw [h i] at this
      unfold lt8 at this
      rw [Nat.mod_eq_of_lt h2, List.getD_eq_getElem?_getD, List.getD_eq_getElem?_getD, List.getElem?_eq_getElem (by assumption), List.getElem?_eq_getElem (by rw [len_list]; exact h2)] at this
      exact this
theorem lt8_mul {s : ByteArray} {k : Nat} (h : ∀ i, lt8 s (i + k) = lt8 s i) : ∀ (j i : Nat), lt8 s (i + j * k) = lt8 s i
  | 0, i => by simp
  | j + 1, i => by
    rw [show i + (j + 1) * k = (i + j * k) + k from by rw [Nat.add_mul]; omega, h, lt8_mul h j i]
def gcChk : Bool := (List.range 9).all fun z => (List.range z).all fun k => k == 0 || (List.range 9).any fun d => decide (1 ≤ d) && decide (d ≤ k) && decide (z % d = 0) && (List.range 9).any fun j => j * k % z == d
theorem gcChk_ok : gcChk = true := by kernel_rfl
/-- A word that is the same turned by k is the same turned by a number of letters, at most k, that divides its own. -/
theorem trn_div (s : ByteArray) (h8 : s.size ≤ 8) (k : Nat) (h0 : 1 ≤ k) (hk : k < s.size) (h : trn s k = s) : ∃ d, 1 ≤ d ∧ d ≤ k ∧ s.size % d = 0 ∧ trn s d = s := by
  have c := gcChk_ok
  unfold gcChk at c
  rw [List.all_eq_true] at c
  have c1 := c s.size (List.mem_range.2 (by omega))
  rw [List.all_eq_true] at c1
  have c2 := c1 k (List.mem_range.2 hk)
  rw [Bool.or_eq_true] at c2
  rcases c2 with c2 | c2
  · simp at c2; omega
  · rw [List.any_eq_true] at c2
    obtain ⟨d, _, hd⟩ := c2
    rw [Bool.and_eq_true, Bool.and_eq_true, Bool.and_eq_true, List.any_eq_true] at hd
    obtain ⟨⟨⟨d1, d2⟩, d3⟩, j, _, hj⟩ := hd
    simp only [decide_eq_true_eq, beq_iff_eq] at d1 d2 d3 hj
    refine ⟨d, d1, d2, d3, ?_⟩
    rw [trn_eq_iff s d (by omega)]
    intro i
    have := lt8_mul ((trn_eq_iff s k hk).1 h) j i
    rw [← this]
    unfold lt8
    rw [← hj, Nat.add_mod_mod]
/-- The first one of the first k + 1 turns. -/
def ltS (a b : ByteArray) : Bool := decide (a.data.toList < b.data.toList)
def fstK (s : ByteArray) : Nat → ByteArray
  | 0 => s
  | k + 1 => if ltS (trn s (k + 1)) (fstK s k) then trn s (k + 1) else fstK s k
def fstW (s : ByteArray) : ByteArray := fstK s (s.size - 1)
theorem fstK_size (s : ByteArray) : ∀ k, k ≤ s.size → (fstK s k).size = s.size
  | 0, _ => rfl
  | k + 1, h => by
    unfold fstK
    split
    · exact trn_size s (k + 1) h
    · exact fstK_size s k (by omega)
/-- The root: the least number of letters that divides, by which the word is the same turned. -/
def isRt (s : ByteArray) (k : Nat) : Bool := decide (s.size % k = 0) && decide (trn s k = s)
def isPr (s : ByteArray) : Bool := (List.range (s.size - 1)).all fun k => ltS s (trn s (k + 1))
end Go.Proofs.YtjfcpbedmdnjcabDoor
