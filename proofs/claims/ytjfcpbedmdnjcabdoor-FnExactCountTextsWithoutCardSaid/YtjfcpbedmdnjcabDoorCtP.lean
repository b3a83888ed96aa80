/- Texts in which a word is nowhere, but may be at the end, counted by letters: what is of no program. -/
import Derived.Test.YtjfcpbedmdnjcabDoorAutP
import Derived.Test.YtjfcpbedmdnjcabDoorWoP
namespace Go.Proofs.YtjfcpbedmdnjcabDoor
set_option linter.unusedSimpArgs false
open Go.ChangeShapes Go.WideShapes Go.ChangeAt Go.RowKit
set_option linter.unusedVariables false

def ctl (k : Nat) : ByteArray := ⟨#[UInt8.ofNat (97 + k)]⟩
theorem ctl_size (k : Nat) : (ctl k).size = 1 := rfl
def ctlChk : Bool := (List.range 26).all fun k => (alpha.data.toList.take (k + 1)).drop k == [UInt8.ofNat (97 + k)]
theorem ctlChk_ok : ctlChk = true := by kernel_rfl
theorem ctl_alpha (k : Nat) (hk : k < 26) : alpha.extract k (k + 1) = ctl k := by
  have h := List.all_eq_true.1 ctlChk_ok k (List.mem_range.2 hk)
  rw [ba_eq, ext_list]
  exact eq_of_beq h
def ctX : Int := 1000000000000001
/-- To how many letters of the word a letter leads on. -/
def ctG (s : ByteArray) (h k : Nat) : Nat := goN s h (ctl k)
/-- How many of the first k letters lead on from h to j. -/
def ctC (s : ByteArray) (h j : Nat) : Nat → Int
  | 0 => 0
  | k + 1 => ctC s h j k + if ctG s h k = j then 1 else 0
theorem ctC_in (s : ByteArray) (h j : Nat) : ∀ k, 0 ≤ ctC s h j k ∧ ctC s h j k ≤ k
  | 0 => by simp [ctC]
  | k + 1 => by
    obtain ⟨a, b⟩ := ctC_in s h j k
    unfold ctC
    split <;> omega
theorem ctC_yes {s : ByteArray} {h j k : Nat} (e : ctG s h k = j) : ctC s h j (k + 1) = ctC s h j k + 1 := by simp [ctC, e]
theorem ctC_no {s : ByteArray} {h j k : Nat} (e : ctG s h k ≠ j) : ctC s h j (k + 1) = ctC s h j k := by simp [ctC, e]
def ctM (x : Int) : Int := if x < ctX then x else ctX
theorem ctM_in {x : Int} (h : 0 ≤ x) : 0 ≤ ctM x ∧ ctM x ≤ ctX := by unfold ctM ctX; split <;> omega
theorem ctM_id {x : Int} (h : x ≤ ctX) : ctM x = x := by unfold ctM; split <;> omega
theorem ctM_add {a b : Int} (h : 0 ≤ b) : ctM (ctM a + b) = ctM (a + b) := by
  unfold ctM
  (repeat' split) <;> omega
/-- What the first h numbers of letters lead on to. -/
def ctP (s : ByteArray) (n : Nat) (f : Nat → Int) : Nat → Nat → Int
  | 0, _ => 0
  | h + 1, j => ctM (ctP s n f h j + ctC s h j n * f h)
/-- And of the letters of the last of these the first k. -/
def ctR (s : ByteArray) (n : Nat) (f : Nat → Int) (h k j : Nat) : Int := ctM (ctP s n f h j + ctC s h j k * f h)
def ctV (s : ByteArray) (n : Nat) : Nat → Nat → Int
  | 0 => fun j => if j = 0 then 1 else 0
  | i + 1 => fun j => ctP s n (ctV s n i) s.size j
theorem ctP_in (s : ByteArray) (n : Nat) (f : Nat → Int) (hf : ∀ j, 0 ≤ f j) : ∀ h j, 0 ≤ ctP s n f h j ∧ ctP s n f h j ≤ ctX
  | 0, j => by simp [ctP, ctX]
  | h + 1, j => by
    obtain ⟨a, b⟩ := ctP_in s n f hf h j
    have c := (ctC_in s h j n).1
    have d : 0 ≤ ctC s h j n * f h := Int.mul_nonneg c (hf h)
    unfold ctP
    exact ctM_in (by omega)
theorem ctV_in (s : ByteArray) (n : Nat) : ∀ i j, 0 ≤ ctV s n i j ∧ ctV s n i j ≤ ctX
  | 0, j => by
    unfold ctV ctX
    split <;> omega
  | i + 1, j => by
    unfold ctV
    exact ctP_in s n _ (fun j => (ctV_in s n i j).1) _ _
theorem ctR_zero (s : ByteArray) (n : Nat) (f : Nat → Int) (hf : ∀ j, 0 ≤ f j) (h j : Nat) : ctR s n f h 0 j = ctP s n f h j := by
  unfold ctR ctC
  rw [Int.zero_mul, Int.add_zero, ctM_id (ctP_in s n f hf h j).2]
theorem ctR_all (s : ByteArray) (n : Nat) (f : Nat → Int) (h j : Nat) : ctR s n f h n j = ctP s n f (h + 1) j := rfl
theorem ctR_yes (s : ByteArray) (n : Nat) (f : Nat → Int) (h k j : Nat) (hf : 0 ≤ f h) (e : ctG s h k = j) : ctR s n f h (k + 1) j = ctM (ctR s n f h k j + f h) := by
  unfold ctR
  rw [ctC_yes e, ctM_add hf, Int.add_mul, Int.one_mul]
  congr 1
  omega
theorem ctR_no (s : ByteArray) (n : Nat) (f : Nat → Int) (h k j : Nat) (e : ctG s h k ≠ j) : ctR s n f h (k + 1) j = ctR s n f h k j := by
  unfold ctR
  rw [ctC_no e]
theorem ctR_none (s : ByteArray) (n : Nat) (f : Nat → Int) (hf : ∀ j, 0 ≤ f j) (h k j : Nat) (e : f h = 0) : ctR s n f h k j = ctP s n f h j := by
  unfold ctR
  rw [e, Int.mul_zero, Int.add_zero, ctM_id (ctP_in s n f hf h j).2]
theorem ctR_in (s : ByteArray) (n : Nat) (f : Nat → Int) (hf : ∀ j, 0 ≤ f j) (h k j : Nat) : 0 ≤ ctR s n f h k j ∧ ctR s n f h k j ≤ ctX := by
  have a := (ctP_in s n f hf h j).1
  have d : 0 ≤ ctC s h j k * f h := Int.mul_nonneg (ctC_in s h j k).1 (hf h)
  unfold ctR
  exact ctM_in (by omega)
def ctW (f : Nat → Int) : Nat → Int
  | 0 => 0
  | h + 1 => ctW f h + f h
theorem ctW_in (f : Nat → Int) (hf : ∀ j, 0 ≤ f j ∧ f j ≤ ctX) : ∀ h, 0 ≤ ctW f h ∧ ctW f h ≤ h * ctX
  | 0 => by simp [ctW]
  | h + 1 => by
    obtain ⟨a, b⟩ := ctW_in f hf h
    obtain ⟨c, d⟩ := hf h
    unfold ctX at *
    unfold ctW
    omega
theorem ctW_cap (f : Nat → Int) (hf : ∀ j, 0 ≤ f j) (h : Nat) : ctM (ctM (ctW f h) + f h) = ctM (ctW f (h + 1)) := ctM_add (hf h)
/-- What is told of so many texts. -/
def ctT (x : Int) : Value := if x < ctX then .tuple #[.int .i64 x, .bool true] else .tuple #[.int .i64 0, .bool false]
theorem ctT_cap (x : Int) : ctT (ctM x) = ctT x := by
  unfold ctT ctM
  by_cases h : x < ctX
  · rw [if_pos h]
  · rw [if_neg h, if_neg (Int.lt_irrefl _), if_neg h]
/-- The greatest number of letters that a word begins with, by its text. -/
theorem ctG_le (s : ByteArray) (h k : Nat) : ctG s h k ≤ h + 1 := goN_le s h _
theorem goD_size (s : ByteArray) (h : Nat) (c : ByteArray) (hh : h < s.size) (hc : c.size = 1) : ∀ k, k ≤ h + 1 → ∀ pre : (Nat → Bool), (∀ k, k ≤ h + 1 → pre k = Lib.hasPrefix s.data.toList ((txtN s h c).extract (h + 1 - k) (h + 1)).data.toList) →
    ∀ D : Nat → ByteArray, D 0 = (txtN s h c).extract (h + 1) (h + 1) → (∀ k, k < h + 1 → D (k + 1) = if pre (k + 1) then (txtN s h c).extract (h + 1 - (k + 1)) (h + 1) else D k) → (D k).size = goD s h c k
  | 0, _, pre, hp, D, h0, h1 => by
    rw [h0, ext_size _ _ _ (by rw [txtN_size s h c (by omega) hc]; exact Nat.le_refl _)]
    simp [goD]
  | k + 1, hk, pre, hp, D, h0, h1 => by
    rw [h1 k (by omega), hp (k + 1) hk, pre_fit s h c (k + 1) hh hc hk]
    cases e : fitB s h c (k + 1)
    · rw [goD_no e]
      exact goD_size s h c hh hc k (by omega) pre hp D h0 h1
    · rw [goD_yes e]
      show ((txtN s h c).extract (h + 1 - (k + 1)) (h + 1)).size = k + 1
      rw [ext_size _ _ _ (by rw [txtN_size s h c (by omega) hc]; exact Nat.le_refl _)]
      omega
end Go.Proofs.YtjfcpbedmdnjcabDoor
