/- Contracts of the functions that look at days, of the program and of its model. -/
import Derived.Test.YthmdkbeccohjkaaDoorNum
namespace Go.Proofs.YthmdkbeccohjkaaDoor
set_option linter.unusedSimpArgs false
open Go.ChangeShapes Go.WideShapes Go.ChangeAt Go.RowKit
set_option linter.unusedVariables false

def dayB (c : UInt8) : Bool := c == 100 || c == 119
def allB (s : ByteArray) : Bool := s.data.toList.all dayB
def daysB (s : ByteArray) : Bool := inB s.size 1 60 && allB s

theorem allB_of (s : ByteArray) (h : ∀ k, (hk : k < s.size) → dayB s[k] = true) : allB s = true := by
  unfold allB
  rw [List.all_eq_true]
  intro x hx
  obtain ⟨k, hk, rfl⟩ := List.getElem_of_mem hx
  exact h k (by simpa using hk)
theorem getElem_mem_data (s : ByteArray) (k : Nat) (hk : k < s.size) : s[k] ∈ s.data.toList :=
  List.mem_iff_getElem.2 ⟨k, by simpa using hk, rfl⟩
theorem allB_not (s : ByteArray) (k : Nat) (hk : k < s.size) (h : dayB s[k] = false) : allB s = false := by
  unfold allB
  rw [List.all_eq_false]
  exact ⟨s[k], getElem_mem_data s k hk, by simp [h]⟩
theorem allB_at (s : ByteArray) (k : Nat) (hk : k < s.size) (h : allB s = true) : dayB s[k] = true := by
  unfold allB at h
  rw [List.all_eq_true] at h
  exact h s[k] (getElem_mem_data s k hk)
theorem dayB_iff (c : UInt8) : dayB c = true ↔ c.toNat = 100 ∨ c.toNat = 119 := by
  unfold dayB
  simp only [Bool.or_eq_true, beq_iff_eq]
  constructor
  · rintro (rfl | rfl) <;> simp
  · rintro (h | h)
    · left; apply UInt8.toNat.inj; simpa using h
    · right; apply UInt8.toNat.inj; simpa using h
theorem day_no {c : UInt8} (h1 : ¬ (c.toNat : Int) = 100) (h2 : ((c.toNat : Int) != 119) = true) : dayB c = false := by
  rw [← Bool.not_eq_true, dayB_iff]
  simp at h2
  omega
theorem day_w {c : UInt8} (h2 : ((c.toNat : Int) != 119) = false) : dayB c = true := by
  rw [dayB_iff]
  simp at h2
  omega
theorem day_d {c : UInt8} (h2 : (c.toNat : Int) = 100) : dayB c = true := by
  rw [dayB_iff]
  omega
theorem days_step {s : ByteArray} {k : Nat} (h : ∀ j, (hj : j < s.size) → j < k → dayB s[j] = true) (hk : k < s.size) (h1 : dayB s[k] = true) : ∀ j, (hj : j < s.size) → j < k + 1 → dayB s[j] = true := by
  intro j hj hl
  by_cases e : j = k
  · subst e; exact h1
  · exact h j hj (by omega)

theorem days_true {s : ByteArray} (h1 : 1 ≤ s.size) (h2 : s.size ≤ 60) (h : ∀ k, (hk : k < s.size) → dayB s[k] = true) : daysB s = true := by
  unfold daysB inB
  rw [allB_of s h]
  simp
  omega
theorem days_big {s : ByteArray} (h : ¬ s.size ≤ 60) : daysB s = false := by
  unfold daysB inB
  simp
  omega
theorem days_small {s : ByteArray} (h : ¬ 1 ≤ s.size) : daysB s = false := by
  unfold daysB inB
  simp
  omega

/-- One day: a text of one sign. -/
def dayS (s : ByteArray) : Bool := s.toList == [100] || s.toList == [119]

theorem one_sign {s : ByteArray} (h : s.size = 1) : ∃ c, s.data.toList = [c] := by
  have hl : s.data.toList.length = 1 := by simpa using h
  match hm : s.data.toList, hl with
  | [c], _ => exact ⟨c, rfl⟩
theorem daysB_one {s : ByteArray} (h : s.size = 1) : daysB s = dayS s := by
  obtain ⟨c, hc⟩ := one_sign h
  unfold daysB dayS allB inB
  rw [ByteArray.toList_eq, hc, h]
  simp [dayB]
theorem dayS_not {s : ByteArray} (h : ¬ s.size = 1) : dayS s = false := by
  have hl : s.data.toList.length = s.size := by simp
  unfold dayS
  rw [ByteArray.toList_eq]
  cases hm : s.data.toList with
  | nil => rfl
  | cons a l =>
    cases l with
    | nil => rw [hm] at hl; simp at hl; omega
    | cons b m => simp
theorem dayS_cases {s : ByteArray} (h : dayS s = true) : s.data.toList = [100] ∨ s.data.toList = [119] := by
  unfold dayS at h
  rw [ByteArray.toList_eq] at h
  simpa using h

end Go.Proofs.YthmdkbeccohjkaaDoor
