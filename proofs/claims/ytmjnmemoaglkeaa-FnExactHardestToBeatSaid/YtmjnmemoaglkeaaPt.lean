/- Tosses and patterns: contracts of the functions that look at them, and the walk of IsPattern. -/
import Derived.Test.YtmjnmemoaglkeaaCn
import Derived.Test.YtmjnmemoaglkeaaShelf
import Derived.Shelf.Strings.SlTrimAscii
namespace Go.Proofs.Ytmjnmemoaglkeaa
open Go.ChangeShapes Go.WideShapes Go.ChangeAt Go.RowKit
set_option linter.unusedVariables false

def allT (s : ByteArray) : Bool := s.data.toList.all tosB
def tossG (s : ByteArray) : Bool := decide (s.size ≤ 40) && allT s
def patG (s : ByteArray) : Bool := tossG s && inB s.size 1 8
theorem mem_data (s : ByteArray) (k : Nat) (hk : k < s.size) : s[k] ∈ s.data.toList :=
  List.mem_iff_getElem.2 ⟨k, by simpa using hk, rfl⟩
theorem allT_of (s : ByteArray) (h : ∀ k, (hk : k < s.size) → tosB s[k] = true) : allT s = true := by
  unfold allT
  rw [List.all_eq_true]
  intro x hx
  obtain ⟨k, hk, rfl⟩ := List.getElem_of_mem hx
  exact h k (by simpa using hk)
theorem allT_not (s : ByteArray) (k : Nat) (hk : k < s.size) (h : tosB s[k] = false) : allT s = false := by
  unfold allT
  rw [List.all_eq_false]
  exact ⟨s[k], mem_data s k hk, by simp [h]⟩
theorem allT_at (s : ByteArray) (k : Nat) (hk : k < s.size) (h : allT s = true) : tosB s[k] = true := by
  unfold allT at h
  rw [List.all_eq_true] at h
  exact h s[k] (mem_data s k hk)
theorem tosB_iff (c : UInt8) : tosB c = true ↔ c.toNat = 104 ∨ c.toNat = 116 := by
  unfold tosB
  simp only [Bool.or_eq_true, beq_iff_eq]
  constructor
  · rintro (rfl | rfl) <;> simp
  · rintro (h | h)
    · left; apply UInt8.toNat.inj; simpa using h
    · right; apply UInt8.toNat.inj; simpa using h
theorem tos_no {c : UInt8} (h1 : ¬ (c.toNat : Int) = 104) (h2 : ((c.toNat : Int) != 116) = true) : tosB c = false := by
  rw [← Bool.not_eq_true, tosB_iff]
  simp at h2
  omega
theorem tos_t {c : UInt8} (h2 : ((c.toNat : Int) != 116) = false) : tosB c = true := by
  rw [tosB_iff]
  simp at h2
  omega
theorem tos_h {c : UInt8} (h2 : (c.toNat : Int) = 104) : tosB c = true := by
  rw [tosB_iff]
  omega
theorem tos_step {s : ByteArray} {k : Nat} (h : ∀ j, (hj : j < s.size) → j < k → tosB s[j] = true) (hk : k < s.size) (h1 : tosB s[k] = true) : ∀ j, (hj : j < s.size) → j < k + 1 → tosB s[j] = true := by
  intro j hj hl
  by_cases e : j = k
  · subst e; exact h1
  · exact h j hj (by omega)
theorem pat_in {s : ByteArray} (g : patG s = true) : 1 ≤ s.size ∧ s.size ≤ 8 ∧ allT s = true := by
  unfold patG tossG inB at g
  simp at g
  exact ⟨by omega, by omega, g.1.2⟩

end Go.Proofs.Ytmjnmemoaglkeaa
