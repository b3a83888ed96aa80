/- All texts of so many tosses: the contracts of the program and of its model. -/
import Derived.Test.YtjckmnbpfmcadacDoorSPush
import Derived.Test.YtjckmnbpfmcadacDoorPt
namespace Go.Proofs.YtjckmnbpfmcadacDoor
set_option linter.unusedSimpArgs false
open Go.ChangeShapes Go.WideShapes Go.ChangeAt Go.RowKit
set_option linter.unusedVariables false

def dubS (l : List ByteArray) : List ByteArray := l.flatMap fun t => [t ++ ⟨#[104]⟩, t ++ ⟨#[116]⟩]
def allTx : Nat → List ByteArray
  | 0 => [ByteArray.empty]
  | n + 1 => dubS (allTx n)
theorem dubS_len (l : List ByteArray) : (dubS l).length = 2 * l.length := by
  unfold dubS
  induction l with
  | nil => rfl
  | cons a l ih => rw [List.flatMap_cons, List.length_append, ih]; simp; omega
theorem dubS_take (l : List ByteArray) (k : Nat) (hk : k < l.length) : dubS (l.take (k + 1)) = dubS (l.take k) ++ [l.getD k ByteArray.empty ++ ⟨#[104]⟩, l.getD k ByteArray.empty ++ ⟨#[116]⟩] := by
  unfold dubS
  rw [List.take_succ_eq_append_getElem hk, List.flatMap_append, List.getD_eq_getElem?_getD, List.getElem?_eq_getElem hk]
  simp
theorem allTx_len : ∀ n, (allTx n).length = 2 ^ n
  | 0 => rfl
  | n + 1 => by rw [allTx, dubS_len, allTx_len n, Nat.pow_succ]; omega
theorem mem_dub {l : List ByteArray} {x : ByteArray} : x ∈ dubS l ↔ ∃ t ∈ l, x = t ++ ⟨#[104]⟩ ∨ x = t ++ ⟨#[116]⟩ := by
  unfold dubS
  simp [List.mem_flatMap]
theorem allTx_mem : ∀ (n : Nat) (x : ByteArray), x ∈ allTx n → x.size = n ∧ allT x = true
  | 0, x, h => by
    simp [allTx] at h
    subst h
    exact ⟨rfl, rfl⟩
  | n + 1, x, h => by
    rw [allTx, mem_dub] at h
    obtain ⟨t, ht, e⟩ := h
    obtain ⟨a, b⟩ := allTx_mem n t ht
    rcases e with rfl | rfl
    · refine ⟨by rw [ByteArray.size_append, a]; rfl, ?_⟩
      unfold allT at *
      simp [b, tosB]
    · refine ⟨by rw [ByteArray.size_append, a]; rfl, ?_⟩
      unfold allT at *
      simp [b, tosB]
theorem pow12 (k : Nat) (h : k ≤ 12) : 2 ^ k ≤ 4096 := by
  have : 2 ^ k ≤ 2 ^ 12 := Nat.pow_le_pow_right (by omega) h
  simpa using this
theorem tx_pos (k : Nat) : 0 < (allTx k).length := by rw [allTx_len]; exact Nat.pow_pos (by omega)
end Go.Proofs.YtjckmnbpfmcadacDoor
