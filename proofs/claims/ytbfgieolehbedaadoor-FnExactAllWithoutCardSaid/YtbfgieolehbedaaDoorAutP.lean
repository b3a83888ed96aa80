/- How many signs of a pattern tosses end with, behind one more: what is of no program. -/
import Derived.Test.YtbfgieolehbedaaDoorPtPure
namespace Go.Proofs.YtbfgieolehbedaaDoor
set_option linter.unusedSimpArgs false
open Go.ChangeShapes Go.WideShapes Go.ChangeAt Go.RowKit
set_option linter.unusedVariables false

/-- The first j signs of p, and one toss more. -/
def txtN (p : ByteArray) (j : Nat) (c : ByteArray) : ByteArray := p.extract 0 j ++ c
theorem txtN_size (p : ByteArray) (j : Nat) (c : ByteArray) (hj : j ≤ p.size) (hc : c.size = 1) : (txtN p j c).size = j + 1 := by
  unfold txtN
  rw [ByteArray.size_append, ext_size p 0 j hj, hc]
  omega
def fitB (p : ByteArray) (j : Nat) (c : ByteArray) (k : Nat) : Bool := decide (p.extract 0 k = (txtN p j c).extract (j + 1 - k) (j + 1))
/-- The greatest number of signs, k at most, that fits. -/
def goD (p : ByteArray) (j : Nat) (c : ByteArray) : Nat → Nat
  | 0 => 0
  | k + 1 => if fitB p j c (k + 1) then k + 1 else goD p j c k
def goN (p : ByteArray) (j : Nat) (c : ByteArray) : Nat := goD p j c (j + 1)
theorem goD_le (p : ByteArray) (j : Nat) (c : ByteArray) : ∀ k, goD p j c k ≤ k
  | 0 => Nat.le_refl _
  | k + 1 => by
    have := goD_le p j c k
    unfold goD
    split <;> omega
theorem goD_yes {p : ByteArray} {j : Nat} {c : ByteArray} {k : Nat} (h : fitB p j c (k + 1) = true) : goD p j c (k + 1) = k + 1 := by simp [goD, h]
theorem goD_no {p : ByteArray} {j : Nat} {c : ByteArray} {k : Nat} (h : fitB p j c (k + 1) = false) : goD p j c (k + 1) = goD p j c k := by simp [goD, h]
theorem goN_le (p : ByteArray) (j : Nat) (c : ByteArray) : goN p j c ≤ j + 1 := goD_le p j c _
theorem pre_fit (p : ByteArray) (j : Nat) (c : ByteArray) (k : Nat) (hj : j < p.size) (hc : c.size = 1) (hk : k ≤ j + 1) :
    Lib.hasPrefix p.data.toList ((txtN p j c).extract (j + 1 - k) (j + 1)).data.toList = fitB p j c k := by
  have hz := txtN_size p j c (by omega) hc
  have hl : ((txtN p j c).extract (j + 1 - k) (j + 1)).data.toList.length = k := by rw [len_list, ext_size _ _ _ (by omega)]; omega
  rw [Bool.eq_iff_iff]
  unfold fitB Lib.hasPrefix
  rw [decide_eq_true_iff, ba_eq, List.isPrefixOf_iff_prefix, List.prefix_iff_eq_take, hl, ext_list p, List.drop_zero]
  constructor
  · intro h; exact h.symm
  · intro h; exact h.symm
theorem txt_drop (p : ByteArray) (j : Nat) (c : ByteArray) (k : Nat) (hj : j < p.size) (hc : c.size = 1) (hk : k + 1 ≤ j + 1) :
    ((txtN p j c).extract (j + 1 - (k + 1)) (j + 1)).extract 1 ((txtN p j c).extract (j + 1 - (k + 1)) (j + 1)).size = (txtN p j c).extract (j + 1 - k) (j + 1) := by
  have hz := txtN_size p j c (by omega) hc
  rw [ba_eq, ext_list, ext_list, ext_list, List.take_of_length_le (by rw [← ext_list, len_list]; exact Nat.le_refl _), List.drop_drop]
  congr 1
  omega

theorem l1Least_any (a b : Int) (w : World) :
    Calls Tryd.prog 83 #[.int .i64 a, .int .i64 b] w fun e w' => e = .returned (.int .i64 (if a < b then a else b)) ∧ w = w' := by
  by_cases h : a < b
  · rw [if_pos h]
    go_enter Tryd.func83, Tryd.ntmps83
    go_wp2
    go_ret
    exact ⟨rfl, rfl⟩
  · rw [if_neg h]
    go_enter Tryd.func83, Tryd.ntmps83
    go_wp2
    go_ret
    exact ⟨rfl, rfl⟩

end Go.Proofs.YtbfgieolehbedaaDoor
