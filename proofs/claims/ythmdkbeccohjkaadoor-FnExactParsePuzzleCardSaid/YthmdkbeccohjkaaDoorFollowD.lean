/- Contracts of the products of chances along days. -/
import Derived.Test.YthmdkbeccohjkaaDoorPartD
namespace Go.Proofs.YthmdkbeccohjkaaDoor
set_option linter.unusedSimpArgs false
open Go.ChangeShapes Go.WideShapes Go.ChangeAt Go.RowKit
set_option linter.unusedVariables false

theorem inR_of {a b c : Int} (h : good a b c = true) : inR a b c := by
  unfold good inB at h
  unfold inR
  simp at h
  omega

theorem held3_start {w W : World} {k : Nat} {x y z : Value} (h : Box3 W k x y z) (hb : Below w.heap.size w W) : let V := W.drew
    V.cell? ⟨k, 0, none⟩ = some x ∧ V.cell? ⟨k, 1, none⟩ = some y ∧ V.cell? ⟨k, 2, none⟩ = some z ∧ k < V.heap.size ∧ Below w.heap.size w V :=
  ⟨h.1, h.2.1, h.2.2.1, h.2.2.2, hb.drew⟩
theorem held3_keep {w W w1 : World} {k : Nat} {x y z : Value} (h : W.cell? ⟨k, 0, none⟩ = some x ∧ W.cell? ⟨k, 1, none⟩ = some y ∧ W.cell? ⟨k, 2, none⟩ = some z ∧ k < W.heap.size ∧ Below w.heap.size w W)
    (hb : Below W.heap.size W w1) : w1.cell? ⟨k, 0, none⟩ = some x ∧ w1.cell? ⟨k, 1, none⟩ = some y ∧ w1.cell? ⟨k, 2, none⟩ = some z ∧ k < w1.heap.size ∧ Below w.heap.size w w1 := by
  have b : Box3 w1 k x y z := Box3.keep ⟨h.1, h.2.1, h.2.2.1, h.2.2.2.1⟩ hb
  exact ⟨b.1, b.2.1, b.2.2.1, b.2.2.2, bel_trans h.2.2.2.2 hb⟩
theorem held3_drewN {w W : World} {k : Nat} {x y z : Value} (h : W.cell? ⟨k, 0, none⟩ = some x ∧ W.cell? ⟨k, 1, none⟩ = some y ∧ W.cell? ⟨k, 2, none⟩ = some z ∧ k < W.heap.size ∧ Below w.heap.size w W) (n : Nat) :
    let V := W.drewN n
    V.cell? ⟨k, 0, none⟩ = some x ∧ V.cell? ⟨k, 1, none⟩ = some y ∧ V.cell? ⟨k, 2, none⟩ = some z ∧ k < V.heap.size ∧ Below w.heap.size w V := ⟨h.1, h.2.1, h.2.2.1, h.2.2.2.1, bel_drewN h.2.2.2.2 n⟩
theorem held3_below {w W : World} {k : Nat} {x y z : Value} (h : W.cell? ⟨k, 0, none⟩ = some x ∧ W.cell? ⟨k, 1, none⟩ = some y ∧ W.cell? ⟨k, 2, none⟩ = some z ∧ k < W.heap.size ∧ Below w.heap.size w W) : Box3 W k x y z ∧ Below w.heap.size w W :=
  ⟨⟨h.1, h.2.1, h.2.2.1, h.2.2.2.1⟩, h.2.2.2.2⟩

def sgn (s : ByteArray) (k : Nat) : Int := ((s.data.toList.getD k 0).toNat : Int)
theorem sgn_at (s : ByteArray) (k : Nat) (h : k < s.size) : (s[k].toNat : Int) = sgn s k := by
  unfold sgn
  have : s.data.toList.getD k 0 = s[k] := by
    rw [List.getD_eq_getElem?_getD, List.getElem?_eq_getElem (by simpa using h)]; rfl
  rw [this]
theorem sgn_day (s : ByteArray) (k : Nat) (h : k < s.size) (ha : allB s = true) : dayV (sgn s k) := by
  rw [← sgn_at s k h]
  have := (dayB_iff _).1 (allB_at s k h ha)
  unfold dayV; omega

/-- The chance that behind the first one of n days just the others follow, in parts of c to the power n - 1. -/
def flw (a b c : Int) (s : ByteArray) : Nat → Int
  | 0 => 1
  | n + 1 => if n = 0 then 1 else flw a b c s n * stp a b c (sgn s (n - 1)) (sgn s n)

theorem stp_in {a b c : Int} (h : inR a b c) (d f : Int) : 0 ≤ stp a b c d f ∧ stp a b c d f ≤ c := by
  have := chg_in h d
  unfold stp; split <;> omega
theorem flw_in {a b c : Int} (h : inR a b c) (s : ByteArray) : ∀ n, 0 ≤ flw a b c s n ∧ flw a b c s n ≤ 10 ^ n
  | 0 => by simp [flw]
  | n + 1 => by
    obtain ⟨x, y⟩ := flw_in h s n
    have hs := stp_in h (sgn s (n - 1)) (sgn s n)
    have hc : c ≤ 10 := by unfold inR at h; omega
    have p0 : (0 : Int) ≤ 10 ^ n := Int.pow_nonneg (by omega)
    unfold flw
    split
    · rename_i e; subst e; simp
    · rw [Int.pow_succ]
      exact ⟨Int.mul_nonneg x hs.1, Int.mul_le_mul y (by omega) hs.1 p0⟩
theorem flw_le9 {a b c : Int} (h : inR a b c) (s : ByteArray) (n : Nat) (hn : n ≤ 9) : 0 ≤ flw a b c s n ∧ flw a b c s n ≤ 1000000000 :=
  ⟨(flw_in h s n).1, Int.le_trans (flw_in h s n).2 (ten_le n hn)⟩
theorem flw_succ (a b c : Int) (s : ByteArray) (n : Nat) (h : 1 ≤ n) : flw a b c s (n + 1) = flw a b c s n * stp a b c (sgn s (n - 1)) (sgn s n) := by
  conv => lhs; unfold flw
  rw [if_neg (by omega)]

end Go.Proofs.YthmdkbeccohjkaaDoor
