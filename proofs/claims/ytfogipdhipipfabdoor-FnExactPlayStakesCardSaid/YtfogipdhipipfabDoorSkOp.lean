/- PlayStakes: the contracts of the program and of its model. -/
import Derived.Test.YtfogipdhipipfabDoorSkR
import Derived.Test.YtfogipdhipipfabDoorRdI
import Derived.RegionTactic
import Derived.Deep.RegionWith
namespace Go.Proofs.YtfogipdhipipfabDoor
set_option linter.unusedSimpArgs false
open Go.ChangeShapes Go.WideShapes Go.ChangeAt Go.RowKit
set_option linter.unusedVariables false

/-- The purses by stakes of a list: so many rounds are left, n are the tosses and numbers. -/
def plS (t : ByteArray) (xs : List Int) (g : Int) (n : Nat) : Nat → Nat → Int → List Int → Option (List Int)
  | 0, _, _, acc => some acc
  | r + 1, k, p, acc => if k < n ∧ ¬ bd p g = 0 then (if 1 ≤ xs.getD k 0 ∧ xs.getD k 0 ≤ bd p g then plS t xs g n r (k + 1) (mvP (sgnT t k) p (xs.getD k 0)) (acc ++ [mvP (sgnT t k) p (xs.getD k 0)]) else none) else some acc
theorem plS_end {t : ByteArray} {xs : List Int} {g : Int} {n r k : Nat} {p : Int} {acc : List Int} (h : ¬ (k < n ∧ ¬ bd p g = 0)) : plS t xs g n (r + 1) k p acc = some acc := by rw [plS, if_neg h]
theorem plS_bad {t : ByteArray} {xs : List Int} {g : Int} {n r k : Nat} {p : Int} {acc : List Int} (h : k < n ∧ ¬ bd p g = 0) (h2 : ¬ (1 ≤ xs.getD k 0 ∧ xs.getD k 0 ≤ bd p g)) : plS t xs g n (r + 1) k p acc = none := by rw [plS, if_pos h, if_neg h2]
theorem plS_go {t : ByteArray} {xs : List Int} {g : Int} {n r k : Nat} {p : Int} {acc : List Int} (h : k < n ∧ ¬ bd p g = 0) (h2 : 1 ≤ xs.getD k 0 ∧ xs.getD k 0 ≤ bd p g) : plS t xs g n (r + 1) k p acc = plS t xs g n r (k + 1) (mvP (sgnT t k) p (xs.getD k 0)) (acc ++ [mvP (sgnT t k) p (xs.getD k 0)]) := by rw [plS, if_pos h, if_pos h2]
theorem plS_len (t : ByteArray) (xs : List Int) (g : Int) (n : Nat) : ∀ r k p acc l, plS t xs g n r k p acc = some l → l.length ≤ acc.length + r
  | 0, k, p, acc, l, h => by
    rw [plS] at h
    cases h
    omega
  | r + 1, k, p, acc, l, h => by
    rw [plS] at h
    split at h
    · split at h
      · have := plS_len t xs g n r _ _ _ l h
        simp at this
        omega
      · cases h
    · cases h
      omega
def psG (p g : Int) (xs : List Int) (t : ByteArray) : Bool := skG p g && (decide (xs.length ≤ 40) && tossG t)
def resPS (p g : Int) (xs : List Int) (t : ByteArray) : Option (List Int) := if psG p g xs t then plS t xs g (min xs.length t.size) (min xs.length t.size + 1) 0 p [p] else none
theorem resPS_len (p g : Int) (xs : List Int) (t : ByteArray) : ((resPS p g xs t).getD []).length ≤ 1000 := by
  unfold resPS
  cases h : psG p g xs t
  · simp
  · rw [if_pos rfl]
    cases h2 : plS t xs g (min xs.length t.size) (min xs.length t.size + 1) 0 p [p] with
    | none => simp
    | some l =>
      have := plS_len t xs g _ _ _ _ _ l h2
      unfold psG at h
      simp at h
      simp at this ⊢
      omega
theorem h25_keep {w0 W W1 : World} {b : Nat} {ad : Addr} {k : Nat} {x y z : Value} (h : W.cell? ⟨b, 0, none⟩ = some x ∧ W.cell? ⟨b, 1, none⟩ = some y ∧ b < W.heap.size ∧ W.cell? (ad.add k) = some z ∧ ad.block < W.heap.size ∧ Below w0.heap.size w0 W) (hb : Below W.heap.size W W1) :
    W1.cell? ⟨b, 0, none⟩ = some x ∧ W1.cell? ⟨b, 1, none⟩ = some y ∧ b < W1.heap.size ∧ W1.cell? (ad.add k) = some z ∧ ad.block < W1.heap.size ∧ Below w0.heap.size w0 W1 :=
  ⟨(hb.cell (p := ⟨b, 0, none⟩) h.2.2.1).trans h.1, (hb.cell (p := ⟨b, 1, none⟩) h.2.2.1).trans h.2.1, Nat.lt_of_lt_of_le h.2.2.1 hb.size, (hb.cell (by rw [block_of_add]; exact h.2.2.2.2.1)).trans h.2.2.2.1, Nat.lt_of_lt_of_le h.2.2.2.2.1 hb.size, bel_trans h.2.2.2.2.2 hb⟩
theorem h25_start {w0 : World} {b : Nat} {ad : Addr} {k : Nat} {x y z : Value} (h : Box2 w0 b x y) (h2 : w0.cell? (ad.add k) = some z) (h3 : ad.block < w0.heap.size) : let W := w0.drew
    W.cell? ⟨b, 0, none⟩ = some x ∧ W.cell? ⟨b, 1, none⟩ = some y ∧ b < W.heap.size ∧ W.cell? (ad.add k) = some z ∧ ad.block < W.heap.size ∧ Below w0.heap.size w0 W :=
  ⟨h.1, h.2.1, h.2.2, h2, h3, (Below.refl _ _).drew⟩
end Go.Proofs.YtfogipdhipipfabDoor
