/- Maps from the first signs of a pattern to numbers: what such a map holds, whatever order it is ranged over in. -/
import Derived.Test.YtjkcmphhbaeioaaDoorCnt
import Derived.Maps.RangeWalk
import Derived.Maps.OwnSet
import Derived.Maps.OwnOps
import Derived.Sort.KeysCollected
import Derived.StringKeys
import Derived.ScopeJumps
import Derived.WalkMore
namespace Go.Proofs.YtjkcmphhbaeioaaDoor
open Go.ChangeShapes Go.WideShapes Go.ChangeAt Go.RowKit
set_option linter.unusedVariables false

abbrev MD := DataW Unit
def keyL (p : ByteArray) (j : Nat) : Lit := .string (p.extract 0 j).data.toList
abbrev litZ (x : Int) : MD := .lit (.int .i64 x)
theorem keyL_inj {p : ByteArray} {i j : Nat} (hi : i ≤ p.size) (hj : j ≤ p.size) (h : keyL p i = keyL p j) : i = j := by
  have h1 : (p.extract 0 i).data.toList = (p.extract 0 j).data.toList := by injection h
  have h2 := congrArg List.length h1
  rw [len_list, len_list, ext_size p 0 i hi, ext_size p 0 j hj] at h2
  omega
theorem keyL_same (p : ByteArray) (j : Nat) : (keyL p j).sameKey (keyL p j) = true := by simp [keyL, Lit.sameKey]
theorem keyL_diff {p : ByteArray} {i j : Nat} (hi : i ≤ p.size) (hj : j ≤ p.size) (h : i ≠ j) : (keyL p i).sameKey (keyL p j) = false :=
  Maps.sameKey_ne (fun e => h (keyL_inj hi hj e))
/-- The map holds f at the first signs of p, fewer than m of them, and nothing else. -/
structure MF (D : MD) (p : ByteArray) (m : Nat) (f : Nat → Int) : Prop where
  map : Maps.IsMap D
  at_ : ∀ j, j ≤ p.size → D.atKey (keyL p j) (litZ 0) = litZ (f j)
  key : ∀ kl, Maps.has D kl = true → ∃ j, j < m ∧ kl = keyL p j
theorem MF.congr {D : MD} {p : ByteArray} {m : Nat} {f g : Nat → Int} (h : MF D p m f) (e : ∀ j, j ≤ p.size → f j = g j) : MF D p m g :=
  ⟨h.map, fun j hj => by rw [← e j hj]; exact h.at_ j hj, h.key⟩
theorem MF.put {D : MD} {p : ByteArray} {m : Nat} {f : Nat → Int} (h : MF D p m f) (k : Nat) (hk : k < m) (hp : k ≤ p.size) (x : Int) : MF (D.put (keyL p k) (litZ (f k + x))) p m (fun j => f j + ind k x j) := by
  refine ⟨h.map.put _ _, fun j hj => ?_, fun kl hh => ?_⟩
  · by_cases e : j = k
    · subst e
      rw [Maps.atKey_put_same h.map (show WideAt.IsKeyLit (keyL p j) from trivial)]
      unfold ind
      rw [if_pos rfl]
    · rw [Maps.atKey_put_other (fun q => e (keyL_inj hj hp q)), h.at_ j hj]
      unfold ind
      rw [if_neg (fun q => e q.symm), Int.add_zero]
  · by_cases e : kl = keyL p k
    · exact ⟨k, hk, e⟩
    · rw [Maps.has_put_other e] at hh
      exact h.key kl hh
/-- The whole pattern is struck. -/
theorem MF.strike {D : MD} {p : ByteArray} {f : Nat → Int} (h : MF D p (p.size + 1) f) : MF (D.del (keyL p p.size)) p p.size (fun j => if j < p.size then f j else 0) := by
  refine ⟨h.map.del _, fun j hj => ?_, fun kl hh => ?_⟩
  · by_cases e : j = p.size
    · subst e
      rw [Maps.atKey_del_same, if_neg (by omega)]
    · rw [Maps.atKey_del_other (fun q => e (keyL_inj hj (Nat.le_refl _) q)), h.at_ j hj, if_pos (by omega)]
  · by_cases e : kl = keyL p p.size
    · subst e
      rw [Maps.has_del_same] at hh
      cases hh
    · rw [Maps.has_del_other e] at hh
      obtain ⟨j, hj, rfl⟩ := h.key kl hh
      have : j ≠ p.size := fun q => e (by rw [q])
      exact ⟨j, by omega, rfl⟩
theorem MF.none_ {D : MD} (hm : Maps.IsMap D) (p : ByteArray) (m : Nat) (h : ∀ kl, Maps.has D kl = false) : MF D p m (fun _ => 0) :=
  ⟨hm, fun j _ => by rw [Maps.atKey_of_not_has (h _)], fun kl hh => by rw [h kl] at hh; cases hh⟩
/-- The part of the sum that has been done: what is no longer to come. -/
def part (p : ByteArray) (a b : Int) (f : Nat → Int) (left : Lit → Bool) (k : Nat) : Int := sumJ (fun j => if left (keyL p j) then 0 else con (gH p) (gT p) a b f j k) p.size
theorem part_start {D : MD} {p : ByteArray} {f : Nat → Int} (h : MF D p p.size f) (a b : Int) (k : Nat) : part p a b f (Maps.has D) k = 0 := by
  unfold part
  refine (sumJ_congr (h := fun _ => 0) _ fun j hj => ?_).trans (sumJ_zero _)
  cases hh : Maps.has D (keyL p j) with
  | true => rfl
  | false =>
    have h0 := h.at_ j (by omega)
    rw [Maps.atKey_of_not_has hh] at h0
    have hf : f j = 0 := by injection h0 with h1; injection h1 with _ h2; exact h2.symm
    unfold con ind
    rw [hf]
    simp
theorem part_end {p : ByteArray} {left : Lit → Bool} (h : ∀ kl, left kl = false) (a b : Int) (f : Nat → Int) (k : Nat) : part p a b f left k = stp (gH p) (gT p) a b f p.size k := by
  unfold part stp
  refine sumJ_congr _ fun j _ => ?_
  rw [h]
  rfl
theorem sumJ_one (g : Nat → Int) (i : Nat) (x : Int) : ∀ n, i < n → sumJ (fun j => g j + (if j = i then x else 0)) n = sumJ g n + x
  | 0, h => by omega
  | n + 1, h => by
    show sumJ (fun j => g j + (if j = i then x else 0)) n + (g n + (if n = i then x else 0)) = sumJ g n + g n + x
    by_cases e : n = i
    · rw [if_pos e, sumJ_congr (h := g) n (fun j hj => by rw [if_neg (by omega)]; omega)]
      omega
    · rw [if_neg e, sumJ_one g i x n (by omega)]
      omega
theorem part_next {p : ByteArray} {left : Lit → Bool} {i : Nat} (hi : i < p.size) (hl : left (keyL p i) = true) (a b : Int) (f : Nat → Int) (k : Nat) :
    part p a b f (fun z => left z && !z.sameKey (keyL p i)) k = part p a b f left k + con (gH p) (gT p) a b f i k := by
  unfold part
  rw [← sumJ_one _ i _ p.size hi]
  refine sumJ_congr _ fun j hj => ?_
  by_cases e : j = i
  · subst e
    have hs := keyL_same p j
    simp [hs, hl]
  · have hd := keyL_diff (p := p) (i := j) (j := i) (by omega) (by omega) e
    simp [hd, e]
/-- The sum of the values that have come. -/
def partS (p : ByteArray) (f : Nat → Int) (left : Lit → Bool) : Int := sumJ (fun j => if left (keyL p j) then 0 else f j) p.size
theorem partS_start {D : MD} {p : ByteArray} {f : Nat → Int} (h : MF D p p.size f) : partS p f (Maps.has D) = 0 := by
  unfold partS
  refine (sumJ_congr (h := fun _ => 0) _ fun j hj => ?_).trans (sumJ_zero _)
  cases hh : Maps.has D (keyL p j) with
  | true => rfl
  | false =>
    have h0 := h.at_ j (by omega)
    rw [Maps.atKey_of_not_has hh] at h0
    injection h0 with h1
    injection h1 with _ h2
    exact h2.symm
theorem partS_end {p : ByteArray} {left : Lit → Bool} (h : ∀ kl, left kl = false) (f : Nat → Int) : partS p f left = sumJ f p.size := by
  unfold partS
  refine sumJ_congr _ fun j _ => ?_
  rw [h]
  rfl
theorem partS_next {p : ByteArray} {left : Lit → Bool} {i : Nat} (hi : i < p.size) (hl : left (keyL p i) = true) (f : Nat → Int) :
    partS p f (fun z => left z && !z.sameKey (keyL p i)) = partS p f left + f i := by
  unfold partS
  rw [← sumJ_one _ i _ p.size hi]
  refine sumJ_congr _ fun j hj => ?_
  by_cases e : j = i
  · subst e
    have hs := keyL_same p j
    simp [hs, hl]
  · have hd := keyL_diff (p := p) (i := j) (j := i) (by omega) (by omega) e
    simp [hd, e]
theorem partS_in {p : ByteArray} {f : Nat → Int} (left : Lit → Bool) (hf : ∀ i, i < p.size → 0 ≤ f i) : 0 ≤ partS p f left ∧ partS p f left ≤ sumJ f p.size := by
  unfold partS
  constructor
  · refine sumJ_nonneg _ fun j hj => ?_
    split
    · omega
    · exact hf j hj
  · refine sumJ_le _ fun j hj => ?_
    have := hf j hj
    split <;> omega
theorem part_in {p : ByteArray} {a b : Int} {f : Nat → Int} (left : Lit → Bool) (ha : 0 ≤ a) (hb : 0 ≤ b) (hf : ∀ i, i < p.size → 0 ≤ f i) (k : Nat) : 0 ≤ part p a b f left k ∧ part p a b f left k ≤ (a + b) * sumJ f p.size := by
  unfold part
  constructor
  · refine sumJ_nonneg _ fun j hj => ?_
    split
    · omega
    · exact con_nonneg _ _ ha hb j k (hf j hj)
  · rw [← sumJ_mul]
    refine sumJ_le _ fun j hj => ?_
    have := con_nonneg (gH p) (gT p) ha hb j k (hf j hj)
    have := con_le (gH p) (gT p) ha hb j k (hf j hj)
    split <;> omega
end Go.Proofs.YtjkcmphhbaeioaaDoor
