/- Maps from texts to numbers: what such a map holds, whatever order it is ranged over in. The texts are told by a list of keys. -/
import Derived.Test.YtjckmnbpfmcadacDoorCnt
import Derived.Test.YtjckmnbpfmcadacDoorKept
import Derived.Maps.RangeWalk
import Derived.Maps.OwnSet
import Derived.Maps.OwnOps
import Derived.Sort.KeysCollected
import Derived.StringKeys
import Derived.ScopeJumps
import Derived.WalkMore
namespace Go.Proofs.YtjckmnbpfmcadacDoor
set_option linter.unusedSimpArgs false
open Go.ChangeShapes Go.WideShapes Go.ChangeAt Go.RowKit
set_option linter.unusedVariables false

abbrev MD := DataW Unit
abbrev litZ (x : Int) : MD := .lit (.int .i64 x)
/-- A presentation of what is kept of tosses, for some patterns: M texts, n of them no patterns, and where a toss leads. -/
structure Pres (xs : List ByteArray) (n : Nat) (key : Nat → ByteArray) (gh gt : Nat → Nat) : Prop where
  inj : ∀ i j, i < n + xs.length → j < n + xs.length → key i = key j → i = j
  pos : 0 < n
  zero : key 0 = ⟨#[]⟩
  fin : ∀ k, k < xs.length → key (n + k) = xs.getD k ByteArray.empty
  sz : ∀ j, j < n + xs.length → (key j).size ≤ 8
  gh : ∀ j, j < n → keptT xs (key j ++ sH) = key (gh j) ∧ gh j < n + xs.length
  gt : ∀ j, j < n → keptT xs (key j ++ sT) = key (gt j) ∧ gt j < n + xs.length
def keyL (key : Nat → ByteArray) (j : Nat) : Lit := .string (key j).data.toList
theorem keyL_eq {key : Nat → ByteArray} {i j : Nat} (h : keyL key i = keyL key j) : key i = key j := by
  have h1 : (key i).data.toList = (key j).data.toList := by injection h
  exact ba_eq.2 h1
theorem keyL_same (key : Nat → ByteArray) (j : Nat) : (keyL key j).sameKey (keyL key j) = true := by simp [keyL, Lit.sameKey]
section
variable {xs : List ByteArray} {n : Nat} {key : Nat → ByteArray} {gh gt : Nat → Nat}
theorem Pres.injL (P : Pres xs n key gh gt) {i j : Nat} (hi : i < n + xs.length) (hj : j < n + xs.length) (h : keyL key i = keyL key j) : i = j := P.inj i j hi hj (keyL_eq h)
theorem Pres.diff (P : Pres xs n key gh gt) {i j : Nat} (hi : i < n + xs.length) (hj : j < n + xs.length) (h : i ≠ j) : (keyL key i).sameKey (keyL key j) = false :=
  Maps.sameKey_ne (fun e => h (P.injL hi hj e))
/-- The map holds f at the keys below M, and nothing but at those told by p. -/
structure MG (D : MD) (key : Nat → ByteArray) (M : Nat) (p : Nat → Bool) (f : Nat → Int) : Prop where
  map : Maps.IsMap D
  at_ : ∀ j, j < M → D.atKey (keyL key j) (litZ 0) = litZ (f j)
  key : ∀ kl, Maps.has D kl = true → ∃ j, j < M ∧ p j = true ∧ kl = keyL key j
theorem MG.congr {D : MD} {M : Nat} {p : Nat → Bool} {f g : Nat → Int} (h : MG D key M p f) (e : ∀ j, j < M → f j = g j) : MG D key M p g :=
  ⟨h.map, fun j hj => by rw [← e j hj]; exact h.at_ j hj, h.key⟩
theorem MG.put (P : Pres xs n key gh gt) {D : MD} {p : Nat → Bool} {f : Nat → Int} (h : MG D key (n + xs.length) p f) (k : Nat) (hk : k < n + xs.length) (hp : p k = true) (x : Int) : MG (D.put (keyL key k) (litZ (f k + x))) key (n + xs.length) p (fun j => f j + ind k x j) := by
  refine ⟨h.map.put _ _, fun j hj => ?_, fun kl hh => ?_⟩
  · by_cases e : j = k
    · subst e
      rw [Maps.atKey_put_same h.map (show WideAt.IsKeyLit (keyL key j) from trivial)]
      unfold ind
      rw [if_pos rfl]
    · rw [Maps.atKey_put_other (fun q => e (P.injL hj hk q)), h.at_ j hj]
      unfold ind
      rw [if_neg (fun q => e q.symm), Int.add_zero]
  · by_cases e : kl = keyL key k
    · exact ⟨k, hk, hp, e⟩
    · rw [Maps.has_put_other e] at hh
      exact h.key kl hh
/-- One key is struck. -/
theorem MG.strike (P : Pres xs n key gh gt) {D : MD} {p : Nat → Bool} {f : Nat → Int} (h : MG D key (n + xs.length) p f) (k : Nat) (hk : k < n + xs.length) : MG (D.del (keyL key k)) key (n + xs.length) (fun j => p j && !decide (j = k)) (fun j => if j = k then 0 else f j) := by
  refine ⟨h.map.del _, fun j hj => ?_, fun kl hh => ?_⟩
  · by_cases e : j = k
    · subst e
      rw [Maps.atKey_del_same, if_pos rfl]
    · rw [Maps.atKey_del_other (fun q => e (P.injL hj hk q)), h.at_ j hj, if_neg e]
  · by_cases e : kl = keyL key k
    · subst e
      rw [Maps.has_del_same] at hh
      cases hh
    · rw [Maps.has_del_other e] at hh
      obtain ⟨j, hj, hp, rfl⟩ := h.key kl hh
      exact ⟨j, hj, by rw [hp]; simp; exact fun q => e (by rw [q]), rfl⟩
theorem MG.none_ {D : MD} (hm : Maps.IsMap D) (key : Nat → ByteArray) (M : Nat) (p : Nat → Bool) (h : ∀ kl, Maps.has D kl = false) : MG D key M p (fun _ => 0) :=
  ⟨hm, fun j _ => by rw [Maps.atKey_of_not_has (h _)], fun kl hh => by rw [h kl] at hh; cases hh⟩
theorem MG.weak {D : MD} {M : Nat} {p q : Nat → Bool} {f : Nat → Int} (h : MG D key M p f) (e : ∀ j, j < M → p j = true → q j = true) : MG D key M q f :=
  ⟨h.map, h.at_, fun kl hh => by obtain ⟨j, hj, hp, e2⟩ := h.key kl hh; exact ⟨j, hj, e j hj hp, e2⟩⟩
/-- The part of the sum that has been done: what is no longer to come. -/
def partG (key : Nat → ByteArray) (gh gt : Nat → Nat) (n : Nat) (a b : Int) (f : Nat → Int) (left : Lit → Bool) (k : Nat) : Int := sumJ (fun j => if left (keyL key j) then 0 else con gh gt a b f j k) n
theorem partG_start {D : MD} {M : Nat} {p : Nat → Bool} {f : Nat → Int} (h : MG D key M p f) (hM : n ≤ M) (a b : Int) (k : Nat) : partG key gh gt n a b f (Maps.has D) k = 0 := by
  unfold partG
  refine (sumJ_congr (h := fun _ => 0) _ fun j hj => ?_).trans (sumJ_zero _)
  cases hh : Maps.has D (keyL key j) with
  | true => rfl
  | false =>
    have h0 := h.at_ j (by omega)
    rw [Maps.atKey_of_not_has hh] at h0
    have hf : f j = 0 := by injection h0 with h1; injection h1 with _ h2; exact h2.symm
    unfold con ind
    rw [hf]
    simp
theorem partG_end {left : Lit → Bool} (h : ∀ kl, left kl = false) (a b : Int) (f : Nat → Int) (k : Nat) : partG key gh gt n a b f left k = stp gh gt a b f n k := by
  unfold partG stp
  refine sumJ_congr _ fun j _ => ?_
  rw [h]
  rfl
theorem sumJ_one (g : Nat → Int) (i : Nat) (x : Int) : ∀ n, i < n → sumJ (fun j => g j + (if j = i then x else 0)) n = sumJ g n + x
  | 0, h => by omega
  | n + 1, h => by
    show sumJ (fun j => g j + (if j = i then x else 0)) n + (g n + (if n = i then x else 0)) = sumJ g n + g n + x
    by_cases e : n = i
    · rw [if_pos e, sumJ_congr (h := g) n (fun j hj => by rw [if_neg (by omega)]; omega)]
      omega
    · rw [if_neg e, sumJ_one g i x n (by omega)]
      omega
theorem partG_next (P : Pres xs n key gh gt) {left : Lit → Bool} {i : Nat} (hi : i < n) (hl : left (keyL key i) = true) (a b : Int) (f : Nat → Int) (k : Nat) :
    partG key gh gt n a b f (fun z => left z && !z.sameKey (keyL key i)) k = partG key gh gt n a b f left k + con gh gt a b f i k := by
  unfold partG
  rw [← sumJ_one _ i _ n hi]
  refine sumJ_congr _ fun j hj => ?_
  by_cases e : j = i
  · subst e
    have hs := keyL_same key j
    simp [hs, hl]
  · have hd := P.diff (i := j) (j := i) (by omega) (by omega) e
    simp [hd, e]
/-- The sum of the values that have come. -/
def partSG (key : Nat → ByteArray) (n : Nat) (f : Nat → Int) (left : Lit → Bool) : Int := sumJ (fun j => if left (keyL key j) then 0 else f j) n
theorem partSG_start {D : MD} {M : Nat} {p : Nat → Bool} {f : Nat → Int} (h : MG D key M p f) (hM : n ≤ M) : partSG key n f (Maps.has D) = 0 := by
  unfold partSG
  refine (sumJ_congr (h := fun _ => 0) _ fun j hj => ?_).trans (sumJ_zero _)
  cases hh : Maps.has D (keyL key j) with
  | true => rfl
  | false =>
    have h0 := h.at_ j (by omega)
    rw [Maps.atKey_of_not_has hh] at h0
    injection h0 with h1
    injection h1 with _ h2
    exact h2.symm
theorem partSG_end {left : Lit → Bool} (h : ∀ kl, left kl = false) (f : Nat → Int) : partSG key n f left = sumJ f n := by
  unfold partSG
  refine sumJ_congr _ fun j _ => ?_
  rw [h]
  rfl
theorem partSG_next (P : Pres xs n key gh gt) {left : Lit → Bool} {i : Nat} (hi : i < n) (hl : left (keyL key i) = true) (f : Nat → Int) :
    partSG key n f (fun z => left z && !z.sameKey (keyL key i)) = partSG key n f left + f i := by
  unfold partSG
  rw [← sumJ_one _ i _ n hi]
  refine sumJ_congr _ fun j hj => ?_
  by_cases e : j = i
  · subst e
    have hs := keyL_same key j
    simp [hs, hl]
  · have hd := P.diff (i := j) (j := i) (by omega) (by omega) e
    simp [hd, e]
theorem partSG_in {f : Nat → Int} (left : Lit → Bool) (hf : ∀ i, i < n → 0 ≤ f i) : 0 ≤ partSG key n f left ∧ partSG key n f left ≤ sumJ f n := by
  unfold partSG
  constructor
  · refine sumJ_nonneg _ fun j hj => ?_
    split
    · omega
    · exact hf j hj
  · refine sumJ_le _ fun j hj => ?_
    have := hf j hj
    split <;> omega
theorem partG_in {a b : Int} {f : Nat → Int} (left : Lit → Bool) (ha : 0 ≤ a) (hb : 0 ≤ b) (hf : ∀ i, i < n → 0 ≤ f i) (k : Nat) : 0 ≤ partG key gh gt n a b f left k ∧ partG key gh gt n a b f left k ≤ (a + b) * sumJ f n := by
  unfold partG
  constructor
  · refine sumJ_nonneg _ fun j hj => ?_
    split
    · omega
    · exact con_nonneg _ _ ha hb j k (hf j hj)
  · rw [← sumJ_mul]
    refine sumJ_le _ fun j hj => ?_
    have := con_nonneg gh gt ha hb j k (hf j hj)
    have := con_le gh gt ha hb j k (hf j hj)
    split <;> omega
end
theorem bel_by {W w' : World} (h : Below W.heap.size W w') : W.grownBy w' none := ⟨h.os, h.tape, h.output, h.size, fun k hk _ => h.block k hk⟩
theorem sumJ_geG {f : Nat → Int} : ∀ m, (∀ i, i < m → 0 ≤ f i) → ∀ i, i < m → f i ≤ sumJ f m
  | 0, _, i, hi => by omega
  | m + 1, h, i, hi => by
    have h0 := sumJ_nonneg m (fun j hj => h j (by omega))
    have hm := h m (by omega)
    show f i ≤ sumJ f m + f m
    by_cases e : i = m
    · subst e; omega
    · have := sumJ_geG m (fun j hj => h j (by omega)) i (by omega); omega
end Go.Proofs.YtjckmnbpfmcadacDoor
