/- Slices of integers that are read; copies of them. -/
import Derived.Test.YthmdkbeccohjkaaDoorRowI
import Derived.Test.YthmdkbeccohjkaaDoorWb
import Derived.Deep.Matrix
namespace Go.Proofs.YthmdkbeccohjkaaDoor
set_option linter.unusedSimpArgs false
open Go.ChangeShapes Go.WideShapes Go.ChangeAt Go.RowKit
set_option linter.unusedVariables false

theorem block_of_add (a : Addr) (n : Nat) : (a.add n).block = a.block := by unfold Addr.add; split <;> rfl

/-- The slice v reads as the integers xs; its cells lie below block B. -/
def RdI (w : World) (B : Nat) (v : Value) (xs : List Int) : Prop :=
  ∃ A cap, v = .slice A xs.length cap ∧ xs.length ≤ cap ∧ cap ≤ maxLen ∧
    (0 < xs.length → ∃ ad : Addr, A = some ad ∧ ad.block < B ∧ ∀ k, k < xs.length → w.cell? (ad.add k) = some (.int .i64 (xs.getD k 0)))
theorem RdI.keep {w w' : World} {B : Nat} {v : Value} {xs : List Int} (h : RdI w B v xs) (hk : ∀ p : Addr, p.block < B → w'.cell? p = w.cell? p) : RdI w' B v xs := by
  obtain ⟨A, cap, e, h1, h2, h3⟩ := h
  refine ⟨A, cap, e, h1, h2, fun hl => ?_⟩
  obtain ⟨ad, e1, e2, e3⟩ := h3 hl
  exact ⟨ad, e1, e2, fun k hkk => (hk _ (by rw [block_of_add]; exact e2)).trans (e3 k hkk)⟩
theorem RdI.below {w w' : World} {B C : Nat} {v : Value} {xs : List Int} (h : RdI w B v xs) (hb : Below C w w') (hB : B ≤ C) : RdI w' B v xs :=
  h.keep fun _ hp => hb.cell (Nat.lt_of_lt_of_le hp hB)
theorem RdI.more {w : World} {B C : Nat} {v : Value} {xs : List Int} (h : RdI w B v xs) (hB : B ≤ C) : RdI w C v xs := by
  obtain ⟨A, cap, e, h1, h2, h3⟩ := h
  refine ⟨A, cap, e, h1, h2, fun hl => ?_⟩
  obtain ⟨ad, e1, e2, e3⟩ := h3 hl
  exact ⟨ad, e1, by omega, e3⟩
theorem RdI.drewN {w : World} {B : Nat} {v : Value} {xs : List Int} (h : RdI w B v xs) (n : Nat) : RdI (w.drewN n) B v xs := h
/-- A row of the call's own reads as its numbers. -/
theorem IRow.rd {w : World} {b : Nat} {v : Value} {xs : List Int} (h : IRow w b v xs) : RdI w w.heap.size v xs := by
  rcases h.2 with ⟨rfl, h0⟩ | ⟨g, cap, cur, rfl, hb, hg, hn, hc, hs, ht⟩
  · refine ⟨none, 0, by rw [h0], by omega, by simp [maxLen], fun hl => by omega⟩
  · refine ⟨some ⟨g, 0, none⟩, cap, rfl, hn, hc, fun hl => ⟨_, rfl, ?_, fun k hk => ?_⟩⟩
    · rcases Nat.lt_or_ge g w.heap.size with hlt | hge
      · exact hlt
      · rw [Array.getElem?_eq_none hge] at hg; cases hg
    · have := h.at_ (cap := cap) (g := g) k hk
      rw [Addr.add_lit, Nat.zero_add]
      exact this
theorem RdI.at_ {w : World} {B n cap : Nat} {A : Option Addr} {xs : List Int} (h : RdI w B (.slice A n cap) xs) {k : Nat} (hk : k < xs.length) :
    ∃ ad : Addr, A = some ad ∧ ad.block < B ∧ w.cell? (ad.add k) = some (.int .i64 (xs.getD k 0)) := by
  obtain ⟨A', cap', e, h1, h2, h3⟩ := h
  injection e with e1 e2 e3
  subst e1
  obtain ⟨ad, e1, e2, e3⟩ := h3 (by omega)
  exact ⟨ad, e1, e2, e3 k hk⟩
theorem RdI.form {w : World} {B : Nat} {v : Value} {xs : List Int} (h : RdI w B v xs) : ∃ A cap, v = .slice A xs.length cap ∧ xs.length ≤ cap ∧ cap ≤ maxLen := by
  obtain ⟨A', cap', e, h1, h2, h3⟩ := h
  exact ⟨A', cap', e, h1, h2⟩
theorem rdI_open {H : Type} {enc : TypeId × Value → H} {P : Program} {w : World} {held : Bool} {t q : TypeId} {v : Value} {b0 : Nat} {r : Reach} {d : DataW H} {p : List MemPlace} (ht : P.underlying t = some (.slice q)) (hq : P.underlying q = some (.int .i64)) (cq : P.cellsOf q = 1)
    (h : ∃ fuel, DataW.trod enc P w 0 (fun _ => true) held fuel t [v] = some (d, p)) : ∃ xs : List Int, RdI w w.heap.size v xs := by
  obtain ⟨fuel, h⟩ := h
  rcases open_ints ht hq cq h with ⟨h0, _⟩ | ⟨a, len, cap, zs, h0, _, h1, h2, h3, _, h4, _⟩
  · simp at h0
    subst h0
    exact ⟨[], none, 0, rfl, Nat.le_refl _, by simp [maxLen], fun h => by simp at h⟩
  · simp at h0
    subst h0
    simp at h3
    refine ⟨zs.take len, some a, cap, by simp [h3, h1], by simp [h3, h1], h2, fun hl => ⟨a, rfl, ?_, fun k hk => ?_⟩⟩
    · simp [h3] at hl
      have := World.block_lt_of_cell? w _ (h4 0 (by omega))
      rwa [block_of_add] at this
    · have hk' : k < len := by rw [List.length_take] at hk; omega
      rw [h4 k (by omega)]
      simp [List.getD_eq_getElem?_getD, hk']

/-- The first k numbers are copied. -/
def copied (xs : List Int) (k : Nat) : List Int := xs.take k ++ List.replicate (xs.length - k) 0
theorem copied_len (xs : List Int) (k : Nat) (h : k ≤ xs.length) : (copied xs k).length = xs.length := by simp [copied]; omega
theorem copied_zero (xs : List Int) : copied xs 0 = List.replicate xs.length 0 := by simp [copied]
theorem copied_all (xs : List Int) : copied xs xs.length = xs := by simp [copied]
theorem copied_set (xs : List Int) (k : Nat) (h : k < xs.length) : (copied xs k).set k (xs.getD k 0) = copied xs (k + 1) := by
  unfold copied
  apply List.ext_getElem
  · simp; omega
  · intro j h1 h2
    simp only [List.getElem_set]
    by_cases e : k = j
    · subst e
      rw [if_pos rfl, List.getElem_append_left (by simp; omega)]
      simp [List.getD_eq_getElem?_getD, List.getElem?_eq_getElem h]
    · rw [if_neg e]
      rcases Nat.lt_or_ge j k with g | g
      · rw [List.getElem_append_left (by simp; omega), List.getElem_append_left (by simp; omega)]
        simp
      · rw [List.getElem_append_right (by simp; omega), List.getElem_append_right (by simp; omega)]
        simp

end Go.Proofs.YthmdkbeccohjkaaDoor
