/- Slices of texts that the calls have made, and the contracts of the law's own helpers over them: held against each other, marked, held against marks. -/
import Derived.Test.YthmdkbeccohjkaaDoorRowI
import Derived.Laws.IdiomStrings
namespace Go.Proofs.YthmdkbeccohjkaaDoor
set_option linter.unusedSimpArgs false
open Go.ChangeShapes Go.WideShapes Go.ChangeAt Go.RowKit
set_option linter.unusedVariables false

/-- v is a slice that holds the texts xs, made since block base. -/
def SRow (w : World) (base : Nat) (v : Value) (xs : List ByteArray) : Prop := w.ownsRow base 9 1 v xs.length (xs.map Value.string)

theorem SRow.form {w : World} {base : Nat} {v : Value} {xs : List ByteArray} (h : SRow w base v xs) :
    (xs = [] ∧ ∃ A cap, v = .slice A 0 cap) ∨ (0 < xs.length ∧ ∃ g cap, v = .slice (some ⟨g, 0, none⟩) xs.length cap ∧ base ≤ g ∧ g < w.heap.size ∧ xs.length ≤ cap ∧ cap ≤ maxLen) := by
  by_cases hx : xs = []
  · subst hx
    rcases h.2 with ⟨rfl, _⟩ | ⟨g, cap, cur, rfl, _⟩
    · exact .inl ⟨rfl, none, 0, rfl⟩
    · exact .inl ⟨rfl, _, cap, rfl⟩
  · have hl : 0 < xs.length := List.length_pos_iff.2 hx
    rcases h.2 with ⟨_, h0⟩ | ⟨g, cap, cur, rfl, hb, hg, hn, hc, _⟩
    · omega
    · refine .inr ⟨hl, g, cap, rfl, hb, ?_, hn, hc⟩
      rcases Nat.lt_or_ge g w.heap.size with hlt | hge
      · exact hlt
      · rw [Array.getElem?_eq_none hge] at hg; cases hg
theorem SRow.at_ {w : World} {base g cap : Nat} {xs : List ByteArray} (h : SRow w base (.slice (some ⟨g, 0, none⟩) xs.length cap) xs) (k : Nat) (hk : k < xs.length) :
    w.cell? ⟨g, k, none⟩ = some (.string (xs.getD k ByteArray.empty)) := by
  rw [World.ownsRow.cellAt h k (by omega), List.getElem?_map, List.getElem?_eq_getElem hk]
  simp [List.getD_eq_getElem?_getD, List.getElem?_eq_getElem hk]
theorem SRow.drewN {w : World} {base : Nat} {v : Value} {xs : List ByteArray} (h : SRow w base v xs) (n : Nat) : SRow (w.drewN n) base v xs := h

/-- The digits of k ahead of a text. -/
def mkT (k : Nat) (out : ByteArray) : ByteArray := if h : k = 0 then out else mkT (k / 10) (⟨#[UInt8.ofNat (48 + k % 10)]⟩ ++ out)
termination_by k
decreasing_by omega
def mkS (k : Nat) : ByteArray := ⟨#[109]⟩ ++ mkT k ⟨#[]⟩
theorem mkT_zero (out : ByteArray) : mkT 0 out = out := by rw [mkT]; simp
theorem mkT_pos (k : Nat) (hk : 0 < k) (out : ByteArray) : mkT k out = mkT (k / 10) (⟨#[UInt8.ofNat (48 + k % 10)]⟩ ++ out) := by
  rw [mkT, dif_neg (by omega)]

theorem mkT_step (m : Nat) (out : ByteArray) : mkT (m + 1) out = mkT ((m + 1) / 10) (⟨#[UInt8.ofNat (48 + (m + 1) % 10)]⟩ ++ out) := mkT_pos _ (by omega) out
/-- The texts xs, the first i of them marked: m and k, m and k + 1, .. -/
def markedS (k : Nat) (i : Nat) (xs : List ByteArray) : List ByteArray := xs.mapIdx (fun j x => if j < i then mkS (k + j) else x)
theorem markedS_len (k : Nat) (i : Nat) (xs : List ByteArray) : (markedS k i xs).length = xs.length := by simp [markedS]
theorem markedS_zero (k : Nat) (xs : List ByteArray) : markedS k 0 xs = xs := by
  unfold markedS
  apply List.ext_getElem
  · simp
  · intro j h1 h2; simp
theorem markedS_set (k : Nat) (i : Nat) (xs : List ByteArray) : (markedS k i xs).set i (mkS (k + i)) = markedS k (i + 1) xs := by
  unfold markedS
  apply List.ext_getElem
  · simp
  · intro j h1 h2
    simp only [List.getElem_set, List.getElem_mapIdx]
    by_cases e : i = j
    · subst e; simp
    · rw [if_neg e]
      by_cases g : j < i
      · rw [if_pos g, if_pos (by omega)]
      · rw [if_neg g, if_neg (by omega)]
theorem markedS_at (k : Nat) (n i : Nat) (xs : List ByteArray) (hi : i < n) (hx : i < xs.length) : (markedS k n xs).getD i ByteArray.empty = mkS (k + i) := by
  rw [List.getD_eq_getElem?_getD, List.getElem?_eq_getElem (by rw [markedS_len]; exact hx)]
  simp [markedS, hi]

theorem SRow.store {w : World} {base g cap : Nat} {xs : List ByteArray} (h : SRow w base (.slice (some ⟨g, 0, none⟩) xs.length cap) xs) (k : Nat) (u : ByteArray) :
    SRow (w.setCell ⟨g, k, none⟩ (.string u)) base (.slice (some ⟨g, 0, none⟩) xs.length cap) (xs.set k u) ∧ w.grownBy (w.setCell ⟨g, k, none⟩ (.string u)) (some g) := by
  obtain ⟨h1, h2⟩ := World.ownsRow.stored h k (.string u)
  refine ⟨?_, h2⟩
  unfold SRow
  rw [List.length_set, List.map_set]
  exact h1
theorem SRow.nil (w : World) (b : Nat) : SRow w b (.slice none 0 0) [] := World.ownsRow_nil w b _ _
theorem SRow.below {w w' : World} {base : Nat} {v : Value} {xs : List ByteArray} (h : SRow w base v xs) (hb : Below w.heap.size w w') : SRow w' base v xs := by
  refine ⟨h.1, ?_⟩
  rcases h.2 with hn | ⟨g, cap, cur, rfl, hbg, hgg, rest⟩
  · exact .inl hn
  · refine .inr ⟨g, cap, cur, rfl, hbg, ?_, rest⟩
    rw [← hgg]
    refine hb.block g ?_
    rcases Nat.lt_or_ge g w.heap.size with hlt | hge
    · exact hlt
    · rw [Array.getElem?_eq_none hge] at hgg; cases hgg
theorem SRow.mono {w : World} {b b' : Nat} {v : Value} {xs : List ByteArray} (h : SRow w b v xs) (hb : b' ≤ b) : SRow w b' v xs := by
  refine ⟨h.1, ?_⟩
  rcases h.2 with hn | ⟨g, cap, cur, rfl, hbg, rest⟩
  · exact .inl hn
  · exact .inr ⟨g, cap, cur, rfl, Nat.le_trans hb hbg, rest⟩
theorem bel_grownS {w W w' : World} {b : Nat} {v : Value} {xs : List ByteArray} (h : Below w.heap.size w W) (hg : W.grownBy w' v.ownBlock) (hr : SRow W b v xs) (hb : w.heap.size ≤ b) : Below w.heap.size w w' :=
  h.grown hg h.size fun k hk => Nat.le_trans hb (World.ownsRow.lt hr k hk).1
theorem SRow.kept_by {w0 W w' : World} {b0 b1 : Nat} {v0 v1 : Value} {xs ys : List ByteArray} (h : SRow W b0 v0 xs) (hg : W.grownBy w' v1.ownBlock) (h1 : SRow W b1 v1 ys) {n : Nat} (hn : n ≤ w0.heap.size) (h0 : SRow w0 b0 v0 xs) (hb : w0.heap.size ≤ b1 := by exact Nat.le_refl _) : SRow w' b0 v0 xs := by
  refine World.ownsRow.kept h hg ?_
  cases hv : v0.ownBlock with
  | none => exact .inl rfl
  | some k =>
    refine .inr fun he => ?_
    have l0 := (World.ownsRow.lt h0 k hv).2
    have l1 := (World.ownsRow.lt h1 k he.symm).1
    omega

theorem heldS_keep {w W w1 : World} {g j : Nat} {x : Value} (h : Below w.heap.size w W ∧ g < W.heap.size ∧ W.cell? ⟨g, j, none⟩ = some x) (hb : Below W.heap.size W w1) :
    Below w.heap.size w w1 ∧ g < w1.heap.size ∧ w1.cell? ⟨g, j, none⟩ = some x :=
  ⟨h.1.trans (hb.mono h.1.size), Nat.lt_of_lt_of_le h.2.1 hb.size, (hb.cell (p := ⟨g, j, none⟩) h.2.1).trans h.2.2⟩
theorem heldS_self {w W : World} {g j : Nat} {x : Value} (h : Below w.heap.size w W ∧ g < W.heap.size ∧ W.cell? ⟨g, j, none⟩ = some x) : Below w.heap.size w W := h.1

end Go.Proofs.YthmdkbeccohjkaaDoor
