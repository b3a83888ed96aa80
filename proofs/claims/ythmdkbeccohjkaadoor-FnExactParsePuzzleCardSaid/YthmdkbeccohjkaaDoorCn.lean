/- Coins: contracts of the functions that look at them, and the walk of IsCoin. -/
import Derived.Test.YthmdkbeccohjkaaDoorPtPure
namespace Go.Proofs.YthmdkbeccohjkaaDoor
set_option linter.unusedSimpArgs false
open Go.ChangeShapes Go.WideShapes Go.ChangeAt Go.RowKit
set_option linter.unusedVariables false

def Box2 (w : World) (k : Nat) (x y : Value) : Prop := w.cell? ⟨k, 0, none⟩ = some x ∧ w.cell? ⟨k, 1, none⟩ = some y ∧ k < w.heap.size
theorem Box2.new (w : World) (x y : Value) (t : TypeId) : Box2 (w.alloc (.cells #[x, y] t)) w.heap.size x y := by
  refine ⟨?_, ?_, ?_⟩ <;> simp [go_sem]
theorem Box2.keep {w w1 : World} {k : Nat} {x y : Value} (h : Box2 w k x y) (hb : Below w.heap.size w w1) : Box2 w1 k x y :=
  ⟨(hb.cell (p := ⟨k, 0, none⟩) h.2.2).trans h.1, (hb.cell (p := ⟨k, 1, none⟩) h.2.2).trans h.2.1, Nat.lt_of_lt_of_le h.2.2 hb.size⟩
theorem held2_start {w W : World} {k : Nat} {x y : Value} (h : Box2 W k x y) (hb : Below w.heap.size w W) : let V := W.drew
    V.cell? ⟨k, 0, none⟩ = some x ∧ V.cell? ⟨k, 1, none⟩ = some y ∧ k < V.heap.size ∧ Below w.heap.size w V :=
  ⟨h.1, h.2.1, h.2.2, hb.drew⟩
theorem held2_keep {w W w1 : World} {k : Nat} {x y : Value} (h : W.cell? ⟨k, 0, none⟩ = some x ∧ W.cell? ⟨k, 1, none⟩ = some y ∧ k < W.heap.size ∧ Below w.heap.size w W)
    (hb : Below W.heap.size W w1) : w1.cell? ⟨k, 0, none⟩ = some x ∧ w1.cell? ⟨k, 1, none⟩ = some y ∧ k < w1.heap.size ∧ Below w.heap.size w w1 := by
  have b : Box2 w1 k x y := Box2.keep ⟨h.1, h.2.1, h.2.2.1⟩ hb
  exact ⟨b.1, b.2.1, b.2.2, bel_trans h.2.2.2 hb⟩
theorem held2_drewN {w W : World} {k : Nat} {x y : Value} (h : W.cell? ⟨k, 0, none⟩ = some x ∧ W.cell? ⟨k, 1, none⟩ = some y ∧ k < W.heap.size ∧ Below w.heap.size w W) (n : Nat) :
    let V := W.drewN n
    V.cell? ⟨k, 0, none⟩ = some x ∧ V.cell? ⟨k, 1, none⟩ = some y ∧ k < V.heap.size ∧ Below w.heap.size w V := ⟨h.1, h.2.1, h.2.2.1, bel_drewN h.2.2.2 n⟩
theorem held2_below {w W : World} {k : Nat} {x y : Value} (h : W.cell? ⟨k, 0, none⟩ = some x ∧ W.cell? ⟨k, 1, none⟩ = some y ∧ k < W.heap.size ∧ Below w.heap.size w W) : Box2 W k x y ∧ Below w.heap.size w W :=
  ⟨⟨h.1, h.2.1, h.2.2.1⟩, h.2.2.2⟩

abbrev cn (h o : Int) : Value := .agg #[.int .i64 h, .int .i64 o]
def coinG (h o : Int) : Bool := inB o 2 10 && inB h 1 (o - 1)
theorem coin_in {h o : Int} (g : coinG h o = true) : 1 ≤ h ∧ h < o ∧ 2 ≤ o ∧ o ≤ 10 := by
  unfold coinG inB at g
  simp at g
  omega

theorem ptCoin_any (h o : Int) (w : World) :
    Calls Tryd.prog 50 #[cn h o] w fun e w' => e = .returned (.bool (coinG h o)) ∧ Below w.heap.size w w' := by
  cases h1 : inB o 2 10
  · go_enter Tryd.func50, Tryd.ntmps50
    go_wp2_with (go_at_call 51; refine (l1In_any _ _ _ _).mono ?_; rintro e w' ⟨rfl, rfl⟩)
    go_ret
    exact ⟨by simp [coinG, h1], bel_alloc (Below.refl _ _) _⟩
  · have b := (inB_iff _ _ _).1 h1
    have hw : IntKind.i64.wrap (o - 1) = o - 1 := IntWalk.i64_in _ (by omega)
    go_enter Tryd.func50, Tryd.ntmps50
    go_wp2_with (go_at_call 51; refine (l1In_any _ _ _ _).mono ?_; rintro e w' ⟨rfl, rfl⟩)
    go_ret
    exact ⟨by simp [coinG, h1], bel_alloc (Below.refl _ _) _⟩

theorem implIsCoin_any (h o : Int) (w : World) :
    Calls Tryd.prog 46 #[cn h o] w fun e w' => e = .returned (.bool (coinG h o)) ∧ Below w.heap.size w w' := by
  by_cases h1 : 2 ≤ o
  · by_cases h2 : o ≤ 10
    · by_cases h3 : 1 ≤ h
      · by_cases h4 : h < o
        · go_enter Tryd.func46, Tryd.ntmps46
          go_wp2
          go_ret
          exact ⟨by simp [coinG, inB, *]; omega, bel_alloc (Below.refl _ _) _⟩
        · have d4 : decide (h < o) = false := by simpa using h4
          go_enter Tryd.func46, Tryd.ntmps46
          go_wp2
          go_ret
          exact ⟨by simp [coinG, inB, *]; omega, bel_alloc (Below.refl _ _) _⟩
      · have d3 : decide (1 ≤ h) = false := by simpa using h3
        go_enter Tryd.func46, Tryd.ntmps46
        go_wp2
        go_ret
        exact ⟨by simp [coinG, inB, *], bel_alloc (Below.refl _ _) _⟩
    · have d2 : decide (o ≤ 10) = false := by simpa using h2
      go_enter Tryd.func46, Tryd.ntmps46
      go_wp2
      go_ret
      exact ⟨by simp [coinG, inB, *], bel_alloc (Below.refl _ _) _⟩
  · have d1 : decide (2 ≤ o) = false := by simpa using h1
    go_enter Tryd.func46, Tryd.ntmps46
    go_wp2
    go_ret
    exact ⟨by simp [coinG, inB, *], bel_alloc (Below.refl _ _) _⟩

end Go.Proofs.YthmdkbeccohjkaaDoor
