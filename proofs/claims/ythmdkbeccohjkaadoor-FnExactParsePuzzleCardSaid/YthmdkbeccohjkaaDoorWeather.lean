/- Contracts of the methods of a weather: a chain with a day. -/
import Derived.Test.YthmdkbeccohjkaaDoorDays
import Derived.Deep.RegionHeld3
namespace Go.Proofs.YthmdkbeccohjkaaDoor
set_option linter.unusedSimpArgs false
open Go.ChangeShapes Go.WideShapes Go.ChangeAt Go.RowKit
set_option linter.unusedVariables false

abbrev wth (a b c d : Int) : Value := .agg #[.int .i64 a, .int .i64 b, .int .i64 c, .int .u8 d]
/-- The chance that the other weather follows, in parts of c. -/
def chg (a b d : Int) : Int := if d = 100 then a else b

theorem chg_dry (a b : Int) : chg a b 100 = a := by simp [chg]
theorem chg_wet (a b : Int) : chg a b 119 = b := by simp [chg]

def Box4 (w : World) (k : Nat) (x y z u : Value) : Prop := w.cell? ⟨k, 0, none⟩ = some x ∧ w.cell? ⟨k, 1, none⟩ = some y ∧ w.cell? ⟨k, 2, none⟩ = some z ∧ w.cell? ⟨k, 3, none⟩ = some u ∧ k < w.heap.size
theorem Box4.new (w : World) (x y z u : Value) (t : TypeId) : Box4 (w.alloc (.cells #[x, y, z, u] t)) w.heap.size x y z u := by
  refine ⟨?_, ?_, ?_, ?_, ?_⟩ <;> simp [go_sem]
theorem Box4.keep {w w1 : World} {k : Nat} {x y z u : Value} (h : Box4 w k x y z u) (hb : Below w.heap.size w w1) : Box4 w1 k x y z u :=
  ⟨(hb.cell (p := ⟨k, 0, none⟩) h.2.2.2.2).trans h.1, (hb.cell (p := ⟨k, 1, none⟩) h.2.2.2.2).trans h.2.1, (hb.cell (p := ⟨k, 2, none⟩) h.2.2.2.2).trans h.2.2.1, (hb.cell (p := ⟨k, 3, none⟩) h.2.2.2.2).trans h.2.2.2.1, Nat.lt_of_lt_of_le h.2.2.2.2 hb.size⟩

def dayV (d : Int) : Prop := d = 100 ∨ d = 119
def inR (a b c : Int) : Prop := 0 ≤ a ∧ a ≤ c ∧ 0 ≤ b ∧ b ≤ c ∧ 1 ≤ c ∧ c ≤ 10
theorem chg_in {a b c : Int} (h : inR a b c) (d : Int) : 0 ≤ chg a b d ∧ chg a b d ≤ c := by
  unfold inR at h; unfold chg; split <;> omega

/-- What a drawn region knows of the block k that the call has made, and of the world w in which the call began. -/
theorem held_new {w : World} {x y z u : Value} {t : TypeId} : let W := (w.alloc (.cells #[x, y, z, u] t)).drew
    W.cell? ⟨w.heap.size, 0, none⟩ = some x ∧ W.cell? ⟨w.heap.size, 1, none⟩ = some y ∧ W.cell? ⟨w.heap.size, 2, none⟩ = some z ∧ W.cell? ⟨w.heap.size, 3, none⟩ = some u ∧ w.heap.size < W.heap.size ∧ Below w.heap.size w W := by
  have bx := Box4.new w x y z u t
  exact ⟨bx.1, bx.2.1, bx.2.2.1, bx.2.2.2.1, bx.2.2.2.2, (bel_alloc (Below.refl _ _) _).drew⟩
theorem held_keep {w W w1 : World} {k : Nat} {x y z u : Value} (h : W.cell? ⟨k, 0, none⟩ = some x ∧ W.cell? ⟨k, 1, none⟩ = some y ∧ W.cell? ⟨k, 2, none⟩ = some z ∧ W.cell? ⟨k, 3, none⟩ = some u ∧ k < W.heap.size ∧ Below w.heap.size w W)
    (hb : Below W.heap.size W w1) : w1.cell? ⟨k, 0, none⟩ = some x ∧ w1.cell? ⟨k, 1, none⟩ = some y ∧ w1.cell? ⟨k, 2, none⟩ = some z ∧ w1.cell? ⟨k, 3, none⟩ = some u ∧ k < w1.heap.size ∧ Below w.heap.size w w1 := by
  have b : Box4 w1 k x y z u := Box4.keep ⟨h.1, h.2.1, h.2.2.1, h.2.2.2.1, h.2.2.2.2.1⟩ hb
  exact ⟨b.1, b.2.1, b.2.2.1, b.2.2.2.1, b.2.2.2.2, bel_trans h.2.2.2.2.2 hb⟩

theorem held_below {w W : World} {k : Nat} {x y z u : Value} (h : W.cell? ⟨k, 0, none⟩ = some x ∧ W.cell? ⟨k, 1, none⟩ = some y ∧ W.cell? ⟨k, 2, none⟩ = some z ∧ W.cell? ⟨k, 3, none⟩ = some u ∧ k < W.heap.size ∧ Below w.heap.size w W) : Below w.heap.size w W := h.2.2.2.2.2

/-- The chance that the day e follows the day d, in parts of c. -/
def stp (a b c d e : Int) : Int := if d = e then c - chg a b d else chg a b d

end Go.Proofs.YthmdkbeccohjkaaDoor
