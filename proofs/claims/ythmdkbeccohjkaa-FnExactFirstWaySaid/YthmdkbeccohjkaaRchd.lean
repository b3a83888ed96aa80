/- ReachedStates: the contracts of the program and of its model. -/
import Derived.Test.YthmdkbeccohjkaaFar
namespace Go.Proofs.Ythmdkbeccohjkaa
set_option linter.unusedSimpArgs false
open Go.ChangeShapes Go.WideShapes Go.ChangeAt Go.RowKit
set_option linter.unusedVariables false

theorem ask1_ask2 (lim : Int) (m : List (List Int)) (f : Int) : (saG lim m && askB m.length [f]) = ask2 lim m f f := by simp [ask2, askB]
theorem selK_stop {p : Nat → Bool} {n M : Nat} (h : ∀ k, n ≤ k → k < M → p k = false) (hn : n ≤ M) : selK p M = selK p n := by
  induction M with
  | zero => have : n = 0 := by omega
            rw [this]
  | succ M ih =>
    rcases Nat.lt_or_ge M n with h1 | h1
    · have : n = M + 1 := by omega
      rw [this]
    · rw [selK_no (h M h1 (by omega))]
      exact ih (fun k a b => h k a (by omega)) h1
def rowM (h : Nat → Bool) : Array Value := #[.bool (h 0), .bool (h 1), .bool (h 2), .bool (h 3), .bool (h 4)]
theorem idx_rowM (h : Nat → Bool) (w : World) : ∀ i : Nat, i < 5 → (Instr.index 55 (.agg (rowM h)) (.int .i64 (i : Int))).run Try.prog w = .ok (.bool (h i)) w := by
  apply cases5 <;> kernel_rfl

def rchB (m : List (List Int)) (f : Nat) (k : Nat) : Bool := thr (edgeB m) m.length f k
def ansRch (lim : Int) (m : List (List Int)) (f : Int) : List Int := if ask2 lim m f f then selK (rchB m f.toNat) m.length else []
theorem ansRch_len (lim : Int) (m : List (List Int)) (f : Int) : (ansRch lim m f).length ≤ 1000 := by
  unfold ansRch
  split
  · rename_i h
    have := selK_len (rchB m f.toNat) m.length
    have := (ask2_good h).1.five
    omega
  · simp

end Go.Proofs.Ythmdkbeccohjkaa
