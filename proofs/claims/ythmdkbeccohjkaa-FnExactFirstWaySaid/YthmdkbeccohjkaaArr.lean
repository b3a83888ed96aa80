/- Laws for variables of an array's or a struct's type that are made, written and read whole, their cells being whatever: nothing is unrolled. -/
import Derived.Test.YthmdkbeccohjkaaSaG
import Derived.Test.YthmdkbeccohjkaaArg
import Derived.Laws.Tables
import Derived.Laws.Rows
import Derived.Deep.WholeRow
namespace Go.Proofs.Ythmdkbeccohjkaa
set_option linter.unusedSimpArgs false
open Go.ChangeShapes Go.WideShapes Go.ChangeAt Go.RowKit
set_option linter.unusedVariables false


/-- The cells of moves: Of, how many states there are, and the rows. -/
def mvC (lim many : Int) (g : Nat → Int) : Array Value := #[.int .i64 lim, .int .i64 many, .int .i64 (g 0), .int .i64 (g 1), .int .i64 (g 2), .int .i64 (g 3), .int .i64 (g 4), .int .i64 (g 5), .int .i64 (g 6), .int .i64 (g 7), .int .i64 (g 8), .int .i64 (g 9), .int .i64 (g 10), .int .i64 (g 11), .int .i64 (g 12), .int .i64 (g 13), .int .i64 (g 14), .int .i64 (g 15), .int .i64 (g 16), .int .i64 (g 17), .int .i64 (g 18), .int .i64 (g 19), .int .i64 (g 20), .int .i64 (g 21), .int .i64 (g 22), .int .i64 (g 23), .int .i64 (g 24)]
def zer : Nat → Int := fun _ => 0
def upd (g : Nat → Int) (q : Nat) (x : Int) : Nat → Int := fun p => if p = q then x else g p
theorem mvC_size (lim many : Int) (g : Nat → Int) : (mvC lim many g).size = 27 := rfl
theorem mvC_one (lim many : Int) (g : Nat → Int) : (mvC lim many g).all (·.oneCell') = true := by simp [mvC, Value.oneCell']
theorem cases25 {p : Nat → Prop} (h0 : p 0) (h1 : p 1) (h2 : p 2) (h3 : p 3) (h4 : p 4) (h5 : p 5) (h6 : p 6) (h7 : p 7) (h8 : p 8) (h9 : p 9) (h10 : p 10) (h11 : p 11) (h12 : p 12) (h13 : p 13) (h14 : p 14) (h15 : p 15) (h16 : p 16) (h17 : p 17) (h18 : p 18) (h19 : p 19) (h20 : p 20) (h21 : p 21) (h22 : p 22) (h23 : p 23) (h24 : p 24) : ∀ q, q < 25 → p q
  | 0, _ => h0 | 1, _ => h1 | 2, _ => h2 | 3, _ => h3 | 4, _ => h4 | 5, _ => h5 | 6, _ => h6 | 7, _ => h7 | 8, _ => h8 | 9, _ => h9 | 10, _ => h10 | 11, _ => h11 | 12, _ => h12
  | 13, _ => h13 | 14, _ => h14 | 15, _ => h15 | 16, _ => h16 | 17, _ => h17 | 18, _ => h18 | 19, _ => h19 | 20, _ => h20 | 21, _ => h21 | 22, _ => h22 | 23, _ => h23 | 24, _ => h24
  | n + 25, h => absurd h (by omega)
theorem mvC_get (lim many : Int) (g : Nat → Int) : ∀ q, q < 25 → (mvC lim many g)[2 + q]? = some (.int .i64 (g q)) := by
  apply cases25 <;> rfl
theorem mvC_set (lim many : Int) (g : Nat → Int) (x : Int) : ∀ q, q < 25 → (mvC lim many g).setIfInBounds (2 + q) (.int .i64 x) = mvC lim many (upd g q x) := by
  apply cases25 <;> rfl
theorem mv_info : (Try.prog.info? 45).map (·.size) = some 27 := by kernel_rfl
theorem mv_zero (w : World) : (zeroValue 45).run Try.prog w = .ok (.agg (mvC 0 0 zer)) w := Try.zeroValue45 w
theorem mv_built (x y : Int) : Try.prog.built 45 [(0, .int .i64 x), (1, .int .i64 y)] = some (mvC x y zer) := by kernel_rfl
theorem mv_built0 : Try.prog.built 45 [] = some (mvC 0 0 zer) := by kernel_rfl
/-- The rows of states as they lie in moves. -/
def gridM (m : List (List Int)) (q : Nat) : Int := atM m (q / 5) (q % 5)
end Go.Proofs.Ythmdkbeccohjkaa
