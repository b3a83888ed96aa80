/- Answers in lowest terms, powers, tails: of the program. -/
import Derived.Test.YtdfjfojkheikiaaGreatDoorCn
import Derived.Deep.RegionHeld3
namespace Go.Proofs.YtdfjfojkheikiaaGreatDoor
set_option linter.unusedSimpArgs false
open Go.ChangeShapes Go.WideShapes Go.ChangeAt Go.RowKit
set_option linter.unusedVariables false

def failV : Value := .tuple #[.int .i64 0, .int .i64 0, .bool false]
def lowV (num den : Int) : Value := .tuple #[.int .i64 (low num num den), .int .i64 (low den num den), .bool true]
theorem failV_form : ∃ (x y : Int) (o : Bool), failV = .tuple #[.int .i64 x, .int .i64 y, .bool o] := ⟨0, 0, false, rfl⟩
theorem lowV_form (n d : Int) : ∃ (x y : Int) (o : Bool), lowV n d = .tuple #[.int .i64 x, .int .i64 y, .bool o] := ⟨_, _, true, rfl⟩
theorem if_form (p : Bool) {u v : Value} (hu : ∃ (x y : Int) (o : Bool), u = .tuple #[.int .i64 x, .int .i64 y, .bool o]) (hv : ∃ (x y : Int) (o : Bool), v = .tuple #[.int .i64 x, .int .i64 y, .bool o]) :
    ∃ (x y : Int) (o : Bool), (if p then u else v) = .tuple #[.int .i64 x, .int .i64 y, .bool o] := by
  cases p
  · exact hv
  · exact hu

theorem ten_le (k : Nat) (h : k ≤ 9) : (10 : Int) ^ k ≤ 1000000000 := by
  match k, h with
  | 0, _ | 1, _ | 2, _ | 3, _ | 4, _ | 5, _ | 6, _ | 7, _ | 8, _ | 9, _ => decide
theorem ten_le8 (k : Nat) (h : k ≤ 8) : (10 : Int) ^ k ≤ 100000000 := by
  match k, h with
  | 0, _ | 1, _ | 2, _ | 3, _ | 4, _ | 5, _ | 6, _ | 7, _ | 8, _ => decide
theorem pow_le9 (p : Int) (h0 : 1 ≤ p) (h1 : p ≤ 10) (k : Nat) (hk : k ≤ 9) : 1 ≤ p ^ k ∧ p ^ k ≤ 1000000000 :=
  ⟨(pow_tn p h0 h1 k).1, Int.le_trans (pow_tn p h0 h1 k).2 (ten_le k hk)⟩
theorem pow_le8 (p : Int) (h0 : 1 ≤ p) (h1 : p ≤ 10) (k : Nat) (hk : k ≤ 8) : 1 ≤ p ^ k ∧ p ^ k ≤ 100000000 :=
  ⟨(pow_tn p h0 h1 k).1, Int.le_trans (pow_tn p h0 h1 k).2 (ten_le8 k hk)⟩
theorem prK_le8 {h o : Int} (g : coinG h o = true) (s : ByteArray) (k : Nat) (hk : k ≤ 8) : 1 ≤ prK h o s k ∧ prK h o s k ≤ 100000000 := by
  obtain ⟨a, b, c, d⟩ := coin_in g
  obtain ⟨e, f⟩ := prK_in h o s k a b d
  exact ⟨e, Int.le_trans f (ten_le8 k hk)⟩

end Go.Proofs.YtdfjfojkheikiaaGreatDoor
