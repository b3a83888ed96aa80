/- Answers in lowest terms, powers, tails: of the program. -/
import Derived.Test.YthmdkbeccohjkaaDoorCn
import Derived.Deep.RegionHeld3
namespace Go.Proofs.YthmdkbeccohjkaaDoor
set_option linter.unusedSimpArgs false
open Go.ChangeShapes Go.WideShapes Go.ChangeAt Go.RowKit
set_option linter.unusedVariables false

def failV : Value := .tuple #[.int .i64 0, .int .i64 0, .bool false]
def lowV (num den : Int) : Value := .tuple #[.int .i64 (low num num den), .int .i64 (low den num den), .bool true]
theorem failV_form : ∃ (x y : Int) (o : Bool), failV = .tuple #[.int .i64 x, .int .i64 y, .bool o] := ⟨0, 0, false, rfl⟩
theorem lowV_form (n d : Int) : ∃ (x y : Int) (o : Bool), lowV n d = .tuple #[.int .i64 x, .int .i64 y, .bool o] := ⟨_, _, true, rfl⟩
theorem if_form (p : Bool) {u v : Value} (hu : ∃ (x y : Int) (o : Bool), u = .tuple #[.int .i64 x, .int .i64 y, .bool o]) (hv : ∃ (x y : Int) (o : Bool), v = .tuple #[.int .i64 x, .int .i64 y, .bool o]) :
    ∃ (x y : Int) (o : Bool), (if p then u else v) = .tuple #[.int .i64 x, .int .i64 y, .bool o] := by
  cases p
  · exact hv
  · exact hu

theorem ten_le (k : Nat) (h : k ≤ 9) : (10 : Int) ^ k ≤ 1000000000 := by
  match k, h with
  | 0, _ | 1, _ | 2, _ | 3, _ | 4, _ | 5, _ | 6, _ | 7, _ | 8, _ | 9, _ => decide
theorem ten_le8 (k : Nat) (h : k ≤ 8) : (10 : Int) ^ k ≤ 100000000 := by
  match k, h with
  | 0, _ | 1, _ | 2, _ | 3, _ | 4, _ | 5, _ | 6, _ | 7, _ | 8, _ => decide
theorem pow_le9 (p : Int) (h0 : 1 ≤ p) (h1 : p ≤ 10) (k : Nat) (hk : k ≤ 9) : 1 ≤ p ^ k ∧ p ^ k ≤ 1000000000 :=
  ⟨(pow_tn p h0 h1 k).1, Int.le_trans (pow_tn p h0 h1 k).2 (ten_le k hk)⟩
theorem pow_le8 (p : Int) (h0 : 1 ≤ p) (h1 : p ≤ 10) (k : Nat) (hk : k ≤ 8) : 1 ≤ p ^ k ∧ p ^ k ≤ 100000000 :=
  ⟨(pow_tn p h0 h1 k).1, Int.le_trans (pow_tn p h0 h1 k).2 (ten_le8 k hk)⟩
theorem prK_le8 {h o : Int} (g : coinG h o = true) (s : ByteArray) (k : Nat) (hk : k ≤ 8) : 1 ≤ prK h o s k ∧ prK h o s k ≤ 100000000 := by
  obtain ⟨a, b, c, d⟩ := coin_in g
  obtain ⟨e, f⟩ := prK_in h o s k a b d
  exact ⟨e, Int.le_trans f (ten_le8 k hk)⟩

set_option maxHeartbeats 400000 in
theorem power_any (p : Int) (n : Nat) (w : World) (h0 : 1 ≤ p) (h1 : p ≤ 10) (hn : n ≤ 9) :
    Calls Tryd.prog 58 #[.int .i64 p, .int .i64 n] w fun e w' => e = .returned (.int .i64 (p ^ n)) ∧ w = w' := by
  go_enter Tryd.func58, Tryd.ntmps58
  go_wp2
  go_loop [5, 7] (fun x i => ∃ k : Nat, k ≤ n ∧ i = .int .i64 k ∧ x = .int .i64 (p ^ k)) (fun _ i => n - (intOf i).toNat)
  case atStart => exact ⟨0, by omega, rfl, by simp⟩
  case round =>
    obtain ⟨k, hk, rfl, rfl⟩ := hrel
    obtain ⟨b0, b1⟩ := pow_le9 p h0 h1 k (by omega)
    by_cases hlt : k < n
    · obtain ⟨c0, c1⟩ := pow_le9 p h0 h1 (k + 1) (by omega)
      rw [Int.pow_succ] at c0 c1
      have hs := Lib.hid (Int.pow_succ p k)
      generalize p ^ k = q at *
      go_wp2
      exact ⟨⟨k + 1, by omega, by go_num, by rw [hs.out]⟩, by simp [intOf]; omega⟩
    · obtain rfl : k = n := by omega
      go_wp2
      go_ret
      exact ⟨rfl, rfl⟩

theorem tails_any (h o : Int) (w : World) (g : coinG h o = true) :
    Calls Tryd.prog 76 #[cn h o] w fun e w' => e = .returned (.int .i64 (o - h)) ∧ Below w.heap.size w w' := by
  obtain ⟨r1, r2, r3, r4⟩ := coin_in g
  have hw : IntKind.i64.wrap (o - h) = o - h := IntWalk.i64_in _ (by omega)
  go_enter Tryd.func76, Tryd.ntmps76
  go_wp2
  go_ret
  exact ⟨rfl, bel_alloc (Below.refl _ _) _⟩

end Go.Proofs.YthmdkbeccohjkaaDoor
