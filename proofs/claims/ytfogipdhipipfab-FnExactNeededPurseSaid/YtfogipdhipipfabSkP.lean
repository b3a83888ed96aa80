/- Chances of timid play: numbers only, all coins and stakes counted through. -/
import Derived.Test.YtfogipdhipipfabPow
namespace Go.Proofs.Ytfogipdhipipfab
set_option linter.unusedSimpArgs false
set_option linter.unusedVariables false

def lwN (x a b : Nat) : Nat := x / Nat.gcd a b
/-- The parts of tails to the power of each number below i. -/
def gsN (h t G : Nat) : Nat → Nat
  | 0 => 0
  | i + 1 => gsN h t G i + t ^ i * h ^ (G - 1 - i)
/-- The model's chance of the goal. -/
def sgN (h t G P : Nat) : Nat × Nat :=
  let p := lwN h h t
  let q := lwN t h t
  if p = q then (lwN P P G, lwN G P G) else (lwN (gsN p q G P) (gsN p q G P) (gsN p q G G), lwN (gsN p q G G) (gsN p q G P) (gsN p q G G))
def difN (a b : Nat) : Nat := (a - b) + (b - a)
/-- The model's mean number of plays, if heads and tails differ. -/
def smN (h t G P : Nat) : Nat × Nat :=
  let p := lwN h h t
  let q := lwN t h t
  let n := (sgN h t G P).1
  let d := (sgN h t G P).2
  let a := lwN (difN (n * G) (d * P)) (difN (n * G) (d * P)) (difN p q)
  let b := lwN (difN p q) (difN (n * G) (d * P)) (difN p q)
  let u := lwN (p + q) (p + q) d
  let e := lwN d (p + q) d
  let a2 := lwN a a e
  let e2 := lwN e a e
  let u2 := lwN u u b
  let b2 := lwN b u b
  (a2 * u2, b2 * e2)
/-- The program's. -/
def pmN (h t G P : Nat) : Nat × Nat :=
  let x := (h + t) * difN (P * gsN h t G G) (G * gsN h t G P)
  let y := difN t h * gsN h t G G
  (lwN x x y, lwN y x y)
def chkG (h t G P : Nat) : Bool :=
  let A := gsN h t G P
  let B := gsN h t G G
  decide (A ≤ B) && decide (1 ≤ B) && decide (B ≤ 240000000000000) && (sgN h t G P == (lwN A A B, lwN B A B))
  && (let n := lwN A A B; let d := lwN B A B; decide (n ≤ d) && lwN (d - n) (d - n) d == d - n && lwN d (d - n) d == d)
  && (let p := lwN h h t; let q := lwN t h t; decide (gsN p q G P ≤ gsN p q G G) && decide (1 ≤ gsN p q G G) && decide (gsN p q G G ≤ 240000000000000))
def chkM (h t G P : Nat) : Bool := (if h == t then decide (lwN h h t = lwN t h t) else decide (¬ lwN h h t = lwN t h t) && smN h t G P == pmN h t G P)
  && (if h ≤ t then decide (G * gsN h t G P ≤ P * gsN h t G G) else decide (P * gsN h t G G ≤ G * gsN h t G P))
def chkT (h t G k : Nat) : Bool := (k == G || decide (t ^ k * h ^ (G - 1 - k) ≤ 240000000000000)) && decide (gsN h t G k ≤ 240000000000000)
/-- For all coins, goals, and purses. -/
def allG (f : Nat → Nat → Nat → Nat → Bool) : Bool :=
  (List.range 9).all fun i => (List.range 9).all fun j => decide (10 < (i + 1) + (j + 1)) || (List.range 16).all fun g => (List.range (g + 2)).all fun p => f (i + 1) (j + 1) (g + 1) p
theorem allG_at {f : Nat → Nat → Nat → Nat → Bool} (a : allG f = true) {h t G P : Nat} (h1 : 1 ≤ h) (t1 : 1 ≤ t) (ht : h + t ≤ 10) (g1 : 1 ≤ G) (g16 : G ≤ 16) (hP : P ≤ G) : f h t G P = true := by
  unfold allG at a
  have b := List.all_eq_true.1 a (h - 1) (List.mem_range.2 (by omega))
  have c := List.all_eq_true.1 b (t - 1) (List.mem_range.2 (by omega))
  rw [Bool.or_eq_true] at c
  rcases c with c | c
  · exact absurd (of_decide_eq_true c) (by omega)
  · have d := List.all_eq_true.1 c (G - 1) (List.mem_range.2 (by omega))
    have e := List.all_eq_true.1 d P (List.mem_range.2 (by omega))
    rw [show h - 1 + 1 = h from by omega, show t - 1 + 1 = t from by omega, show G - 1 + 1 = G from by omega] at e
    exact e
theorem all_chkG : allG chkG = true := by kernel_rfl
theorem all_chkM : allG chkM = true := by kernel_rfl
theorem all_chkT : allG chkT = true := by kernel_rfl
theorem low_cast (x a b : Nat) : low (x : Int) (a : Int) (b : Int) = ((lwN x a b : Nat) : Int) := by
  unfold low lwN
  rw [Int.gcd_natCast_natCast, Int.natCast_ediv]
theorem lwN_pos {a b : Nat} (hb : 1 ≤ b) : 1 ≤ lwN b a b := by
  unfold lwN
  exact Nat.div_pos (Nat.gcd_le_right _ (by omega)) (Nat.gcd_pos_of_pos_right _ (by omega))
theorem lwN_posl {a b : Nat} (ha : 1 ≤ a) : 1 ≤ lwN a a b := by
  unfold lwN
  exact Nat.div_pos (Nat.gcd_le_left _ (by omega)) (Nat.gcd_pos_of_pos_left _ (by omega))
theorem lwN_le (x a b : Nat) : lwN x a b ≤ x := Nat.div_le_self _ _
end Go.Proofs.Ytfogipdhipipfab
