/- The chance of tosses, as the program and as its model tell it. -/
import Derived.Test.YtmjnmemoaglkeaaDoorPt
import Derived.Deep.RegionHeld3
namespace Go.Proofs.YtmjnmemoaglkeaaDoor
open Go.ChangeShapes Go.WideShapes Go.ChangeAt Go.RowKit
set_option linter.unusedVariables false

def failV : Value := .tuple #[.int .i64 0, .int .i64 0, .bool false]
def lowV (num den : Int) : Value := .tuple #[.int .i64 (low num num den), .int .i64 (low den num den), .bool true]
theorem failV_form : ∃ (x y : Int) (o : Bool), failV = .tuple #[.int .i64 x, .int .i64 y, .bool o] := ⟨0, 0, false, rfl⟩
theorem lowV_form (n d : Int) : ∃ (x y : Int) (o : Bool), lowV n d = .tuple #[.int .i64 x, .int .i64 y, .bool o] := ⟨_, _, true, rfl⟩
theorem if_form (p : Bool) {u v : Value} (hu : ∃ (x y : Int) (o : Bool), u = .tuple #[.int .i64 x, .int .i64 y, .bool o]) (hv : ∃ (x y : Int) (o : Bool), v = .tuple #[.int .i64 x, .int .i64 y, .bool o]) :
    ∃ (x y : Int) (o : Bool), (if p then u else v) = .tuple #[.int .i64 x, .int .i64 y, .bool o] := by
  cases p
  · exact hv
  · exact hu

theorem ten_le (k : Nat) (h : k ≤ 9) : (10 : Int) ^ k ≤ 1000000000 := by
  match k, h with
  | 0, _ | 1, _ | 2, _ | 3, _ | 4, _ | 5, _ | 6, _ | 7, _ | 8, _ | 9, _ => decide
theorem ten_le8 (k : Nat) (h : k ≤ 8) : (10 : Int) ^ k ≤ 100000000 := by
  match k, h with
  | 0, _ | 1, _ | 2, _ | 3, _ | 4, _ | 5, _ | 6, _ | 7, _ | 8, _ => decide
theorem pow_le9 (p : Int) (h0 : 1 ≤ p) (h1 : p ≤ 10) (k : Nat) (hk : k ≤ 9) : 1 ≤ p ^ k ∧ p ^ k ≤ 1000000000 :=
  ⟨(pow_tn p h0 h1 k).1, Int.le_trans (pow_tn p h0 h1 k).2 (ten_le k hk)⟩
theorem pow_le8 (p : Int) (h0 : 1 ≤ p) (h1 : p ≤ 10) (k : Nat) (hk : k ≤ 8) : 1 ≤ p ^ k ∧ p ^ k ≤ 100000000 :=
  ⟨(pow_tn p h0 h1 k).1, Int.le_trans (pow_tn p h0 h1 k).2 (ten_le8 k hk)⟩
theorem prK_le8 {h o : Int} (g : coinG h o = true) (s : ByteArray) (k : Nat) (hk : k ≤ 8) : 1 ≤ prK h o s k ∧ prK h o s k ≤ 100000000 := by
  obtain ⟨a, b, c, d⟩ := coin_in g
  obtain ⟨e, f⟩ := prK_in h o s k a b d
  exact ⟨e, Int.le_trans f (ten_le8 k hk)⟩

set_option maxHeartbeats 400000 in
theorem power_any (p : Int) (n : Nat) (w : World) (h0 : 1 ≤ p) (h1 : p ≤ 10) (hn : n ≤ 9) :
    Calls Tryd.prog 53 #[.int .i64 p, .int .i64 n] w fun e w' => e = .returned (.int .i64 (p ^ n)) ∧ w = w' := by
  go_enter Tryd.func53, Tryd.ntmps53
  go_wp2
  go_loop [5, 7] (fun x i => ∃ k : Nat, k ≤ n ∧ i = .int .i64 k ∧ x = .int .i64 (p ^ k)) (fun _ i => n - (intOf i).toNat)
  case atStart => exact ⟨0, by omega, rfl, by simp⟩
  case round =>
    obtain ⟨k, hk, rfl, rfl⟩ := hrel
    obtain ⟨b0, b1⟩ := pow_le9 p h0 h1 k (by omega)
    by_cases hlt : k < n
    · obtain ⟨c0, c1⟩ := pow_le9 p h0 h1 (k + 1) (by omega)
      rw [Int.pow_succ] at c0 c1
      have hs := Lib.hid (Int.pow_succ p k)
      generalize p ^ k = q at *
      go_wp2
      exact ⟨⟨k + 1, by omega, by go_num, by rw [hs.out]⟩, by simp [intOf]; omega⟩
    · obtain rfl : k = n := by omega
      go_wp2
      go_ret
      exact ⟨rfl, rfl⟩

theorem tails_any (h o : Int) (w : World) (g : coinG h o = true) :
    Calls Tryd.prog 52 #[cn h o] w fun e w' => e = .returned (.int .i64 (o - h)) ∧ Below w.heap.size w w' := by
  obtain ⟨r1, r2, r3, r4⟩ := coin_in g
  have hw : IntKind.i64.wrap (o - h) = o - h := IntWalk.i64_in _ (by omega)
  go_enter Tryd.func52, Tryd.ntmps52
  go_wp2
  go_ret
  exact ⟨rfl, bel_alloc (Below.refl _ _) _⟩

theorem count_any (s : ByteArray) (w : World) :
    Calls Tryd.prog 115 #[.string s, .string ⟨#[104]⟩] w fun e w' => e = .returned (.int .i64 (hds s s.size)) ∧ w = w' :=
  (Tryd.strings_Count_one s 104 w).mono fun _ _ ⟨a, b⟩ => ⟨by rw [hds_all]; exact a, b.symm⟩

set_option maxHeartbeats 1600000 in
theorem part_any (h o : Int) (s : ByteArray) (w : World) (g : coinG h o = true) (h8 : s.size ≤ 8) :
    Calls Tryd.prog 106 #[cn h o, .string s] w fun e w' => e = .returned (.int .i64 (prA h o s)) ∧ Below w.heap.size w w' := by
  obtain ⟨r1, r2, r3, r4⟩ := coin_in g
  have bx := Lib.hid (Box2.new w (.int .i64 h) (.int .i64 o) 39)
  have bl := bel_alloc (Below.refl _ w) (.cells #[.int .i64 h, .int .i64 o] 39)
  have hl := hds_le s s.size
  obtain ⟨p0, p1⟩ := prK_le8 g s s.size h8
  have hA : prA h o s = h ^ hds s s.size * (o - h) ^ (s.size - hds s s.size) := rfl
  have HA := Lib.hid hA
  unfold prK at p0 p1
  clear hA
  generalize hm : hds s s.size = m at *
  have Hm := Lib.hid hm
  clear hm
  have hw1 : IntKind.i64.wrap ((s.size : Int) - (m : Int)) = ((s.size - m : Nat) : Int) := by rw [IntWalk.i64_in _ (by omega)]; omega
  have hw2 : IntKind.i64.wrap (h ^ m * (o - h) ^ (s.size - m)) = h ^ m * (o - h) ^ (s.size - m) := IntWalk.i64_in _ (by omega)
  go_enter Tryd.func106, Tryd.ntmps106
  go_wp2_with fail
  refine (count_any s _).mono ?_
  rw [Hm.out]
  rintro e w1 ⟨rfl, rfl⟩
  go_wp2_with fail
  go_region_held3 (fun w' => w'.cell? ⟨w.heap.size, 0, none⟩ = some (.int .i64 h) ∧ w'.cell? ⟨w.heap.size, 1, none⟩ = some (.int .i64 o) ∧ w.heap.size < w'.heap.size ∧ Below w.heap.size w w')
    (first | exact held2_start bx.out bl | exact held2_keep (by assumption) hb5 | exact held2_drewN (by assumption) _ | assumption | go_keep)
    (first | (go_at_call_of 53 (Value.int IntKind.i64 h); refine (power_any h m _ r1 (by omega) (by omega)).mono ?_; rintro e w6 ⟨rfl, rfl⟩) | (go_at_call 52; refine (tails_any h o _ g).mono ?_; rintro e w5 ⟨rfl, hb5⟩) | (go_at_call_of 53 (Value.int IntKind.i64 (o - h)); refine (power_any (o - h) (s.size - m) _ (by omega) (by omega) (by omega)).mono ?_; rintro e w7 ⟨rfl, rfl⟩))
  all_goals
    obtain ⟨hbx9, hbl9⟩ := held2_below (by assumption)
    clear hbx9
    go_wp2
    go_ret
    exact ⟨by rw [HA.out]; rfl, hbl9⟩

end Go.Proofs.YtmjnmemoaglkeaaDoor
