/- Leading numbers: contracts of the functions of the program and of its model that reckon them. -/
import Derived.Test.YtjckmnbpfmcadabDoorLdP
import Derived.Test.YtjckmnbpfmcadabDoorRac3
import Derived.Lib.OthersKept
namespace Go.Proofs.YtjckmnbpfmcadabDoor
set_option linter.unusedSimpArgs false
open Go.ChangeShapes Go.WideShapes Go.ChangeAt Go.RowKit
set_option linter.unusedVariables false

def rcG (h o : Int) : Bool := coinG h o && decide (o ≤ 4)
theorem rc_in {h o : Int} (g : rcG h o = true) : coinG h o = true ∧ 1 ≤ h ∧ h < o ∧ 2 ≤ o ∧ o ≤ 4 := by
  unfold rcG at g
  rw [Bool.and_eq_true, decide_eq_true_iff] at g
  obtain ⟨a, b, c, d⟩ := coin_in g.1
  exact ⟨g.1, a, b, c, g.2⟩
theorem isRaceCoin_any (h o : Int) (w : World) :
    Calls Tryd.prog 41 #[cn h o] w fun e w' => e = .returned (.bool (rcG h o)) ∧ Below w.heap.size w w' := by
  have bx := Lib.hid (Box2.new w (.int .i64 h) (.int .i64 o) 27)
  cases h1 : coinG h o
  · go_enter Tryd.func41, Tryd.ntmps41
    go_wp2_with fail
    refine (implIsCoin_any h o _).mono ?_
    rintro e w1 ⟨rfl, b1⟩
    obtain ⟨c0, c1, hk⟩ := bx.out.keep b1
    rw [h1]
    go_wp2_with fail
    go_ret
    exact ⟨by unfold rcG; rw [h1]; rfl, bel_trans (bel_alloc (Below.refl _ _) _) b1⟩
  · go_enter Tryd.func41, Tryd.ntmps41
    go_wp2_with fail
    refine (implIsCoin_any h o _).mono ?_
    rintro e w1 ⟨rfl, b1⟩
    obtain ⟨c0, c1, hk⟩ := bx.out.keep b1
    rw [h1]
    go_wp2_with fail
    go_ret
    exact ⟨by unfold rcG; rw [h1]; rfl, bel_trans (bel_alloc (Below.refl _ _) _) b1⟩
theorem raCoin_any (h o : Int) (w : World) :
    Calls Tryd.prog 36 #[cn h o] w fun e w' => e = .returned (.bool (rcG h o)) ∧ Below w.heap.size w w' := by
  have bx := Lib.hid (Box2.new w (.int .i64 h) (.int .i64 o) 27)
  cases h1 : coinG h o
  · go_enter Tryd.func36, Tryd.ntmps36
    go_wp2_with fail
    refine (ptCoin_any h o _).mono ?_
    rintro e w1 ⟨rfl, b1⟩
    obtain ⟨c0, c1, hk⟩ := bx.out.keep b1
    rw [h1]
    go_wp2_with fail
    go_ret
    exact ⟨by unfold rcG; rw [h1]; rfl, bel_trans (bel_alloc (Below.refl _ _) _) b1⟩
  · go_enter Tryd.func36, Tryd.ntmps36
    go_wp2_with fail
    refine (ptCoin_any h o _).mono ?_
    rintro e w1 ⟨rfl, b1⟩
    obtain ⟨c0, c1, hk⟩ := bx.out.keep b1
    rw [h1]
    go_wp2_with fail
    go_ret
    exact ⟨by unfold rcG; rw [h1]; rfl, bel_trans (bel_alloc (Below.refl _ _) _) b1⟩

/- The denominator. -/
theorem pow_ht (h o : Int) (h1 : 1 ≤ h) (h2 : h < o) (h3 : o ≤ 4) (k : Nat) (hk : k ≤ 5) : 1 ≤ (h * (o - h)) ^ k ∧ (h * (o - h)) ^ k ≤ 1024 := by
  obtain ⟨a, b⟩ := ht_in h o h1 h2 h3
  exact pow_f5 _ a b k hk
set_option maxHeartbeats 800000 in
theorem leadingOf_any (h o : Int) (n : Nat) (w : World) (g : rcG h o = true) (hn : n ≤ 5) :
    Calls Tryd.prog 45 #[cn h o, .int .i64 n] w fun e w' => e = .returned (.int .i64 ((h * (o - h)) ^ n)) ∧ Below w.heap.size w w' := by
  obtain ⟨g1, r1, r2, r3, r4⟩ := rc_in g
  obtain ⟨t1, t2⟩ := ht_in h o r1 r2 r4
  have bx := Lib.hid (Box2.new w (.int .i64 h) (.int .i64 o) 27)
  have bl := bel_alloc (Below.refl _ w) (.cells #[.int .i64 h, .int .i64 o] 27)
  have hw : IntKind.i64.wrap (h * (o - h)) = h * (o - h) := IntWalk.i64_in _ (by omega)
  go_enter Tryd.func45, Tryd.ntmps45
  go_wp2_with fail
  go_region_held3 (fun w' => w'.cell? ⟨w.heap.size, 0, none⟩ = some (.int .i64 h) ∧ w'.cell? ⟨w.heap.size, 1, none⟩ = some (.int .i64 o) ∧ w.heap.size < w'.heap.size ∧ Below w.heap.size w w')
    (first | exact held2_start bx.out bl | exact held2_keep (by assumption) hb5 | exact held2_drewN (by assumption) _ | assumption | go_keep)
    (first | (go_at_call 74; refine (tails_any h o _ g1).mono ?_; rintro e w5 ⟨rfl, hb5⟩) | (go_at_call 72; refine (power_any (h * (o - h)) n _ t1 (by omega) (by omega)).mono ?_; rintro e w7 ⟨rfl, rfl⟩))
  all_goals
    obtain ⟨hbx9, hbl9⟩ := held2_below (by assumption)
    clear hbx9
    go_wp2
    go_ret
    exact ⟨rfl, hbl9⟩
set_option maxHeartbeats 800000 in
theorem raAll_any (h o : Int) (n : Nat) (w : World) (g : rcG h o = true) (hn : n ≤ 5) :
    Calls Tryd.prog 40 #[cn h o, .int .i64 n] w fun e w' => e = .returned (.int .i64 ((h * (o - h)) ^ n)) ∧ Below w.heap.size w w' := by
  obtain ⟨g1, r1, r2, r3, r4⟩ := rc_in g
  obtain ⟨t1, t2⟩ := ht_in h o r1 r2 r4
  have bx := Lib.hid (Box2.new w (.int .i64 h) (.int .i64 o) 27)
  go_enter Tryd.func40, Tryd.ntmps40
  go_wp2
  go_loopw [1, 5] (fun i x wr => ∃ k : Nat, k ≤ n ∧ i = .int .i64 ((n - k : Nat) : Int) ∧ x = .int .i64 ((h * (o - h)) ^ k) ∧ Hid (Box2 wr w.heap.size (.int .i64 h) (.int .i64 o)) ∧ Below w.heap.size w wr) (fun i _ _ => (intOf i).toNat)
  case atStart => exact ⟨0, by omega, rfl, by simp, bx.out, bel_alloc (Below.refl _ _) _⟩
  case round =>
    obtain ⟨k, hk, rfl, rfl, hbx, hbl⟩ := hrel
    obtain ⟨b0, b1⟩ := pow_ht h o r1 r2 r4 k (by omega)
    obtain ⟨d0, d1, d2⟩ := hbx.out
    by_cases hlt : k < n
    · obtain ⟨c0, c1⟩ := pow_ht h o r1 r2 r4 (k + 1) (by omega)
      have hs := Lib.hid (Int.pow_succ (h * (o - h)) k)
      rw [Int.pow_succ] at c0 c1
      obtain ⟨m, hm⟩ : ∃ m, n - k = m + 1 := ⟨n - k - 1, by omega⟩
      have hm2 : n - (k + 1) = m := by omega
      rw [hm]
      have Hm2 := Lib.hid hm2
      have hm5 : m ≤ 5 := by omega
      clear hm hm2
      generalize (h * (o - h)) ^ k = x at *
      generalize hp : h * (o - h) = p at *
      have Hp := Lib.hid hp
      clear hp
      have hw1 : IntKind.i64.wrap (h * (o - h)) = p := by rw [Hp.out]; exact IntWalk.i64_in _ (by omega)
      have hw2 : IntKind.i64.wrap (x * p) = x * p := IntWalk.i64_in _ (by omega)
      go_wp2_with fail
      repeat (go_quiet (fail); go_wp2_with fail)
      exact ⟨⟨k + 1, by omega, by rw [Hm2.out], by rw [hs.out, ← Hp.out], hbx.out, by assumption⟩, by simp [intOf]⟩
    · obtain rfl : k = n := by omega
      rw [Nat.sub_self]
      go_wp2
      go_ret
      exact ⟨rfl, hbl⟩
end Go.Proofs.YtjckmnbpfmcadabDoor
