/- The chance of tosses, as the program and as its model tell it. -/
import Derived.Test.YtdfjfojkheikiaaDoorPt
import Derived.Test.YtdfjfojkheikiaaDoorPow
import Derived.Deep.RegionHeld3
namespace Go.Proofs.YtdfjfojkheikiaaDoor
set_option linter.unusedSimpArgs false
open Go.ChangeShapes Go.WideShapes Go.ChangeAt Go.RowKit
set_option linter.unusedVariables false

theorem count_any (s : ByteArray) (w : World) :
    Calls Tryd.prog 51 #[.string s, .string ⟨#[104]⟩] w fun e w' => e = .returned (.int .i64 (hds s s.size)) ∧ w = w' :=
  (Tryd.strings_Count_one s 104 w).mono fun _ _ ⟨a, b⟩ => ⟨by rw [hds_all]; exact a, b.symm⟩

set_option maxHeartbeats 1600000 in
theorem part_any (h o : Int) (s : ByteArray) (w : World) (g : coinG h o = true) (h8 : s.size ≤ 8) :
    Calls Tryd.prog 41 #[cn h o, .string s] w fun e w' => e = .returned (.int .i64 (prA h o s)) ∧ Below w.heap.size w w' := by
  obtain ⟨r1, r2, r3, r4⟩ := coin_in g
  have bx := Lib.hid (Box2.new w (.int .i64 h) (.int .i64 o) 45)
  have bl := bel_alloc (Below.refl _ w) (.cells #[.int .i64 h, .int .i64 o] 45)
  have hl := hds_le s s.size
  obtain ⟨p0, p1⟩ := prK_le8 g s s.size h8
  have hA : prA h o s = h ^ hds s s.size * (o - h) ^ (s.size - hds s s.size) := rfl
  have HA := Lib.hid hA
  unfold prK at p0 p1
  clear hA
  generalize hm : hds s s.size = m at *
  have Hm := Lib.hid hm
  clear hm
  have hw1 : IntKind.i64.wrap ((s.size : Int) - (m : Int)) = ((s.size - m : Nat) : Int) := by rw [IntWalk.i64_in _ (by omega)]; omega
  have hw2 : IntKind.i64.wrap (h ^ m * (o - h) ^ (s.size - m)) = h ^ m * (o - h) ^ (s.size - m) := IntWalk.i64_in _ (by omega)
  go_enter Tryd.func41, Tryd.ntmps41
  go_wp2_with fail
  refine (count_any s _).mono ?_
  rw [Hm.out]
  rintro e w1 ⟨rfl, rfl⟩
  go_wp2_with fail
  go_region_held3 (fun w' => w'.cell? ⟨w.heap.size, 0, none⟩ = some (.int .i64 h) ∧ w'.cell? ⟨w.heap.size, 1, none⟩ = some (.int .i64 o) ∧ w.heap.size < w'.heap.size ∧ Below w.heap.size w w')
    (first | exact held2_start bx.out bl | exact held2_keep (by assumption) hb5 | exact held2_drewN (by assumption) _ | assumption | go_keep)
    (first | (go_at_call_of 40 (Value.int IntKind.i64 h); refine (power_any h m _ r1 (by omega) (by omega)).mono ?_; rintro e w6 ⟨rfl, rfl⟩) | (go_at_call 52; refine (tails_any h o _ g).mono ?_; rintro e w5 ⟨rfl, hb5⟩) | (go_at_call_of 40 (Value.int IntKind.i64 (o - h)); refine (power_any (o - h) (s.size - m) _ (by omega) (by omega) (by omega)).mono ?_; rintro e w7 ⟨rfl, rfl⟩))
  all_goals
    obtain ⟨hbx9, hbl9⟩ := held2_below (by assumption)
    clear hbx9
    go_wp2
    go_ret
    exact ⟨by rw [HA.out]; rfl, hbl9⟩

set_option maxHeartbeats 1600000 in
theorem ptChance_any (h o : Int) (s : ByteArray) (w : World) (g : coinG h o = true) (ha : allT s = true) (h8 : s.size ≤ 8) :
    Calls Tryd.prog 37 #[cn h o, .string s] w fun e w' => e = .returned (.tuple #[.int .i64 (prA h o s), .int .i64 (o ^ s.size)]) ∧ Below w.heap.size w w' := by
  obtain ⟨r1, r2, r3, r4⟩ := coin_in g
  have bx := Lib.hid (Box2.new w (.int .i64 h) (.int .i64 o) 45)
  have G := Lib.hid g
  clear g ha
  go_enter Tryd.func37, Tryd.ntmps37
  go_wp2
  go_loopw [6, 7, 8] (fun x y i wr => ∃ k : Nat, k ≤ s.size ∧ i = .int .i64 k ∧ x = .int .i64 (prK h o s k) ∧ y = .int .i64 (o ^ k) ∧ Hid (Box2 wr w.heap.size (.int .i64 h) (.int .i64 o)) ∧ Below w.heap.size w wr) (fun _ _ i _ => s.size - (intOf i).toNat)
  case atStart => exact ⟨0, by omega, rfl, by rw [prK_zero], by simp, bx.out, bel_alloc (Below.refl _ _) _⟩
  case round =>
    obtain ⟨k, hk, rfl, rfl, rfl, hbx, hbl⟩ := hrel
    obtain ⟨b0, b1⟩ := prK_le8 G.out s k (by omega)
    obtain ⟨p0, p1⟩ := pow_le8 o (by omega) r4 k (by omega)
    by_cases hlt : k < s.size
    · obtain ⟨c0, c1⟩ := prK_le8 G.out s (k + 1) (by omega)
      obtain ⟨q0, q1⟩ := pow_le8 o (by omega) r4 (k + 1) (by omega)
      rw [Int.pow_succ] at q0 q1
      have Hps := Lib.hid (Int.pow_succ o k)
      obtain ⟨d0, d1, d2⟩ := hbx.out
      by_cases hc : s[k] = 104
      · have hc2 : (s[k].toNat : Int) = 104 := by rw [hc]; rfl
        have hfs := Lib.hid (prK_h h o s k hlt hc)
        rw [prK_h h o s k hlt hc] at c0 c1
        generalize prK h o s k = x at *
        generalize o ^ k = y at *
        have Hc := Lib.hid hc
        clear hc
        go_wp2_with fail
        repeat (go_quiet (fail); go_wp2_with fail)
        exact ⟨⟨k + 1, by omega, by go_num, by rw [hfs.out], by rw [Hps.out], hbx.out, by assumption⟩, by simp [intOf]; omega⟩
      · have hc2 : ¬ (s[k].toNat : Int) = 104 := by intro e; apply hc; apply UInt8.toNat.inj; show s[k].toNat = 104; omega
        have hfs := Lib.hid (prK_t h o s k hlt hc)
        rw [prK_t h o s k hlt hc] at c0 c1
        generalize prK h o s k = x at *
        generalize o ^ k = y at *
        have Hc := Lib.hid hc
        clear hc
        go_wp2_with fail
        repeat (go_quiet (fail); go_wp2_with fail)
        exact ⟨⟨k + 1, by omega, by go_num, by rw [hfs.out], by rw [Hps.out], hbx.out, by assumption⟩, by simp [intOf]; omega⟩
    · have hks : k = s.size := by omega
      have Hks := Lib.hid hks
      clear hks
      go_wp2
      go_ret2
      exact ⟨by unfold prA; rw [← Hks.out]; rfl, hbl⟩
end Go.Proofs.YtdfjfojkheikiaaDoor
