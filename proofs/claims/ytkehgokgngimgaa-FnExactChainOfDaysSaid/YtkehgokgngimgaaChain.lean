/- ChainOfDays: the contracts of the program and of its model, and the law's walk. -/
import Derived.Test.YtkehgokgngimgaaChanges
namespace Go.Proofs.Ytkehgokgngimgaa
open Go.ChangeShapes Go.WideShapes Go.ChangeAt Go.RowKit
set_option linter.unusedVariables false

def okChain (s : ByteArray) : Bool := daysB s && (!((chg4 s s.size).1 + (chg4 s s.size).2.1 == 0) && !((chg4 s s.size).2.2.1 + (chg4 s s.size).2.2.2 == 0))
def ansChain (s : ByteArray) : List Int := if okChain s then
  [low (chg4 s s.size).2.1 (chg4 s s.size).2.1 ((chg4 s s.size).1 + (chg4 s s.size).2.1), low ((chg4 s s.size).1 + (chg4 s s.size).2.1) (chg4 s s.size).2.1 ((chg4 s s.size).1 + (chg4 s s.size).2.1),
   low (chg4 s s.size).2.2.1 (chg4 s s.size).2.2.1 ((chg4 s s.size).2.2.1 + (chg4 s s.size).2.2.2), low ((chg4 s s.size).2.2.1 + (chg4 s s.size).2.2.2) (chg4 s s.size).2.2.1 ((chg4 s s.size).2.2.1 + (chg4 s s.size).2.2.2)] else []
theorem ansChain_len (s : ByteArray) : (ansChain s).length ≤ 1000 := by unfold ansChain; split <;> simp
theorem ansChain_no {s : ByteArray} (h : okChain s = false) : ansChain s = [] := by unfold ansChain; rw [h]; rfl
theorem IRow.four {w W : World} {v : Value} {x0 x1 x2 x3 : Int} (h : IRow W w.heap.size v [x0, x1, x2, x3]) : ∃ g cap, v = .slice (some ⟨g, 0, none⟩) 4 cap ∧ 4 ≤ cap ∧
    W.cell? ⟨g, 0, none⟩ = some (.int .i64 x0) ∧ W.cell? ⟨g, 1, none⟩ = some (.int .i64 x1) ∧ W.cell? ⟨g, 2, none⟩ = some (.int .i64 x2) ∧ W.cell? ⟨g, 3, none⟩ = some (.int .i64 x3) := by
  rcases h.form with ⟨hx, _⟩ | ⟨_, g, cap, rfl, _, _, hl, _⟩
  · simp at hx
  · exact ⟨g, cap, rfl, hl, h.at_ 0 (by simp), h.at_ 1 (by simp), h.at_ 2 (by simp), h.at_ 3 (by simp)⟩
theorem row_new {w W : World} {x0 x1 x2 x3 : Int} (hb : Below w.heap.size w W) : IRow (W.alloc (.cells #[.int .i64 x0, .int .i64 x1, .int .i64 x2, .int .i64 x3] 3)) w.heap.size (.slice (some ⟨W.heap.size, 0, none⟩) 4 4) [x0, x1, x2, x3] :=
  row4 (heap_alloc_new W _) hb.size

set_option maxHeartbeats 1600000 in
theorem specChain_any (s : ByteArray) (w : World) (hs : s.size ≤ maxLen) :
    Calls Try.prog 52 #[.string s] w (RowAns (ansChain s) (okChain s) w) := by
  cases h2 : daysB s
  · have h0 : okChain s = false := by unfold okChain; rw [h2]; rfl
    rw [ansChain_no h0, h0]
    go_enter Try.func52, Try.ntmps52
    go_wp2_with fail
    refine (cnDays_any s _ hs).mono ?_
    rintro e w8 ⟨rfl, rfl⟩
    rw [h2]
    go_wp2_with fail
    go_ret2
    exact ⟨_, rfl, IRow.nil _ _, Below.refl _ _⟩
  · obtain ⟨g1, g2, g3⟩ := days_size h2
    obtain ⟨p0, p1, p2, p3, b0, b1, b2, b3⟩ := chg4_in s s.size
    have hok : okChain s = (!((chg4 s s.size).1 + (chg4 s s.size).2.1 == 0) && !((chg4 s s.size).2.2.1 + (chg4 s s.size).2.2.2 == 0)) := by unfold okChain; rw [h2]; rfl
    have hans : ansChain s = if okChain s then [low (chg4 s s.size).2.1 (chg4 s s.size).2.1 ((chg4 s s.size).1 + (chg4 s s.size).2.1), low ((chg4 s s.size).1 + (chg4 s s.size).2.1) (chg4 s s.size).2.1 ((chg4 s s.size).1 + (chg4 s s.size).2.1), low (chg4 s s.size).2.2.1 (chg4 s s.size).2.2.1 ((chg4 s s.size).2.2.1 + (chg4 s s.size).2.2.2), low ((chg4 s s.size).2.2.1 + (chg4 s s.size).2.2.2) (chg4 s s.size).2.2.1 ((chg4 s s.size).2.2.1 + (chg4 s s.size).2.2.2)] else [] := rfl
    rw [hans, hok]
    clear hok hans
    have HC := Lib.hid (cnChanges_any s w g2 g1 g3)
    generalize (chg4 s s.size).1 = x0 at *
    generalize (chg4 s s.size).2.1 = x1 at *
    generalize (chg4 s s.size).2.2.1 = x2 at *
    generalize (chg4 s s.size).2.2.2 = x3 at *
    have wa : IntKind.i64.wrap (x0 + x1) = x0 + x1 := IntWalk.i64_in _ (by omega)
    have wb : IntKind.i64.wrap (x2 + x3) = x2 + x3 := IntWalk.i64_in _ (by omega)
    cases z1 : (x0 + x1 == 0)
    · have y1 : 1 ≤ x0 + x1 := by simp at z1; omega
      cases z2 : (x2 + x3 == 0)
      · have y2 : 1 ≤ x2 + x3 := by simp at z2; omega
        go_enter Try.func52, Try.ntmps52
        go_wp2_with fail
        refine (cnDays_any s _ hs).mono ?_
        rintro e w8 ⟨rfl, rfl⟩
        rw [h2]
        go_wp2_with fail
        refine HC.out.mono ?_
        rintro e w9 ⟨v, rfl, hv, hb⟩
        obtain ⟨g, cap, rfl, hcap, c0, c1, c2, c3⟩ := hv.four
        clear hv
        have i0 : (0 : Int) < 4 := by omega
        go_wp2_with fail
        go_quiet (fail)
        go_wp2_with fail
        go_region_held3 (fun w' => w'.cell? ⟨g, 0, none⟩ = some (.int .i64 x0) ∧ w'.cell? ⟨g, 1, none⟩ = some (.int .i64 x1) ∧ w'.cell? ⟨g, 2, none⟩ = some (.int .i64 x2) ∧ w'.cell? ⟨g, 3, none⟩ = some (.int .i64 x3)) (first | exact ⟨c0, c1, c2, c3⟩ | assumption | go_keep) (first | (go_at_call 62; refine (cnLow_any x1 (x0 + x1) _ p1 y1 (by omega) (by omega)).mono ?_; rintro e wa1 ⟨rfl, na1, rfl⟩))
        go_wp2_with fail
        go_region_held3 (fun w' => w'.cell? ⟨g, 0, none⟩ = some (.int .i64 x0) ∧ w'.cell? ⟨g, 1, none⟩ = some (.int .i64 x1) ∧ w'.cell? ⟨g, 2, none⟩ = some (.int .i64 x2) ∧ w'.cell? ⟨g, 3, none⟩ = some (.int .i64 x3)) (first | exact ⟨c0, c1, c2, c3⟩ | assumption | go_keep) (first | (go_at_call 62; refine (cnLow_any x2 (x2 + x3) _ p2 y2 (by omega) (by omega)).mono ?_; rintro e wa2 ⟨rfl, na2, rfl⟩))
        go_wp2_with fail
        go_ret2
        exact ⟨_, rfl, row_new (bel_drewN hb _), bel_alloc (bel_drewN hb _) _⟩
      · skip
        go_enter Try.func52, Try.ntmps52
        go_wp2_with fail
        refine (cnDays_any s _ hs).mono ?_
        rintro e w8 ⟨rfl, rfl⟩
        rw [h2]
        go_wp2_with fail
        refine HC.out.mono ?_
        rintro e w9 ⟨v, rfl, hv, hb⟩
        obtain ⟨g, cap, rfl, hcap, c0, c1, c2, c3⟩ := hv.four
        clear hv
        have i0 : (0 : Int) < 4 := by omega
        go_wp2_with fail
        go_quiet (fail)
        go_wp2_with fail
        go_ret2
        exact ⟨_, rfl, IRow.nil _ _, bel_drewN hb _⟩
    · skip
      go_enter Try.func52, Try.ntmps52
      go_wp2_with fail
      refine (cnDays_any s _ hs).mono ?_
      rintro e w8 ⟨rfl, rfl⟩
      rw [h2]
      go_wp2_with fail
      refine HC.out.mono ?_
      rintro e w9 ⟨v, rfl, hv, hb⟩
      obtain ⟨g, cap, rfl, hcap, c0, c1, c2, c3⟩ := hv.four
      clear hv
      have i0 : (0 : Int) < 4 := by omega
      go_wp2_with fail
      go_quiet (fail)
      go_wp2_with fail
      go_ret2
      exact ⟨_, rfl, IRow.nil _ _, bel_drewN hb _⟩

set_option maxHeartbeats 1600000 in
theorem implChain_any (s : ByteArray) (w : World) (hs : s.size ≤ maxLen) :
    Calls Try.prog 53 #[.string s] w (RowAns (ansChain s) (okChain s) w) := by
  cases h2 : daysB s
  · have h0 : okChain s = false := by unfold okChain; rw [h2]; rfl
    rw [ansChain_no h0, h0]
    go_enter Try.func53, Try.ntmps53
    go_wp2_with fail
    refine (implChanges_any s _ hs).mono ?_
    rw [h2, ansChanges_no h2]
    rintro e w9 ⟨v, rfl, hv, hb⟩
    have Hb := hb
    clear hv
    go_wp2_with fail
    go_ret2
    exact ⟨_, rfl, IRow.nil _ _, hb⟩
  · obtain ⟨g1, g2, g3⟩ := days_size h2
    obtain ⟨p0, p1, p2, p3, b0, b1, b2, b3⟩ := chg4_in s s.size
    have hok : okChain s = (!((chg4 s s.size).1 + (chg4 s s.size).2.1 == 0) && !((chg4 s s.size).2.2.1 + (chg4 s s.size).2.2.2 == 0)) := by unfold okChain; rw [h2]; rfl
    have hans : ansChain s = if okChain s then [low (chg4 s s.size).2.1 (chg4 s s.size).2.1 ((chg4 s s.size).1 + (chg4 s s.size).2.1), low ((chg4 s s.size).1 + (chg4 s s.size).2.1) (chg4 s s.size).2.1 ((chg4 s s.size).1 + (chg4 s s.size).2.1), low (chg4 s s.size).2.2.1 (chg4 s s.size).2.2.1 ((chg4 s s.size).2.2.1 + (chg4 s s.size).2.2.2), low ((chg4 s s.size).2.2.1 + (chg4 s s.size).2.2.2) (chg4 s s.size).2.2.1 ((chg4 s s.size).2.2.1 + (chg4 s s.size).2.2.2)] else [] := rfl
    rw [hans, hok]
    clear hok hans
    have HC := Lib.hid (implChanges_any s w hs)
    have HY := Lib.hid (ansChanges_yes h2)
    generalize (chg4 s s.size).1 = x0 at *
    generalize (chg4 s s.size).2.1 = x1 at *
    generalize (chg4 s s.size).2.2.1 = x2 at *
    generalize (chg4 s s.size).2.2.2 = x3 at *
    have wa : IntKind.i64.wrap (x0 + x1) = x0 + x1 := IntWalk.i64_in _ (by omega)
    have wb : IntKind.i64.wrap (x2 + x3) = x2 + x3 := IntWalk.i64_in _ (by omega)
    cases z1 : (x0 + x1 == 0)
    · have y1 : 1 ≤ x0 + x1 := by simp at z1; omega
      cases z2 : (x2 + x3 == 0)
      · have y2 : 1 ≤ x2 + x3 := by simp at z2; omega
        go_enter Try.func53, Try.ntmps53
        go_wp2_with fail
        refine HC.out.mono ?_
        rw [h2, HY.out]
        rintro e w9 ⟨v, rfl, hv, hb⟩
        obtain ⟨g, cap, rfl, hcap, c0, c1, c2, c3⟩ := hv.four
        clear hv
        have i0 : (0 : Int) < 4 := by omega
        go_wp2_with fail
        go_quiet (fail)
        go_wp2_with fail
        refine (lowestTerms_any x1 (x0 + x1) _ p1 y1 (by omega) (by omega)).mono ?_
        rintro e wa1 ⟨rfl, na1, rfl⟩
        go_wp2_with fail
        refine (lowestTerms_any x2 (x2 + x3) _ p2 y2 (by omega) (by omega)).mono ?_
        rintro e wa2 ⟨rfl, na2, rfl⟩
        go_wp2_with fail
        go_ret2
        exact ⟨_, rfl, row_new (bel_drewN hb _), bel_alloc (bel_drewN hb _) _⟩
      · skip
        go_enter Try.func53, Try.ntmps53
        go_wp2_with fail
        refine HC.out.mono ?_
        rw [h2, HY.out]
        rintro e w9 ⟨v, rfl, hv, hb⟩
        obtain ⟨g, cap, rfl, hcap, c0, c1, c2, c3⟩ := hv.four
        clear hv
        have i0 : (0 : Int) < 4 := by omega
        go_wp2_with fail
        go_quiet (fail)
        go_wp2_with fail
        go_ret2
        exact ⟨_, rfl, IRow.nil _ _, bel_drewN hb _⟩
    · skip
      go_enter Try.func53, Try.ntmps53
      go_wp2_with fail
      refine HC.out.mono ?_
      rw [h2, HY.out]
      rintro e w9 ⟨v, rfl, hv, hb⟩
      obtain ⟨g, cap, rfl, hcap, c0, c1, c2, c3⟩ := hv.four
      clear hv
      have i0 : (0 : Int) < 4 := by omega
      go_wp2_with fail
      go_quiet (fail)
      go_wp2_with fail
      go_ret2
      exact ⟨_, rfl, IRow.nil _ _, bel_drewN hb _⟩

set_option maxHeartbeats 1600000 in
theorem walkExactChainOfDays (s : ByteArray) (w : World) (hs : s.size ≤ maxLen) :
    Calls Try.prog 17 #[.string s] w fun e w' => e = .returned (.bool true) ∧ Below w.heap.size w w' := by
  by_cases z : s.size ≤ 1048576
  · have hlen : (ansChain s).length ≤ 1000 := ansChain_len s
    generalize hxs : ansChain s = xs at *
    have Hxs := Lib.hid hxs
    clear hxs
    generalize hok : okChain s = ok at *
    have Hok := Lib.hid hok
    clear hok
    go_enter Try.func17, Try.ntmps17
    go_wp2_with fail
    refine (specChain_any s _ hs).mono ?_
    rw [Hxs.out, Hok.out]
    rintro e w1 ⟨v0, rfl, r0, bl1⟩
    have R0 := Lib.hid r0
    clear r0
    go_wp2_with fail
    refine (implChain_any s _ hs).mono ?_
    rw [Hxs.out, Hok.out]
    rintro e w2 ⟨v1, rfl, r1, hb2⟩
    have R1 := Lib.hid r1
    clear r1
    have R0b := Lib.hid (R0.out.below hb2)
    have bl2 := bel_trans bl1 hb2
    go_wp2_with fail
    refine (eqInt_same xs v1 v0 _ _ _ R1.out R0b.out).mono ?_
    rintro e w3 ⟨rfl, n3, rfl⟩
    go_wp2_with fail
    refine (mark_any xs v1 _ 1 _ (R1.out.drewN n3) (by omega) (by omega)).mono ?_
    rintro e w4 ⟨rfl, r4, hg4⟩
    have R4 := Lib.hid r4
    clear r4
    have bl4 := bel_grown (bel_drewN bl2 n3) hg4 (R1.out.drewN n3) (Nat.le_trans bl1.size (Nat.le_refl _))
    have R0c := Lib.hid ((R0b.out.drewN n3).kept_by hg4 (R1.out.drewN n3) bl1.size (R0.out))
    go_wp2_with fail
    refine (held_any xs v1 _ 1 _ R4.out (by omega) (by omega)).mono ?_
    rintro e w5 ⟨rfl, n5, rfl⟩
    have t1 : decide ((1 : Int) + (xs.length : Int) < 0) = false := by simp; omega
    go_wp2_with fail
    refine (implChain_any s _ hs).mono ?_
    rw [Hxs.out, Hok.out]
    rintro e w6 ⟨v2, rfl, r6, hb6⟩
    have R2 := Lib.hid r6
    clear r6
    have hb6b := bel_undrewN hb6
    have R0d := Lib.hid (R0c.out.below hb6b)
    have R1d := Lib.hid (R4.out.below hb6b)
    have bl6 := bel_trans bl4 hb6b
    go_wp2_with fail
    refine (eqInt_same xs v2 v0 _ _ _ R2.out R0d.out).mono ?_
    rintro e w7 ⟨rfl, n7, rfl⟩
    go_wp2_with fail
    refine (held_any xs v1 _ 1 _ (R1d.out.drewN n7) (by omega) (by omega)).mono ?_
    rintro e w8 ⟨rfl, n8, rfl⟩
    go_wp2_with fail
    go_ret
    refine ⟨rfl, ?_⟩
    repeat (first | assumption | with_reducible exact Below.refl _ _ | refine bel_alloc ?_ _ | refine bel_drewN ?_ _ | refine Below.drew ?_ | (refine Below.setCell ?_ (by simp) _) | (refine bel_trans ?_ (by assumption)))
  · go_enter Try.func17, Try.ntmps17
    go_wp2
    go_ret
    exact ⟨rfl, Below.refl _ _⟩

end Go.Proofs.Ytkehgokgngimgaa
