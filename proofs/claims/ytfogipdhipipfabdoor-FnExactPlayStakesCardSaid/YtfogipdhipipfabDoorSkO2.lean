/- PlayStakes: the contract of the model. -/
import Derived.Test.YtfogipdhipipfabDoorSkOp
import Derived.RegionTactic
import Derived.Deep.RegionWith
namespace Go.Proofs.YtfogipdhipipfabDoor
set_option linter.unusedSimpArgs false
open Go.ChangeShapes Go.WideShapes Go.ChangeAt Go.RowKit
set_option linter.unusedVariables false

set_option maxRecDepth 100000 in
set_option maxHeartbeats 12800000 in
theorem specPS_any (p g : Int) (xs : List Int) (lv : Value) (B : Nat) (t : ByteArray) (w : World) (hs : t.size ≤ maxLen) (hR : RdI w B lv xs) (hBw : B ≤ w.heap.size) :
    Calls Tryd.prog 15 #[sk p g, lv, .string t] w (RowAns ((resPS p g xs t).getD []) (resPS p g xs t).isSome w) := by
  obtain ⟨LA, lcap, rfl, hlc, hlm⟩ := hR.form
  have HR := Lib.hid hR
  clear hR
  have HN := Lib.hid (BoxW.new w (.int .i64 p) (.int .i64 g) 27)
  have BL := Lib.hid (bel_alloc (Below.refl _ w) (.cells #[.int .i64 p, .int .i64 g] 27))
  have hno : psG p g xs t = false → (resPS p g xs t).getD [] = [] ∧ (resPS p g xs t).isSome = false := fun h => by unfold resPS; rw [h]; exact ⟨rfl, rfl⟩
  unfold maxLen at hlm
  cases h1 : skG p g
  · obtain ⟨e1, e2⟩ := hno (by unfold psG; rw [h1]; rfl)
    rw [e1, e2]
    go_enter Tryd.func15, Tryd.ntmps15
    go_wp2_with fail
    refine (skGood_any _ _ _).mono ?_
    rintro e w1 ⟨rfl, hb1⟩
    rw [h1]
    go_wp2_with fail
    go_ret2
    exact ⟨_, rfl, IRow.nil _ _, bel_trans BL.out hb1⟩
  · by_cases h3 : xs.length ≤ 40
    · have h3i : ¬ (40 : Int) < (xs.length : Int) := by omega
      cases h2 : tossG t
      · obtain ⟨e1, e2⟩ := hno (by unfold psG; rw [h2]; simp)
        rw [e1, e2]
        go_enter Tryd.func15, Tryd.ntmps15
        go_wp2_with fail
        refine (skGood_any _ _ _).mono ?_
        rintro e w1 ⟨rfl, hb1⟩
        rw [h1]
        have h3b : decide ((40 : Int) < (xs.length : Int)) = false := decide_eq_false (by omega)
        go_wp2_with fail
        refine (ptTosses_any t _ hs).mono ?_
        rintro e w2 ⟨rfl, rfl⟩
        rw [h2]
        go_wp2_with fail
        go_ret2
        exact ⟨_, rfl, IRow.nil _ _, bel_trans BL.out hb1⟩
      · have hgd : psG p g xs t = true := by unfold psG; rw [h1, h2]; simp [h3]
        obtain ⟨n, hn⟩ : ∃ n, n = min xs.length t.size := ⟨_, rfl⟩
        obtain ⟨R, hRr⟩ : ∃ R, R = resPS p g xs t := ⟨_, rfl⟩
        rw [← hRr]
        have HRR : Hid (R = plS t xs g n (n + 1 - 0) 0 p [p]) := Lib.hid (by rw [hRr, hn]; unfold resPS; rw [hgd]; rfl)
        have h40 : t.size ≤ 40 ∧ allT t = true := by unfold tossG at h2; simpa using h2
        obtain ⟨h40, hall⟩ := h40
        have hnn : n ≤ xs.length ∧ n ≤ t.size ∧ (n = xs.length ∨ n = t.size) := by omega
        obtain ⟨hn1, hn2, hn3⟩ := hnn
        clear hRr hn hgd hno
        go_enter Tryd.func15, Tryd.ntmps15
        go_wp2_with fail
        refine (skGood_any _ _ _).mono ?_
        rintro e w1 ⟨rfl, hb1⟩
        rw [h1]
        have HN1 := Lib.hid (HN.out.keep hb1)
        have BL1 := Lib.hid (bel_trans BL.out hb1)
        clear hb1
        have h3b : decide ((40 : Int) < (xs.length : Int)) = false := decide_eq_false (by omega)
        go_wp2_with fail
        refine (ptTosses_any t _ hs).mono ?_
        rintro e w2 ⟨rfl, rfl⟩
        rw [h2]
        obtain ⟨⟨c0, c1, c2⟩, c3, c4⟩ := HN1.out
        have R0 := Lib.hid (IRow.one w1 p)
        have hsz := BL1.out.size
        have bx3 := Lib.hid (HN1.out.keep (bel_alloc (Below.refl _ w1) (.cells #[.int .i64 p] 3)))
        have bl3 := Lib.hid (bel_alloc BL1.out (.cells #[.int .i64 p] 3))
        go_wp2_with fail
        clear c0 c1 c2 c3 c4
        go_loopw [8, 9] (fun v x wr => ∃ (k : Nat) (p1 : Int) (acc : List Int), k ≤ n ∧ x = .int .i64 k ∧ Hid (acc.length = k + 1) ∧ skG p1 g = true ∧ Hid (R = plS t xs g n (n + 1 - k) k p1 acc) ∧ Hid (IRow wr w1.heap.size v acc) ∧ Hid (BoxW wr w.heap.size (.int .i64 p1) (.int .i64 g)) ∧ Hid (Below w.heap.size w wr) ∧ Hid (w1.heap.size ≤ wr.heap.size)) (fun _ x _ => n - (intOf x).toNat)
        case atStart => exact ⟨0, p, [p], by omega, rfl, rfl, h1, HRR, R0, bx3, bl3, Lib.hid (by rw [← size1]; omega)⟩
        case round =>
          obtain ⟨k, p1, acc, hk, rfl, hal, hG, hRk, hI, hB, hb, hW⟩ := hrel
          obtain ⟨wa, rfl⟩ : ∃ wa : World, wa = wr := ⟨_, rfl⟩
          have hbw : w.heap.size < w1.heap.size := HN1.out.1.2.2
          have hsuc : Hid (n + 1 - k = (n - k) + 1) := Lib.hid (by omega)
          rw [hsuc.out] at hRk
          obtain ⟨q1, q2, q3, q4⟩ := sk_in hG
          obtain ⟨z1, z2, z3, z4⟩ := bd_in hG
          have hsz2 := hb.out.size
          by_cases hlt : k < n
          · have hk1 : k < xs.length := by omega
            have hk2 : k < t.size := by omega
            have hi1 : (k : Int) < (xs.length : Int) := by omega
            have hi2 : (k : Int) < (t.size : Int) := by omega
            obtain ⟨ad, rfl, hab, hcx⟩ := (HR.out.below hb.out hBw).at_ hk1
            have hab2 : ad.block < wa.heap.size := by omega
            by_cases h0 : bd p1 g = 0
            · skip
              obtain ⟨⟨c0, c1, c2⟩, c3, c4⟩ := hB.out
              have HRz : Hid (R = some acc) := Lib.hid (by rw [hRk.out]; exact plS_end (by omega))
              have HIf := Lib.hid (hI.out.mono (b' := w.heap.size) (by omega))
              clear hRk hI
              have H0 := Lib.hid h0
              clear h0
              go_wp2_with fail
              refine (skBold_any p1 g _ hG).mono ?_
              rintro e w4 ⟨rfl, hb4⟩
              rw [H0.out]
              have HIg := Lib.hid (HIf.out.below hb4)
              go_wp2_with fail
              go_ret2
              rw [HRz.out]
              exact ⟨_, rfl, HIg.out, bel_trans hb.out hb4⟩
            · have hd : decide (bd p1 g = 0) = false := decide_eq_false h0
              have hpos : 0 < bd p1 g := by omega
              obtain ⟨x, hx⟩ : ∃ x, x = xs.getD k 0 := ⟨_, rfl⟩
              rw [← hx] at hcx
              have HX := Lib.hid hx
              clear hx
              obtain ⟨⟨c0, c1, c2⟩, c3, c4⟩ := hB.out
              go_wp2_with fail
              refine (skBold_any p1 g _ hG).mono ?_
              rintro e w4 ⟨rfl, hb4⟩
              have HB4 := Lib.hid (hB.out.keep hb4)
              have HI4 := Lib.hid (hI.out.below hb4)
              have HBb := Lib.hid (bel_trans hb.out hb4)
              have hx4 : w4.cell? (ad.add k) = some (.int .i64 x) := (hb4.cell (by rw [block_of_add]; exact hab2)).trans hcx
              have hab4 : ad.block < w4.heap.size := Nat.lt_of_lt_of_le hab2 hb4.size
              have hW4 : Hid (w1.heap.size ≤ w4.heap.size) := Lib.hid (Nat.le_trans hW.out hb4.size)
              clear hb4 c0 c1 c2 c3 c4 hI hB
              have hbo := Lib.hid (fun W => skBold_any p1 g W hG)
              have hin := Lib.hid (fun W => l1In_any x 1 (bd p1 g) W)
              cases hx1 : inB x 1 (bd p1 g)
              · have hxn : ¬ (1 ≤ x ∧ x ≤ bd p1 g) := fun q => by rw [(inB_iff _ _ _).2 q] at hx1; cases hx1
                rw [hx1] at hin
                have HRz : Hid (R = none) := Lib.hid (by rw [hRk.out]; exact plS_bad ⟨hlt, by omega⟩ (by rw [← HX.out]; omega))
                clear hRk
                go_wp2_with fail
                go_region_held3 (fun w' => w'.cell? ⟨w.heap.size, 0, none⟩ = some (.int .i64 p1) ∧ w'.cell? ⟨w.heap.size, 1, none⟩ = some (.int .i64 g) ∧ w.heap.size < w'.heap.size ∧ w'.cell? (ad.add k) = some (.int .i64 x) ∧ ad.block < w'.heap.size ∧ Below w4.heap.size w4 w')
                  (first | exact h25_start HB4.out.1 hx4 hab4 | exact h25_keep (by assumption) hb5 | exact h25_keep (by assumption) hb6 | assumption | go_keep)
                  (first | (go_at_call 36; refine (hbo.out _).mono ?_; rintro e w5 ⟨rfl, hb5⟩) | (go_at_call 41; refine (hin.out _).mono ?_; rintro e w6 ⟨rfl, rfl⟩))
                all_goals
                  obtain ⟨_, _, _, _, _, hbl5⟩ := (by assumption : _ ∧ _ ∧ _ ∧ _ ∧ _ ∧ Below w4.heap.size w4 _)
                  go_wp2_with fail
                  go_ret2
                  rw [HRz.out]
                  exact ⟨_, rfl, IRow.nil _ _, bel_trans HBb.out hbl5⟩
              · have hxy := (inB_iff _ _ _).1 hx1
                rw [hx1] at hin
                have hsx : 1 ≤ x ∧ x ≤ bd p1 g := by omega
                have Hsx := Lib.hid hsx
                have hc2 := sgnT_two t k hk2 hall
                obtain ⟨p2, hp2⟩ : ∃ p2, p2 = mvP (sgnT t k) p1 x := ⟨_, rfl⟩
                have hG2 : skG p2 g = true := by rw [hp2]; exact skG_mv _ hG (by omega) hsx.2
                have hRn : Hid (R = plS t xs g n (n + 1 - (k + 1)) (k + 1) p2 (acc ++ [p2])) := Lib.hid (by rw [hRk.out, plS_go ⟨hlt, h0⟩ (by rw [← HX.out]; exact hsx), ← HX.out, ← hp2, show n - k = n + 1 - (k + 1) from by omega])
                have hal2 : Hid ((acc ++ [p2]).length = k + 1 + 1) := Lib.hid (by rw [List.length_append, hal.out]; rfl)
                have hbe := Lib.hid (fun W => skToss_any (sgnT t k) p1 x W hc2 q3 (by omega) (by omega) (by omega))
                rw [← hp2, ← sgnT_get t k hk2] at hbe
                clear hp2 hRk HX
                go_wp2_with fail
                go_region_held3 (fun w' => w'.cell? ⟨w.heap.size, 0, none⟩ = some (.int .i64 p1) ∧ w'.cell? ⟨w.heap.size, 1, none⟩ = some (.int .i64 g) ∧ w.heap.size < w'.heap.size ∧ w'.cell? (ad.add k) = some (.int .i64 x) ∧ ad.block < w'.heap.size ∧ Below w4.heap.size w4 w')
                  (first | exact h25_start HB4.out.1 hx4 hab4 | exact h25_keep (by assumption) hb5 | exact h25_keep (by assumption) hb6 | assumption | go_keep)
                  (first | (go_at_call 36; refine (hbo.out _).mono ?_; rintro e w5 ⟨rfl, hb5⟩) | (go_at_call 41; refine (hin.out _).mono ?_; rintro e w6 ⟨rfl, rfl⟩))
                all_goals
                  obtain ⟨_, _, _, _, _, hbl5⟩ := (by assumption : _ ∧ _ ∧ _ ∧ _ ∧ _ ∧ Below w4.heap.size w4 _)
                  have HBX := Lib.hid (HB4.out.keep hbl5)
                  have HI5 := Lib.hid (HI4.out.below hbl5)
                  have HBb5 := Lib.hid (bel_trans HBb.out hbl5)
                  have hW5 := Lib.hid (Nat.le_trans hW4.out hbl5.size)
                  have e3 := (hbl5.cell (by rw [block_of_add]; exact hab4)).trans hx4
                  clear hbl5
                  obtain ⟨⟨c0, c1, c2⟩, c3, c4⟩ := HBX.out
                  go_wp2_with fail
                  go_region_with (go_at_call 35; refine (hbe.out _).mono ?_; rintro e w7 ⟨rfl, rfl⟩)
                  all_goals
                    have hset := Lib.hid (HBX.out.set0 (.int .i64 p2)).1
                    have hgs := Lib.hid (HBX.out.set0 (.int .i64 p2)).2
                    have HI7 := Lib.hid (HI5.out.setOther hgs.out hbw)
                    have HBl : Hid (Below w.heap.size w (_ : World)) := Lib.hid (HBb5.out.setCell (p := ⟨w.heap.size, 0, none⟩) (Nat.le_refl _) (.int .i64 p2))
                    have hs7 := Nat.le_trans hW5.out hgs.out.size
                    have hset8 : Hid (BoxW (w5.setCell ⟨w.heap.size, 0, none⟩ (.int .i64 p2)).drew w.heap.size (.int .i64 p2) (.int .i64 g)) := Lib.hid (hset.out.drewN 1)
                    have HI8 : Hid (IRow (w5.setCell ⟨w.heap.size, 0, none⟩ (.int .i64 p2)).drew _ _ _) := Lib.hid (HI7.out.drewN 1)
                    have HB8 : Hid (Below w.heap.size w (w5.setCell ⟨w.heap.size, 0, none⟩ (.int .i64 p2)).drew) := Lib.hid (bel_drewN HBl.out 1)
                    have hs8 : w1.heap.size ≤ (w5.setCell ⟨w.heap.size, 0, none⟩ (.int .i64 p2)).drew.heap.size := hs7
                    clear c0 c1 c2 c3 c4 e3 hset hgs HI7 HBl hs7 HBX HI5 HBb5 hW5
                    generalize (w5.setCell ⟨w.heap.size, 0, none⟩ (.int .i64 p2)).drew = w8 at *
                    have hset := hset8
                    have HI7 := HI8
                    have HBl := HB8
                    have hs7 := hs8
                    obtain ⟨⟨n0, n1, n2⟩, n3, n4⟩ := hset.out
                    go_wp2_with (at_builtin; refine wpList_push1 rfl (.tmp 62) (.tmp 65) rfl _ _ _ HI7.out (by rw [hal.out]; omega) hs7 p2 rfl rfl ?_)
                    intro v' w9 hI9 hb9
                    have HI9 := Lib.hid hI9
                    have bx9 : Hid (BoxW w9 w.heap.size (.int .i64 p2) (.int .i64 g)) := Lib.hid (hset.out.keepU hbw hb9)
                    have bl9 : Hid (Below w.heap.size w w9) := Lib.hid (HBl.out.trans (hb9.mono (by omega)))
                    have hW9 : Hid (w1.heap.size ≤ w9.heap.size) := Lib.hid (Nat.le_trans hs7 hb9.size)
                    clear hI9 hb9
                    go_wp2_with fail
                    exact ⟨⟨k + 1, p2, acc ++ [p2], by omega, by go_num, hal2, hG2, hRn, HI9, bx9, bl9, hW9⟩, by simp [intOf]; omega⟩
          · skip
            by_cases hi1 : (k : Int) < (xs.length : Int)
            · have hi2 : ¬ (k : Int) < (t.size : Int) := by omega
              obtain ⟨⟨c0, c1, c2⟩, c3, c4⟩ := hB.out
              have HRz : Hid (R = some acc) := Lib.hid (by rw [hRk.out]; exact plS_end (by omega))
              have HIf := Lib.hid (hI.out.mono (b' := w.heap.size) (by omega))
              clear hRk hI
              go_wp2_with fail
              go_ret2
              rw [HRz.out]
              exact ⟨_, rfl, HIf.out, hb.out⟩
            · skip
              obtain ⟨⟨c0, c1, c2⟩, c3, c4⟩ := hB.out
              have HRz : Hid (R = some acc) := Lib.hid (by rw [hRk.out]; exact plS_end (by omega))
              have HIf := Lib.hid (hI.out.mono (b' := w.heap.size) (by omega))
              clear hRk hI
              go_wp2_with fail
              go_ret2
              rw [HRz.out]
              exact ⟨_, rfl, HIf.out, hb.out⟩
    · have h3i : (40 : Int) < (xs.length : Int) := by omega
      obtain ⟨e1, e2⟩ := hno (by unfold psG; simp [h3])
      rw [e1, e2]
      go_enter Tryd.func15, Tryd.ntmps15
      go_wp2_with fail
      refine (skGood_any _ _ _).mono ?_
      rintro e w1 ⟨rfl, hb1⟩
      rw [h1]
      go_wp2_with fail
      go_ret2
      exact ⟨_, rfl, IRow.nil _ _, bel_trans BL.out hb1⟩

end Go.Proofs.YtfogipdhipipfabDoor
