/- Lists of tosses that are counted by timid play: the contract of the model's skCount. -/
import Derived.Test.YtfogipdhipipfabSkC
namespace Go.Proofs.Ytfogipdhipipfab
set_option linter.unusedSimpArgs false
open Go.ChangeShapes Go.WideShapes Go.ChangeAt Go.RowKit
set_option linter.unusedVariables false

/-- How many of them the game is not over with, of the purses 1 .. j. -/
def ctO (F : Nat → Int) : Nat → Int
  | 0 => 0
  | j + 1 => ctO F j + F (j + 1)
theorem ctO_in (F : Nat → Int) (B : Int) (h : ∀ q, 0 ≤ F q ∧ F q ≤ B) : ∀ j : Nat, 0 ≤ ctO F j ∧ ctO F j ≤ j * B
  | 0 => by simp [ctO]
  | j + 1 => by
    have a := ctO_in F B h j
    have b := h (j + 1)
    unfold ctO
    rw [Int.natCast_add, Int.add_mul]
    omega
theorem mk_row (G : Nat) (h16 : G ≤ 16) (W : World) : (Instr.makeSlice 42 (.int .i64 ((G : Int) + 1)) (.int .i64 ((G : Int) + 1))).run Try.prog W = .ok (.slice (some ⟨W.heap.size, 0, none⟩) (G + 1) (G + 1)) (W.alloc (.cells (Array.replicate (G + 1) (.int .i64 0)) 3)) := by
  have := mk_ints (G + 1) (by omega) W
  simpa using this
set_option maxRecDepth 100000 in
set_option maxHeartbeats 3200000 in
theorem skCount_any (P G n : Nat) (w : World) (hP : P ≤ G) (h1 : 1 ≤ G) (h16 : G ≤ 16) (hn : n ≤ 30) :
    Calls Try.prog 34 #[sk P G, .int .i64 n] w fun e w' => e = .returned (.tuple #[.int .i64 (ctV P G n 0), .int .i64 (ctV P G n G), .int .i64 (ctO (ctV P G n) (G - 1))]) ∧ Below w.heap.size w w' := by
  have hV := Lib.hid (ctV_in P G)
  obtain ⟨F, hFF⟩ : ∃ F, F = ctV P G n := ⟨_, rfl⟩
  rw [← hFF]
  have HFF := Lib.hid hFF
  clear hFF
  have hmk := mk_row G h16
  have bx0 := Box2.new w (.int .i64 P) (.int .i64 G) 26
  have bl0 := bel_alloc (Below.refl _ w) (.cells #[.int .i64 P, .int .i64 G] 26)
  have hm0 := made_ints (w.alloc (.cells #[.int .i64 P, .int .i64 G] 26)) (G + 1) (by omega)
  rw [← rowF_zero, ← size1] at hm0
  obtain ⟨hs1, hs2⟩ := rowF_store hm0 P 1 (ctV P G 0) (by unfold ctV; rw [if_pos rfl]) (fun i _ hi => by unfold ctV; rw [if_neg hi])
  obtain ⟨x0, x1⟩ := rowF_cell hm0 P hP
  have heq : ((w.alloc (.cells #[.int .i64 P, .int .i64 G] 26)).alloc (.cells (Array.replicate (G + 1) (.int .i64 0)) 3)).setCell ⟨w.heap.size + 1, P, none⟩ (.int .i64 1) = (w.alloc (.cells #[.int .i64 P, .int .i64 G] 26)).alloc (.cells ((Array.replicate (G + 1) (.int .i64 0)).setIfInBounds P (.int .i64 1)) 3) := by
    rw [size1 w (.cells #[.int .i64 P, .int .i64 G] 26)]
    simp [go_sem]
  rw [heq] at hs1
  have Hs1 := Lib.hid hs1
  have hb1 := bel_alloc (Below.refl _ (w.alloc (.cells #[.int .i64 P, .int .i64 G] 26))) (.cells ((Array.replicate (G + 1) (.int .i64 0)).setIfInBounds P (.int .i64 1)) 3)
  have Hbx := Lib.hid (bx0.keep hb1)
  have Hbl := Lib.hid (bel_trans bl0 hb1)
  have hpg : (P : Int) < (G : Int) + 1 := by omega
  have hpg2 : P < G + 1 := by omega
  have hg0 : (0 : Int) ≤ (G : Int) + 1 := by omega
  have hgw : IntKind.i64.wrap ((G : Int) + 1) = (G : Int) + 1 := IntWalk.i64_in _ (by omega)
  have hone : Hid ((G : Int) - 1 = ((G - 1 : Nat) : Int)) := Lib.hid (by omega)
  clear hm0 hs1 hs2 heq hb1 bx0 bl0
  go_enter Try.func34, Try.ntmps34
  go_wp2_with fail
  generalize (Array.replicate (G + 1) (Value.int .i64 0)).setIfInBounds P (.int .i64 1) = A0 at *
  generalize (w.alloc (.cells #[.int .i64 P, .int .i64 G] 26)).alloc (.cells A0 3) = w1 at *
  clear x0 x1
  go_loopw [1, 7] (fun x v wr => ∃ r : Nat, r ≤ n ∧ x = .int .i64 r ∧ Hid (IRow wr (w.heap.size + 1) v (rowF G (ctV P G (n - r)))) ∧ Hid (Box2 wr w.heap.size (.int .i64 P) (.int .i64 G)) ∧ Hid (Below w.heap.size w wr)) (fun x _ _ => (intOf x).toNat)
  case atStart => exact ⟨n, Nat.le_refl _, rfl, by rw [Nat.sub_self]; exact Hs1, Hbx, Hbl⟩
  case round =>
    obtain ⟨r, hr, rfl, hI, hbx, hbl⟩ := hrel
    obtain ⟨wa, rfl⟩ : ∃ wa : World, wa = wr := ⟨_, rfl⟩
    rcases hI.out.form with ⟨hx, _⟩ | ⟨hx, gv, cap, rfl, hbg, hgl, hlc, hcm⟩
    · have := rowF_len G (ctV P G (n - r))
      rw [hx] at this; simp at this
    · rw [rowF_len] at hlc hI ⊢
      unfold maxLen at hcm
      obtain ⟨c0, c1, hk⟩ := hbx.out
      cases r with
      | zero =>
        rw [Nat.sub_zero] at hI
        have h2 := two30 n hn
        have HF : Hid (∀ q, 0 ≤ F q ∧ F q ≤ 1073741824) := Lib.hid (fun q => by rw [HFF.out]; exact ⟨(hV.out n q).1, Int.le_trans (hV.out n q).2 h2⟩)
        rw [← HFF.out] at hI
        clear h2 hx
        go_wp2_with fail
        go_loopw [10, 11] (fun y x wr => ∃ j : Nat, j + 1 ≤ G ∧ x = .int .i64 ((j : Int) + 1) ∧ y = .int .i64 (ctO F j) ∧ ∃ q, wr = wa.drewN q) (fun _ x _ => G - (intOf x).toNat)
        case atStart => exact ⟨0, by omega, rfl, rfl, 0, rfl⟩
        case round =>
          obtain ⟨j, hj, rfl, rfl, q, rfl⟩ := hrel
          by_cases hjl : j + 1 < G
          · obtain ⟨e0, e1⟩ := rowF_cell hI.out (j + 1) (by omega)
            obtain ⟨s0, s1⟩ := ctO_in F _ HF.out j
            obtain ⟨s2, s3⟩ := HF.out (j + 1)
            have hw1 : IntKind.i64.wrap (ctO F j + F (j + 1)) = ctO F j + F (j + 1) := IntWalk.i64_in _ (by omega)
            have hji : (j : Int) + 1 < (G : Int) := by omega
            have hjg : (j : Int) + 1 < (G : Int) + 1 := by omega
            go_wp2_with fail
            exact ⟨⟨j + 1, by omega, by go_num, rfl, _, rfl⟩, by simp [intOf]; omega⟩
          · have hge : ¬ (j : Int) + 1 < (G : Int) := by omega
            have hjG : Hid (ctO F j = ctO F (G - 1)) := Lib.hid (by rw [show j = G - 1 from by omega])
            obtain ⟨e0, e1⟩ := rowF_cell hI.out 0 (by omega)
            obtain ⟨e2, e3⟩ := rowF_cell hI.out G (by omega)
            have hgg : (G : Int) < (G : Int) + 1 := by omega
            have hg1 : (0 : Int) < (G : Int) + 1 := by omega
            clear hj hjl
            go_wp2_with fail
            go_quiet (fail)
            go_wp2_with fail
            rw [hjG.out]
            go_ret3
            exact ⟨rfl, bel_drewN (bel_drewN hbl.out _) _⟩
      | succ m =>
        have h2 := two30 (n - (m + 1)) (by omega)
        have HF : Hid (∀ q, 0 ≤ ctV P G (n - (m + 1)) q ∧ ctV P G (n - (m + 1)) q ≤ 1073741824) := Lib.hid (fun q => ⟨(hV.out _ q).1, Int.le_trans (hV.out _ q).2 h2⟩)
        have hnx : Hid (ctS (ctV P G (n - (m + 1))) G = ctV P G (n - m)) := Lib.hid (by rw [show n - m = (n - (m + 1)) + 1 from by omega]; rfl)
        clear h2 hx HFF
        generalize ctV P G (n - (m + 1)) = E at *
        have hm1 := made_ints wa (G + 1) (by omega)
        rw [← rowF_zero] at hm1
        have Hm1 := Lib.hid hm1
        have hb2 := Lib.hid (bel_alloc (Below.refl _ wa) (.cells (Array.replicate (G + 1) (.int .i64 0)) 3))
        have hsz := hbl.out.size
        clear hm1
        go_wp2_with fail
        go_loopw [9] (fun x wr => ∃ j : Nat, j + 1 ≤ G ∧ x = .int .i64 ((j : Int) + 1) ∧ Hid (IRow wr wa.heap.size (.slice (some ⟨wa.heap.size, 0, none⟩) (G + 1) (G + 1)) (rowF G (ctS E (j + 1)))) ∧ Hid (Below wa.heap.size wa wr)) (fun x _ => G - (intOf x).toNat)
        case atStart => exact ⟨0, by omega, rfl, by rw [ctS_one]; exact Hm1, hb2⟩
        case round =>
          obtain ⟨j, hj, rfl, hN, hbn⟩ := hrel
          obtain ⟨wb, rfl⟩ : ∃ wb : World, wb = wr := ⟨_, rfl⟩
          obtain ⟨c0, c1, hk⟩ := hbx.out.keep hbn.out
          by_cases hjl : j + 1 < G
          · obtain ⟨a0, a1⟩ := rowF_cell (hI.out.below hbn.out) (j + 1) (by omega)
            obtain ⟨x0, x1⟩ := rowF_cell hN.out j (by omega)
            obtain ⟨f0, f1⟩ := HF.out (j + 1)
            obtain ⟨s0, s1⟩ := ctS_in E _ HF.out (j + 1) j
            obtain ⟨s2, s3⟩ := ctH_in E _ HF.out (j + 1) (j + 2)
            have hw1 : IntKind.i64.wrap (ctS E (j + 1) j + E (j + 1)) = ctS E (j + 1) j + E (j + 1) := IntWalk.i64_in _ (by omega)
            have hw2 : IntKind.i64.wrap (ctH E (j + 1) (j + 2) + E (j + 1)) = ctH E (j + 1) (j + 2) + E (j + 1) := IntWalk.i64_in _ (by omega)
            obtain ⟨hM1, hM2⟩ := rowF_store hN.out j (ctS E (j + 1) j + E (j + 1)) (ctH E (j + 1)) (ctH_at E j) (fun q _ hq => ctH_old E j q hq)
            have HM1 := Lib.hid hM1
            have HM2 : Hid (Below wa.heap.size wa ((wb.setCell ⟨wa.heap.size, j, none⟩ (.int .i64 (ctS E (j + 1) j + E (j + 1)))).drew)) := Lib.hid (hbn.out.setCell (Nat.le_refl _) _).drew
            have hji : (j : Int) + 1 < (G : Int) := by omega
            have hj17 : (j : Int) + 1 < (G : Int) + 1 := by omega
            have hj18 : (j : Int) < (G : Int) + 1 := by omega
            clear hM1 hM2 a1
            go_wp2_with fail
            go_region
            have HM3 : Hid (IRow ((wb.setCell ⟨wa.heap.size, j, none⟩ (.int .i64 (ctS E (j + 1) j + E (j + 1)))).drew) wa.heap.size (.slice (some ⟨wa.heap.size, 0, none⟩) (G + 1) (G + 1)) (rowF G (ctH E (j + 1)))) := Lib.hid (HM1.out.drewN 1)
            generalize (wb.setCell ⟨wa.heap.size, j, none⟩ (.int .i64 (ctS E (j + 1) j + E (j + 1)))).drew = wc at *
            clear HM1 x0 x1 a0 c0 c1 hk hN hbn
            obtain ⟨a0, a1⟩ := rowF_cell (hI.out.below HM2.out) (j + 1) (by omega)
            obtain ⟨x0, x1⟩ := rowF_cell HM3.out (j + 2) (by omega)
            obtain ⟨hK1, hK2⟩ := rowF_store HM3.out (j + 2) (ctH E (j + 1) (j + 2) + E (j + 1)) (ctS E (j + 2)) (ctS_at E j) (fun q _ hq => ctS_old E j q hq)
            have HK1 := Lib.hid hK1
            have HK2 : Hid (Below wa.heap.size wa ((wc.setCell ⟨wa.heap.size, j + 2, none⟩ (.int .i64 (ctH E (j + 1) (j + 2) + E (j + 1)))).drew)) := Lib.hid (HM2.out.setCell (Nat.le_refl _) _).drew
            have hj19 : (j : Int) + 2 < (G : Int) + 1 := by omega
            clear hK1 hK2 a1
            go_wp2_with fail
            go_region
            go_wp2_with fail
            exact ⟨⟨j + 1, by omega, by go_num, Lib.hid (HK1.out.drewN 1), HK2⟩, by simp [intOf]; omega⟩
          · have hge : ¬ (j : Int) + 1 < (G : Int) := by omega
            have hNG : Hid (IRow wb (w.heap.size + 1) (.slice (some ⟨wa.heap.size, 0, none⟩) (G + 1) (G + 1)) (rowF G (ctV P G (n - m)))) := by
              refine Lib.hid (IRow.mono (b := wa.heap.size) ?_ (by omega))
              rw [← hnx.out, show G = j + 1 from by omega]
              have := hN.out
              rw [show G = j + 1 from by omega] at this
              exact this
            have hb5 := Lib.hid (bel_trans hbl.out hbn.out)
            have hbx5 := Lib.hid (hbx.out.keep hbn.out)
            clear hN hj hjl hbn
            go_wp2_with fail
            exact ⟨⟨m, by omega, by go_num, hNG, hbx5, hb5⟩, by simp [intOf]⟩
end Go.Proofs.Ytfogipdhipipfab
