/- CountInPlay: the contracts of the program and of its model, and the walk. -/
import Derived.Test.YtfogipdhipipfabSkE
namespace Go.Proofs.Ytfogipdhipipfab
set_option linter.unusedSimpArgs false
open Go.ChangeShapes Go.WideShapes Go.ChangeAt Go.RowKit
set_option linter.unusedVariables false

set_option maxRecDepth 100000 in
set_option maxHeartbeats 3200000 in
theorem specCountInPlay_any (p g n : Int) (w : World) :
    Calls Try.prog 9 #[sk p g, .int .i64 n] w fun e w' => e = .returned (ansCT 2 p g n) ∧ Below w.heap.size w w' := by
  have bx0 := Lib.hid (Box2.new w (.int .i64 p) (.int .i64 g) 26)
  have bl0 := Lib.hid (bel_alloc (Below.refl _ w) (.cells #[.int .i64 p, .int .i64 g] 26))
  cases h : cpG p g 30 n
  · rw [ansCT_no h]
    go_enter Try.func9, Try.ntmps9
    go_wp2_with fail
    refine (skTossed_any p g n _).mono ?_
    rintro e w1 ⟨rfl, hb1⟩
    rw [h]
    go_wp2_with fail
    go_ret2
    exact ⟨rfl, bel_trans bl0.out hb1⟩
  · rw [ansCT_yes h]
    obtain ⟨hs, n0, n1⟩ := cp_in h
    obtain ⟨g0, g1, p0, p1⟩ := sk_in hs
    obtain ⟨P, rfl⟩ := Int.eq_ofNat_of_zero_le p0
    obtain ⟨G, rfl⟩ := Int.eq_ofNat_of_zero_le (show 0 ≤ g by omega)
    obtain ⟨N, rfl⟩ := Int.eq_ofNat_of_zero_le n0
    rw [show cval 2 (P : Int) (G : Int) (N : Int) = ctO (ctV P G N) (G - 1) from by simp [cval]]
    go_enter Try.func9, Try.ntmps9
    go_wp2_with fail
    refine (skTossed_any _ _ _ _).mono ?_
    rintro e w1 ⟨rfl, hb1⟩
    rw [h]
    have bx1 := Lib.hid (bx0.out.keep hb1)
    have bl1 := Lib.hid (bel_trans bl0.out hb1)
    clear hb1 h
    obtain ⟨c0, c1, hk⟩ := bx1.out
    go_wp2_with fail
    refine (skCount_any P G N _ (by omega) (by omega) (by omega) (by omega)).mono ?_
    rintro e w2 ⟨rfl, hb2⟩
    go_wp2_with fail
    go_ret2
    exact ⟨rfl, bel_trans bl1.out hb2⟩

set_option maxRecDepth 100000 in
set_option maxHeartbeats 3200000 in
theorem implCountInPlay_any (p g n : Int) (w : World) :
    Calls Try.prog 11 #[sk p g, .int .i64 n] w fun e w' => e = .returned (ansCT 2 p g n) ∧ Below w.heap.size w w' := by
  have bx0 := Lib.hid (Box2.new w (.int .i64 p) (.int .i64 g) 26)
  have bl0 := Lib.hid (bel_alloc (Below.refl _ w) (.cells #[.int .i64 p, .int .i64 g] 26))
  cases h : cpG p g 30 n
  · rw [ansCT_no h]
    go_enter Try.func11, Try.ntmps11
    go_wp2_with fail
    refine (arePlays_any p g 30 n _).mono ?_
    rintro e w1 ⟨rfl, hb1⟩
    rw [h]
    go_wp2_with fail
    go_ret2
    exact ⟨rfl, bel_trans bl0.out hb1⟩
  · rw [ansCT_yes h]
    obtain ⟨hs, n0, n1⟩ := cp_in h
    obtain ⟨g0, g1, p0, p1⟩ := sk_in hs
    obtain ⟨P, rfl⟩ := Int.eq_ofNat_of_zero_le p0
    obtain ⟨G, rfl⟩ := Int.eq_ofNat_of_zero_le (show 0 ≤ g by omega)
    obtain ⟨N, rfl⟩ := Int.eq_ofNat_of_zero_le n0
    rw [show cval 2 (P : Int) (G : Int) (N : Int) = ctO (ctV P G N) (G - 1) from by simp [cval]]
    go_enter Try.func11, Try.ntmps11
    go_wp2_with fail
    refine (arePlays_any _ _ 30 _ _).mono ?_
    rintro e w1 ⟨rfl, hb1⟩
    rw [h]
    have bx1 := Lib.hid (bx0.out.keep hb1)
    have bl1 := Lib.hid (bel_trans bl0.out hb1)
    clear hb1 h
    obtain ⟨c0, c1, hk⟩ := bx1.out
    go_wp2_with fail
    refine (countTimid_any P G N _ (by omega) (by omega) (by omega) (by omega)).mono ?_
    rintro e w2 ⟨rfl, hb2⟩
    have bx2 := Lib.hid (bx1.out.keep hb2)
    have bl2 := Lib.hid (bel_trans bl1.out hb2)
    clear hb2
    have HF : Hid (∀ q, 0 ≤ ctV P G N q ∧ ctV P G N q ≤ 1073741824) := Lib.hid (fun q => ⟨(ctV_in P G N q).1, Int.le_trans (ctV_in P G N q).2 (two30 N (by omega))⟩)
    obtain ⟨F, hFF⟩ : ∃ F, F = ctV P G N := ⟨_, rfl⟩
    rw [← hFF] at HF
    have HFF := Lib.hid hFF
    have bl3 := Lib.hid (bel_alloc bl2.out (.cells (iN 17 F) 64))
    have bx3 := Lib.hid (bx2.out.keep (bel_alloc (Below.refl _ w2) (.cells (iN 17 F) 64)))
    have hr := Lib.hid (heap_alloc_new w2 (.cells (iN 17 F) 64))
    have k0 : (1 : Int) ≤ (G : Int) := by omega
    have k1 : (G : Int) ≤ 17 := by omega
    rw [← hFF]
    clear hFF
    obtain ⟨e0, e1, e2⟩ := bx3.out
    go_wp2_with (first
      | (refine wpList_alloc_row rfl 64 rfl (iN 17 noI) (pu_zero _) ?_)
      | (refine wpList_store_new (k := w2.heap.size) (c' := iN 17 F) rfl 64 (.tmp 6) (.tmp 16) rfl rfl ?_ ?_ (by rw [iN_size]; exact pu_info) (by rw [iN_size, iN_size]) (iN_one _ _) ?_; (· simp [Act.put, Act.eval]); (· simp [Act.put, Act.eval])))
    generalize hW : w2.alloc (.cells (iN 17 F) 64) = w4 at *
    clear hW e0 e1 e2
    go_loopw [7, 21] (fun y x wr => ∃ k : Nat, k ≤ G - 1 ∧ x = .int .i64 k ∧ y = .int .i64 (ctO F k) ∧ ∃ q, wr = w4.drewN q) (fun _ x _ => G - 1 - (intOf x).toNat)
    case atStart => exact ⟨0, by omega, rfl, rfl, 0, rfl⟩
    case round =>
      obtain ⟨k, hk, rfl, rfl, q, rfl⟩ := hrel
      by_cases hkl : k < G - 1
      · have x0 := cell_heap hr.out (iN_get 17 F (1 + k) (by omega))
        rw [show F (1 + k) = F (k + 1) from by rw [Nat.add_comm]] at x0
        obtain ⟨s0, s1⟩ := ctO_in F _ HF.out k
        obtain ⟨s2, s3⟩ := HF.out (k + 1)
        have hw1 : IntKind.i64.wrap (ctO F k + F (k + 1)) = ctO F k + F (k + 1) := IntWalk.i64_in _ (by
          have : (k : Int) * 1073741824 ≤ 16 * 1073741824 := by omega
          omega)
        have hki : (k : Int) < ((G - 1 : Nat) : Int) := by omega
        have hk0 : (0 : Int) ≤ (k : Int) := by omega
        go_wp2_with fail
        exact ⟨⟨k + 1, by omega, by go_num, rfl, q, rfl⟩, by simp [intOf]; omega⟩
      · have hge : ¬ (k : Int) < ((G - 1 : Nat) : Int) := by omega
        have hkG : Hid (ctO F k = ctO (ctV P G N) (G - 1)) := Lib.hid (by rw [show k = G - 1 from by omega, HFF.out])
        clear hk hkl
        go_wp2_with fail
        rw [hkG.out]
        go_ret2
        exact ⟨rfl, bel_drewN bl3.out _⟩

set_option maxRecDepth 100000 in
set_option maxHeartbeats 3200000 in
theorem walkExactCountInPlay (p g n : Int) (w : World) (zp : (Lit.int .i64 p).wf = true) (zg : (Lit.int .i64 g).wf = true) (zn : (Lit.int .i64 n).wf = true) :
    Calls Try.prog 3 #[sk p g, .int .i64 n] w fun e w' => e = .returned (.bool true) ∧ Below w.heap.size w w' := by
  clear zp zg zn
  obtain ⟨x, ok, hv⟩ := ansCT_form 2 p g n
  have Hv := Lib.hid hv
  clear hv
  have hbA0 := bel_alloc (Below.refl _ w) (.cells #[.int .i64 p, .int .i64 g] 23)
  have bs_0 := Lib.hid (Box2.new w (.int .i64 p) (.int .i64 g) 23)
  have bl_0 := Lib.hid hbA0
  clear hbA0
  go_enter Try.func3, Try.ntmps3
  obtain ⟨cs0_0, cs1_0, ks_0⟩ := bs_0.out
  go_wp2_with fail
  refine (toStakes_any _ _ _).mono ?_
  rintro e w1 ⟨rfl, hb⟩
  have bs_1 := Lib.hid (bs_0.out.keep hb)
  have bl_1 := Lib.hid (bel_trans bl_0.out hb)
  clear hb
  obtain ⟨cs0_1, cs1_1, ks_1⟩ := bs_1.out
  go_wp2_with fail
  refine (specCountInPlay_any p g n _).mono ?_
  rintro e w2 ⟨rfl, hb⟩
  rw [Hv.out]
  have bs_2 := Lib.hid (bs_1.out.keep hb)
  have bl_2 := Lib.hid (bel_trans bl_1.out hb)
  clear hb
  obtain ⟨cs0_2, cs1_2, ks_2⟩ := bs_2.out
  go_wp2_with fail
  refine (toStakes_any _ _ _).mono ?_
  rintro e w3 ⟨rfl, hb⟩
  have bs_3 := Lib.hid (bs_2.out.keep hb)
  have bl_3 := Lib.hid (bel_trans bl_2.out hb)
  clear hb
  obtain ⟨cs0_3, cs1_3, ks_3⟩ := bs_3.out
  go_wp2_with fail
  refine (implCountInPlay_any p g n _).mono ?_
  rintro e w4 ⟨rfl, hb⟩
  rw [Hv.out]
  have bs_4 := Lib.hid (bs_3.out.keep hb)
  have bl_4 := Lib.hid (bel_trans bl_3.out hb)
  clear hb
  obtain ⟨cs0_4, cs1_4, ks_4⟩ := bs_4.out
  go_wp2_with fail
  go_ret
  exact ⟨rfl, bl_4.out⟩

end Go.Proofs.Ytfogipdhipipfab
