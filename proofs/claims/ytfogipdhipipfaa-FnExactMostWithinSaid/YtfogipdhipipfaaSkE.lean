/- CountRuins, CountGoals: the contracts of the program and of its model, and the walks. -/
import Derived.Test.YtfogipdhipipfaaSkD
namespace Go.Proofs.Ytfogipdhipipfaa
set_option linter.unusedSimpArgs false
open Go.ChangeShapes Go.WideShapes Go.ChangeAt Go.RowKit
set_option linter.unusedVariables false

def cpG (p g m n : Int) : Bool := skG p g && inB n 0 m
theorem cp_in {p g m n : Int} (h : cpG p g m n = true) : skG p g = true ∧ 0 ≤ n ∧ n ≤ m := by
  unfold cpG at h
  rw [Bool.and_eq_true, inB_iff] at h
  exact h
theorem arePlays_any (p g m n : Int) (w : World) :
    Calls Try.prog 64 #[sk p g, .int .i64 m, .int .i64 n] w fun e w' => e = .returned (.bool (cpG p g m n)) ∧ Below w.heap.size w w' := by
  have bx := Lib.hid (Box2.new w (.int .i64 p) (.int .i64 g) 25)
  cases h : skG p g
  · rw [show cpG p g m n = false from by unfold cpG; rw [h]; rfl]
    go_enter Try.func64, Try.ntmps64
    go_wp2_with fail
    refine (implAreStakes_any _ _ _).mono ?_
    rintro e w1 ⟨rfl, hb1⟩
    rw [h]
    go_wp2_with fail
    go_ret
    exact ⟨rfl, bel_trans (bel_alloc (Below.refl _ _) _) hb1⟩
  · rw [show cpG p g m n = inB n 0 m from by unfold cpG; rw [h]; rfl]
    go_enter Try.func64, Try.ntmps64
    go_wp2_with fail
    refine (implAreStakes_any _ _ _).mono ?_
    rintro e w1 ⟨rfl, hb1⟩
    rw [h]
    go_wp2_with fail
    refine (isUpTo_any _ _ _).mono ?_
    rintro e w2 ⟨rfl, rfl⟩
    go_wp2_with fail
    go_ret
    exact ⟨rfl, bel_trans (bel_alloc (Below.refl _ _) _) hb1⟩
theorem skTossed_any (p g n : Int) (w : World) :
    Calls Try.prog 62 #[sk p g, .int .i64 n] w fun e w' => e = .returned (.bool (cpG p g 30 n)) ∧ Below w.heap.size w w' := by
  have bx := Lib.hid (Box2.new w (.int .i64 p) (.int .i64 g) 25)
  cases h : skG p g
  · rw [show cpG p g 30 n = false from by unfold cpG; rw [h]; rfl]
    go_enter Try.func62, Try.ntmps62
    go_wp2_with fail
    refine (skGood_any _ _ _).mono ?_
    rintro e w1 ⟨rfl, hb1⟩
    rw [h]
    go_wp2_with fail
    go_ret
    exact ⟨rfl, bel_trans (bel_alloc (Below.refl _ _) _) hb1⟩
  · rw [show cpG p g 30 n = inB n 0 30 from by unfold cpG; rw [h]; rfl]
    go_enter Try.func62, Try.ntmps62
    go_wp2_with fail
    refine (skGood_any _ _ _).mono ?_
    rintro e w1 ⟨rfl, hb1⟩
    rw [h]
    go_wp2_with fail
    refine (l1In_any _ _ _ _).mono ?_
    rintro e w2 ⟨rfl, rfl⟩
    go_wp2_with fail
    go_ret
    exact ⟨rfl, bel_trans (bel_alloc (Below.refl _ _) _) hb1⟩
def cval (k : Nat) (p g n : Int) : Int := if k = 0 then ctV p.toNat g.toNat n.toNat 0 else if k = 1 then ctV p.toNat g.toNat n.toNat g.toNat else ctO (ctV p.toNat g.toNat n.toNat) (g.toNat - 1)
def ansCT (k : Nat) (p g n : Int) : Value := if cpG p g 30 n then .tuple #[.int .i64 (cval k p g n), .bool true] else fail1
theorem ansCT_form (k : Nat) (p g n : Int) : ∃ (x : Int) (o : Bool), ansCT k p g n = .tuple #[.int .i64 x, .bool o] := if_form1 _ ⟨_, _, rfl⟩ ⟨0, false, rfl⟩
theorem ansCT_no {k : Nat} {p g n : Int} (h : cpG p g 30 n = false) : ansCT k p g n = .tuple #[.int .i64 0, .bool false] := by unfold ansCT; rw [h]; rfl
theorem ansCT_yes {k : Nat} {p g n : Int} (h : cpG p g 30 n = true) : ansCT k p g n = .tuple #[.int .i64 (cval k p g n), .bool true] := by unfold ansCT; rw [h]; rfl
set_option maxRecDepth 100000 in
set_option maxHeartbeats 3200000 in
theorem specCountRuins_any (p g n : Int) (w : World) :
    Calls Try.prog 37 #[sk p g, .int .i64 n] w fun e w' => e = .returned (ansCT 0 p g n) ∧ Below w.heap.size w w' := by
  have bx0 := Lib.hid (Box2.new w (.int .i64 p) (.int .i64 g) 25)
  have bl0 := Lib.hid (bel_alloc (Below.refl _ w) (.cells #[.int .i64 p, .int .i64 g] 25))
  cases h : cpG p g 30 n
  · rw [ansCT_no h]
    go_enter Try.func37, Try.ntmps37
    go_wp2_with fail
    refine (skTossed_any p g n _).mono ?_
    rintro e w1 ⟨rfl, hb1⟩
    rw [h]
    go_wp2_with fail
    go_ret2
    exact ⟨rfl, bel_trans bl0.out hb1⟩
  · rw [ansCT_yes h]
    obtain ⟨hs, n0, n1⟩ := cp_in h
    obtain ⟨g0, g1, p0, p1⟩ := sk_in hs
    obtain ⟨P, rfl⟩ := Int.eq_ofNat_of_zero_le p0
    obtain ⟨G, rfl⟩ := Int.eq_ofNat_of_zero_le (show 0 ≤ g by omega)
    obtain ⟨N, rfl⟩ := Int.eq_ofNat_of_zero_le n0
    rw [show cval 0 (P : Int) (G : Int) (N : Int) = ctV P G N 0 from by simp [cval]]
    go_enter Try.func37, Try.ntmps37
    go_wp2_with fail
    refine (skTossed_any _ _ _ _).mono ?_
    rintro e w1 ⟨rfl, hb1⟩
    rw [h]
    have bx1 := Lib.hid (bx0.out.keep hb1)
    have bl1 := Lib.hid (bel_trans bl0.out hb1)
    clear hb1 h
    obtain ⟨c0, c1, hk⟩ := bx1.out
    go_wp2_with fail
    refine (skCount_any P G N _ (by omega) (by omega) (by omega) (by omega)).mono ?_
    rintro e w2 ⟨rfl, hb2⟩
    go_wp2_with fail
    go_ret2
    exact ⟨rfl, bel_trans bl1.out hb2⟩

set_option maxRecDepth 100000 in
set_option maxHeartbeats 3200000 in
theorem implCountRuins_any (p g n : Int) (w : World) :
    Calls Try.prog 38 #[sk p g, .int .i64 n] w fun e w' => e = .returned (ansCT 0 p g n) ∧ Below w.heap.size w w' := by
  have bx0 := Lib.hid (Box2.new w (.int .i64 p) (.int .i64 g) 25)
  have bl0 := Lib.hid (bel_alloc (Below.refl _ w) (.cells #[.int .i64 p, .int .i64 g] 25))
  cases h : cpG p g 30 n
  · rw [ansCT_no h]
    go_enter Try.func38, Try.ntmps38
    go_wp2_with fail
    refine (arePlays_any p g 30 n _).mono ?_
    rintro e w1 ⟨rfl, hb1⟩
    rw [h]
    go_wp2_with fail
    go_ret2
    exact ⟨rfl, bel_trans bl0.out hb1⟩
  · rw [ansCT_yes h]
    obtain ⟨hs, n0, n1⟩ := cp_in h
    obtain ⟨g0, g1, p0, p1⟩ := sk_in hs
    obtain ⟨P, rfl⟩ := Int.eq_ofNat_of_zero_le p0
    obtain ⟨G, rfl⟩ := Int.eq_ofNat_of_zero_le (show 0 ≤ g by omega)
    obtain ⟨N, rfl⟩ := Int.eq_ofNat_of_zero_le n0
    rw [show cval 0 (P : Int) (G : Int) (N : Int) = ctV P G N 0 from by simp [cval]]
    go_enter Try.func38, Try.ntmps38
    go_wp2_with fail
    refine (arePlays_any _ _ 30 _ _).mono ?_
    rintro e w1 ⟨rfl, hb1⟩
    rw [h]
    have bx1 := Lib.hid (bx0.out.keep hb1)
    have bl1 := Lib.hid (bel_trans bl0.out hb1)
    clear hb1 h
    obtain ⟨c0, c1, hk⟩ := bx1.out
    go_wp2_with fail
    refine (countTimid_any P G N _ (by omega) (by omega) (by omega) (by omega)).mono ?_
    rintro e w2 ⟨rfl, hb2⟩
    have hix : ∀ W : World, (Instr.index 51 (.agg (iN 17 (ctV P G N))) (.int .i64 0)).run Try.prog W = .ok (.int .i64 (ctV P G N 0)) W := fun W => pu_idx (ctV P G N) W 0 (by omega)
    go_wp2_with fail
    go_ret2
    exact ⟨rfl, bel_trans bl1.out hb2⟩

set_option maxRecDepth 100000 in
set_option maxHeartbeats 3200000 in
theorem walkExactCountRuins (p g n : Int) (w : World) (zp : (Lit.int .i64 p).wf = true) (zg : (Lit.int .i64 g).wf = true) (zn : (Lit.int .i64 n).wf = true) :
    Calls Try.prog 13 #[sk p g, .int .i64 n] w fun e w' => e = .returned (.bool true) ∧ Below w.heap.size w w' := by
  clear zp zg zn
  obtain ⟨x, ok, hv⟩ := ansCT_form 0 p g n
  have Hv := Lib.hid hv
  clear hv
  have hbA0 := bel_alloc (Below.refl _ w) (.cells #[.int .i64 p, .int .i64 g] 23)
  have bs_0 := Lib.hid (Box2.new w (.int .i64 p) (.int .i64 g) 23)
  have bl_0 := Lib.hid hbA0
  clear hbA0
  go_enter Try.func13, Try.ntmps13
  obtain ⟨cs0_0, cs1_0, ks_0⟩ := bs_0.out
  go_wp2_with fail
  refine (toStakes_any _ _ _).mono ?_
  rintro e w1 ⟨rfl, hb⟩
  have bs_1 := Lib.hid (bs_0.out.keep hb)
  have bl_1 := Lib.hid (bel_trans bl_0.out hb)
  clear hb
  obtain ⟨cs0_1, cs1_1, ks_1⟩ := bs_1.out
  go_wp2_with fail
  refine (specCountRuins_any p g n _).mono ?_
  rintro e w2 ⟨rfl, hb⟩
  rw [Hv.out]
  have bs_2 := Lib.hid (bs_1.out.keep hb)
  have bl_2 := Lib.hid (bel_trans bl_1.out hb)
  clear hb
  obtain ⟨cs0_2, cs1_2, ks_2⟩ := bs_2.out
  go_wp2_with fail
  refine (toStakes_any _ _ _).mono ?_
  rintro e w3 ⟨rfl, hb⟩
  have bs_3 := Lib.hid (bs_2.out.keep hb)
  have bl_3 := Lib.hid (bel_trans bl_2.out hb)
  clear hb
  obtain ⟨cs0_3, cs1_3, ks_3⟩ := bs_3.out
  go_wp2_with fail
  refine (implCountRuins_any p g n _).mono ?_
  rintro e w4 ⟨rfl, hb⟩
  rw [Hv.out]
  have bs_4 := Lib.hid (bs_3.out.keep hb)
  have bl_4 := Lib.hid (bel_trans bl_3.out hb)
  clear hb
  obtain ⟨cs0_4, cs1_4, ks_4⟩ := bs_4.out
  go_wp2_with fail
  go_ret
  exact ⟨rfl, bl_4.out⟩

set_option maxRecDepth 100000 in
set_option maxHeartbeats 3200000 in
theorem specCountGoals_any (p g n : Int) (w : World) :
    Calls Try.prog 39 #[sk p g, .int .i64 n] w fun e w' => e = .returned (ansCT 1 p g n) ∧ Below w.heap.size w w' := by
  have bx0 := Lib.hid (Box2.new w (.int .i64 p) (.int .i64 g) 25)
  have bl0 := Lib.hid (bel_alloc (Below.refl _ w) (.cells #[.int .i64 p, .int .i64 g] 25))
  cases h : cpG p g 30 n
  · rw [ansCT_no h]
    go_enter Try.func39, Try.ntmps39
    go_wp2_with fail
    refine (skTossed_any p g n _).mono ?_
    rintro e w1 ⟨rfl, hb1⟩
    rw [h]
    go_wp2_with fail
    go_ret2
    exact ⟨rfl, bel_trans bl0.out hb1⟩
  · rw [ansCT_yes h]
    obtain ⟨hs, n0, n1⟩ := cp_in h
    obtain ⟨g0, g1, p0, p1⟩ := sk_in hs
    obtain ⟨P, rfl⟩ := Int.eq_ofNat_of_zero_le p0
    obtain ⟨G, rfl⟩ := Int.eq_ofNat_of_zero_le (show 0 ≤ g by omega)
    obtain ⟨N, rfl⟩ := Int.eq_ofNat_of_zero_le n0
    rw [show cval 1 (P : Int) (G : Int) (N : Int) = ctV P G N G from by simp [cval]]
    go_enter Try.func39, Try.ntmps39
    go_wp2_with fail
    refine (skTossed_any _ _ _ _).mono ?_
    rintro e w1 ⟨rfl, hb1⟩
    rw [h]
    have bx1 := Lib.hid (bx0.out.keep hb1)
    have bl1 := Lib.hid (bel_trans bl0.out hb1)
    clear hb1 h
    obtain ⟨c0, c1, hk⟩ := bx1.out
    go_wp2_with fail
    refine (skCount_any P G N _ (by omega) (by omega) (by omega) (by omega)).mono ?_
    rintro e w2 ⟨rfl, hb2⟩
    go_wp2_with fail
    go_ret2
    exact ⟨rfl, bel_trans bl1.out hb2⟩

set_option maxRecDepth 100000 in
set_option maxHeartbeats 3200000 in
theorem implCountGoals_any (p g n : Int) (w : World) :
    Calls Try.prog 40 #[sk p g, .int .i64 n] w fun e w' => e = .returned (ansCT 1 p g n) ∧ Below w.heap.size w w' := by
  have bx0 := Lib.hid (Box2.new w (.int .i64 p) (.int .i64 g) 25)
  have bl0 := Lib.hid (bel_alloc (Below.refl _ w) (.cells #[.int .i64 p, .int .i64 g] 25))
  cases h : cpG p g 30 n
  · rw [ansCT_no h]
    go_enter Try.func40, Try.ntmps40
    go_wp2_with fail
    refine (arePlays_any p g 30 n _).mono ?_
    rintro e w1 ⟨rfl, hb1⟩
    rw [h]
    go_wp2_with fail
    go_ret2
    exact ⟨rfl, bel_trans bl0.out hb1⟩
  · rw [ansCT_yes h]
    obtain ⟨hs, n0, n1⟩ := cp_in h
    obtain ⟨g0, g1, p0, p1⟩ := sk_in hs
    obtain ⟨P, rfl⟩ := Int.eq_ofNat_of_zero_le p0
    obtain ⟨G, rfl⟩ := Int.eq_ofNat_of_zero_le (show 0 ≤ g by omega)
    obtain ⟨N, rfl⟩ := Int.eq_ofNat_of_zero_le n0
    rw [show cval 1 (P : Int) (G : Int) (N : Int) = ctV P G N G from by simp [cval]]
    go_enter Try.func40, Try.ntmps40
    go_wp2_with fail
    refine (arePlays_any _ _ 30 _ _).mono ?_
    rintro e w1 ⟨rfl, hb1⟩
    rw [h]
    have bx1 := Lib.hid (bx0.out.keep hb1)
    have bl1 := Lib.hid (bel_trans bl0.out hb1)
    clear hb1 h
    obtain ⟨c0, c1, hk⟩ := bx1.out
    go_wp2_with fail
    have hC : Hid (∀ W : World, Calls Try.prog 65 #[sk P G, .int .i64 N] W fun e w' => e = .returned (.agg (iN 17 (ctV P G N))) ∧ Below W.heap.size W w') := Lib.hid (fun W => countTimid_any P G N W (by omega) (by omega) (by omega) (by omega))
    have hix := fun W => pu_idx (ctV P G N) W G (by omega)
    clear c0 c1 hk
    go_region_held3 (fun w' => w'.cell? ⟨w.heap.size, 0, none⟩ = some (.int .i64 P) ∧ w'.cell? ⟨w.heap.size, 1, none⟩ = some (.int .i64 G) ∧ w.heap.size < w'.heap.size ∧ Below w.heap.size w w')
      (first | exact held2_start bx1.out bl1.out | exact held2_keep (by assumption) hb3 | exact held2_drewN (by assumption) _ | assumption | go_keep)
      (first | (go_at_call 65; refine (hC.out _).mono ?_; rintro e w3 ⟨rfl, hb3⟩))
    all_goals
      obtain ⟨hbx9, hbl9⟩ := held2_below (by assumption)
      clear hbx9
      go_wp2
      go_ret2
      exact ⟨rfl, hbl9⟩

set_option maxRecDepth 100000 in
set_option maxHeartbeats 3200000 in
theorem walkExactCountGoals (p g n : Int) (w : World) (zp : (Lit.int .i64 p).wf = true) (zg : (Lit.int .i64 g).wf = true) (zn : (Lit.int .i64 n).wf = true) :
    Calls Try.prog 14 #[sk p g, .int .i64 n] w fun e w' => e = .returned (.bool true) ∧ Below w.heap.size w w' := by
  clear zp zg zn
  obtain ⟨x, ok, hv⟩ := ansCT_form 1 p g n
  have Hv := Lib.hid hv
  clear hv
  have hbA0 := bel_alloc (Below.refl _ w) (.cells #[.int .i64 p, .int .i64 g] 23)
  have bs_0 := Lib.hid (Box2.new w (.int .i64 p) (.int .i64 g) 23)
  have bl_0 := Lib.hid hbA0
  clear hbA0
  go_enter Try.func14, Try.ntmps14
  obtain ⟨cs0_0, cs1_0, ks_0⟩ := bs_0.out
  go_wp2_with fail
  refine (toStakes_any _ _ _).mono ?_
  rintro e w1 ⟨rfl, hb⟩
  have bs_1 := Lib.hid (bs_0.out.keep hb)
  have bl_1 := Lib.hid (bel_trans bl_0.out hb)
  clear hb
  obtain ⟨cs0_1, cs1_1, ks_1⟩ := bs_1.out
  go_wp2_with fail
  refine (specCountGoals_any p g n _).mono ?_
  rintro e w2 ⟨rfl, hb⟩
  rw [Hv.out]
  have bs_2 := Lib.hid (bs_1.out.keep hb)
  have bl_2 := Lib.hid (bel_trans bl_1.out hb)
  clear hb
  obtain ⟨cs0_2, cs1_2, ks_2⟩ := bs_2.out
  go_wp2_with fail
  refine (toStakes_any _ _ _).mono ?_
  rintro e w3 ⟨rfl, hb⟩
  have bs_3 := Lib.hid (bs_2.out.keep hb)
  have bl_3 := Lib.hid (bel_trans bl_2.out hb)
  clear hb
  obtain ⟨cs0_3, cs1_3, ks_3⟩ := bs_3.out
  go_wp2_with fail
  refine (implCountGoals_any p g n _).mono ?_
  rintro e w4 ⟨rfl, hb⟩
  rw [Hv.out]
  have bs_4 := Lib.hid (bs_3.out.keep hb)
  have bl_4 := Lib.hid (bel_trans bl_3.out hb)
  clear hb
  obtain ⟨cs0_4, cs1_4, ks_4⟩ := bs_4.out
  go_wp2_with fail
  go_ret
  exact ⟨rfl, bl_4.out⟩

end Go.Proofs.Ytfogipdhipipfaa
