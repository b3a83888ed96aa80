/- LeadingNumber and MeanRace: contracts of the program and of its model. -/
import Derived.Test.YtjckmnbpfmcadabDoorRcL
namespace Go.Proofs.YtjckmnbpfmcadabDoor
set_option linter.unusedSimpArgs false
open Go.ChangeShapes Go.WideShapes Go.ChangeAt Go.RowKit
set_option linter.unusedVariables false

/- LeadingNumber. -/
def ldG (h o : Int) (a b : ByteArray) : Bool := rcG h o && (racG a && (racG b && decide (a.size = b.size)))
theorem ldG_in {h o : Int} {a b : ByteArray} (g : ldG h o a b = true) : rcG h o = true ∧ allT a = true ∧ allT b = true ∧ a.size = b.size ∧ 1 ≤ a.size ∧ a.size ≤ 5 ∧ racG a = true ∧ racG b = true := by
  unfold ldG at g
  simp only [Bool.and_eq_true, decide_eq_true_iff] at g
  obtain ⟨a1, a2, a3⟩ := rac_in g.2.1
  obtain ⟨b1, b2, b3⟩ := rac_in g.2.2.1
  exact ⟨g.1, a3, b3, g.2.2.2, a1, a2, g.2.1, g.2.2.1⟩
def ansLN (h o : Int) (a b : ByteArray) : Value := if ldG h o a b then lowV (ldN h o a b) ((h * (o - h)) ^ a.size) else failV
theorem ansLN_form (h o : Int) (a b : ByteArray) : ∃ (x y : Int) (ok : Bool), ansLN h o a b = .tuple #[.int .i64 x, .int .i64 y, .bool ok] := if_form _ (lowV_form _ _) failV_form

set_option maxHeartbeats 1600000 in
theorem specLN_any (h o : Int) (a b : ByteArray) (w : World) (ha : a.size ≤ maxLen) (hb : b.size ≤ maxLen) :
    Calls Tryd.prog 14 #[cn h o, .string a, .string b] w fun e w' => e = .returned (ansLN h o a b) ∧ Below w.heap.size w w' := by
  have bx0 := Lib.hid (Box2.new w (.int .i64 h) (.int .i64 o) 27)
  have bl0 : Below w.heap.size w (w.alloc (.cells #[.int .i64 h, .int .i64 o] 27)) := bel_alloc (Below.refl _ _) _
  cases h1 : rcG h o
  · rw [show ansLN h o a b = failV from by unfold ansLN ldG; rw [h1]; rfl]
    unfold failV
    go_enter Tryd.func14, Tryd.ntmps14
    go_wp2_with fail
    refine (raCoin_any h o _).mono ?_
    rintro e w1 ⟨rfl, hb1⟩
    rw [h1]
    go_wp2_with fail
    go_ret3
    exact ⟨rfl, bel_trans bl0 hb1⟩
  cases h2 : racG a
  · rw [show ansLN h o a b = failV from by unfold ansLN ldG; rw [h1, h2]; rfl]
    unfold failV
    go_enter Tryd.func14, Tryd.ntmps14
    go_wp2_with fail
    refine (raCoin_any h o _).mono ?_
    rintro e w1 ⟨rfl, hb1⟩
    rw [h1]
    go_wp2_with fail
    refine (raPattern_any a _ ha).mono ?_
    rintro e w2 ⟨rfl, rfl⟩
    rw [h2]
    go_wp2_with fail
    go_ret3
    exact ⟨rfl, bel_trans bl0 hb1⟩
  cases h3 : racG b
  · rw [show ansLN h o a b = failV from by unfold ansLN ldG; rw [h1, h2, h3]; rfl]
    unfold failV
    go_enter Tryd.func14, Tryd.ntmps14
    go_wp2_with fail
    refine (raCoin_any h o _).mono ?_
    rintro e w1 ⟨rfl, hb1⟩
    rw [h1]
    go_wp2_with fail
    refine (raPattern_any a _ ha).mono ?_
    rintro e w2 ⟨rfl, rfl⟩
    rw [h2]
    go_wp2_with fail
    refine (raPattern_any b _ hb).mono ?_
    rintro e w3 ⟨rfl, rfl⟩
    rw [h3]
    go_wp2_with fail
    go_ret3
    exact ⟨rfl, bel_trans bl0 hb1⟩
  by_cases h4 : a.size = b.size
  · have hl : ldG h o a b = true := by unfold ldG; rw [h1, h2, h3]; simpa using h4
    rw [show ansLN h o a b = lowV (ldN h o a b) ((h * (o - h)) ^ a.size) from by unfold ansLN; rw [hl]; rfl]
    unfold lowV
    obtain ⟨g, ta, tb, ts, t1, t5, _, _⟩ := ldG_in hl
    obtain ⟨g1, r1, r2, r3, r4⟩ := rc_in g
    obtain ⟨n0, n1⟩ := ldN_in h o a b r1 r2 r4 ta tb ts t1 t5
    obtain ⟨p0, p1⟩ := pow_ht h o r1 r2 r4 a.size t5
    have LL := Lib.hid (fun W => specLead_any h o a b W g ts t5)
    have LO := Lib.hid (fun W => raAll_any h o a.size W g t5)
    have h4' : ((a.size : Int) != (b.size : Int)) = false := by simp; omega
    have h4'' : (a.size : Int) = (b.size : Int) := by omega
    generalize ldN h o a b = N at *
    generalize (h * (o - h)) ^ a.size = D at *
    clear h4 ts
    have H4 := Lib.hid h4''
    have H4' := Lib.hid h4'
    clear h4'' h4' hl
    go_enter Tryd.func14, Tryd.ntmps14
    go_wp2_with fail
    refine (raCoin_any h o _).mono ?_
    rintro e w1 ⟨rfl, hb1⟩
    rw [h1]
    have bx1 := Lib.hid (bx0.out.keep hb1)
    have bl1 := bel_trans bl0 hb1
    obtain ⟨c0_1, c1_1, hk1⟩ := bx1.out
    go_wp2_with fail
    refine (raPattern_any a _ ha).mono ?_
    rintro e w2 ⟨rfl, rfl⟩
    rw [h2]
    go_wp2_with fail
    refine (raPattern_any b _ hb).mono ?_
    rintro e w3 ⟨rfl, rfl⟩
    rw [h3]
    have h4' := H4'.out
    go_wp2_with fail
    clear h4'
    go_region_held3 (fun w' => w'.cell? ⟨w.heap.size, 0, none⟩ = some (.int .i64 h) ∧ w'.cell? ⟨w.heap.size, 1, none⟩ = some (.int .i64 o) ∧ w.heap.size < w'.heap.size ∧ Below w.heap.size w w')
      (first | exact held2_start bx1.out bl1 | exact held2_keep (by assumption) hb5 | exact held2_drewN (by assumption) _ | assumption | go_keep)
      (first | (go_at_call 39; refine (LL.out _).mono ?_; rintro e w5 ⟨rfl, hb5⟩) | (go_at_call 40; refine (LO.out _).mono ?_; rintro e w6 ⟨rfl, hb5⟩) | (go_at_call 38; refine (cnLow_any N D _ (by omega) (by omega) (by omega) (by omega)).mono ?_; rintro e w7 ⟨rfl, n7, rfl⟩))
    all_goals
      obtain ⟨hbx9, hbl9⟩ := held2_below (by assumption)
      clear hbx9
      go_wp2
      go_ret3
      exact ⟨rfl, hbl9⟩
  · rw [show ansLN h o a b = failV from by unfold ansLN ldG; rw [h1, h2, h3, decide_eq_false h4]; rfl]
    unfold failV
    have h4' : ((a.size : Int) != (b.size : Int)) = true := by simp; omega
    go_enter Tryd.func14, Tryd.ntmps14
    go_wp2_with fail
    refine (raCoin_any h o _).mono ?_
    rintro e w1 ⟨rfl, hb1⟩
    rw [h1]
    go_wp2_with fail
    refine (raPattern_any a _ ha).mono ?_
    rintro e w2 ⟨rfl, rfl⟩
    rw [h2]
    go_wp2_with fail
    refine (raPattern_any b _ hb).mono ?_
    rintro e w3 ⟨rfl, rfl⟩
    rw [h3]
    go_wp2_with fail
    go_ret3
    exact ⟨rfl, bel_trans bl0 hb1⟩
set_option maxHeartbeats 1600000 in
theorem implLN_any (h o : Int) (a b : ByteArray) (w : World) (ha : a.size ≤ maxLen) (hb : b.size ≤ maxLen) :
    Calls Tryd.prog 16 #[cn h o, .string a, .string b] w fun e w' => e = .returned (ansLN h o a b) ∧ Below w.heap.size w w' := by
  have bx0 := Lib.hid (Box2.new w (.int .i64 h) (.int .i64 o) 27)
  have bl0 : Below w.heap.size w (w.alloc (.cells #[.int .i64 h, .int .i64 o] 27)) := bel_alloc (Below.refl _ _) _
  cases h1 : rcG h o
  · rw [show ansLN h o a b = failV from by unfold ansLN ldG; rw [h1]; rfl]
    unfold failV
    go_enter Tryd.func16, Tryd.ntmps16
    go_wp2_with fail
    refine (isRaceCoin_any h o _).mono ?_
    rintro e w1 ⟨rfl, hb1⟩
    rw [h1]
    go_wp2_with fail
    go_ret3
    exact ⟨rfl, bel_trans bl0 hb1⟩
  cases h2 : racG a
  · rw [show ansLN h o a b = failV from by unfold ansLN ldG; rw [h1, h2]; rfl]
    unfold failV
    go_enter Tryd.func16, Tryd.ntmps16
    go_wp2_with fail
    refine (isRaceCoin_any h o _).mono ?_
    rintro e w1 ⟨rfl, hb1⟩
    rw [h1]
    go_wp2_with fail
    refine (isRacer_any a _ ha).mono ?_
    rintro e w2 ⟨rfl, hb2⟩
    rw [h2]
    go_wp2_with fail
    go_ret3
    exact ⟨rfl, bel_trans (bel_trans bl0 hb1) hb2⟩
  cases h3 : racG b
  · rw [show ansLN h o a b = failV from by unfold ansLN ldG; rw [h1, h2, h3]; rfl]
    unfold failV
    go_enter Tryd.func16, Tryd.ntmps16
    go_wp2_with fail
    refine (isRaceCoin_any h o _).mono ?_
    rintro e w1 ⟨rfl, hb1⟩
    rw [h1]
    go_wp2_with fail
    refine (isRacer_any a _ ha).mono ?_
    rintro e w2 ⟨rfl, hb2⟩
    rw [h2]
    go_wp2_with fail
    refine (isRacer_any b _ hb).mono ?_
    rintro e w3 ⟨rfl, hb3⟩
    rw [h3]
    go_wp2_with fail
    go_ret3
    exact ⟨rfl, bel_trans (bel_trans (bel_trans bl0 hb1) hb2) hb3⟩
  by_cases h4 : a.size = b.size
  · have hl : ldG h o a b = true := by unfold ldG; rw [h1, h2, h3]; simpa using h4
    rw [show ansLN h o a b = lowV (ldN h o a b) ((h * (o - h)) ^ a.size) from by unfold ansLN; rw [hl]; rfl]
    unfold lowV
    obtain ⟨g, ta, tb, ts, t1, t5, _, _⟩ := ldG_in hl
    obtain ⟨g1, r1, r2, r3, r4⟩ := rc_in g
    obtain ⟨n0, n1⟩ := ldN_in h o a b r1 r2 r4 ta tb ts t1 t5
    obtain ⟨p0, p1⟩ := pow_ht h o r1 r2 r4 a.size t5
    have LL := Lib.hid (fun W => implLead_any h o a b W g ta ts t5)
    have LO := Lib.hid (fun W => leadingOf_any h o a.size W g t5)
    have h4' : ((a.size : Int) != (b.size : Int)) = false := by simp; omega
    have h4'' : (a.size : Int) = (b.size : Int) := by omega
    generalize ldN h o a b = N at *
    generalize (h * (o - h)) ^ a.size = D at *
    clear h4 ts
    have H4 := Lib.hid h4''
    have H4' := Lib.hid h4'
    clear h4'' h4' hl
    go_enter Tryd.func16, Tryd.ntmps16
    go_wp2_with fail
    refine (isRaceCoin_any h o _).mono ?_
    rintro e w1 ⟨rfl, hb1⟩
    rw [h1]
    have bx1 := Lib.hid (bx0.out.keep hb1)
    have bl1 := bel_trans bl0 hb1
    obtain ⟨c0_1, c1_1, hk1⟩ := bx1.out
    go_wp2_with fail
    refine (isRacer_any a _ ha).mono ?_
    rintro e w2 ⟨rfl, hb2⟩
    rw [h2]
    go_wp2_with fail
    refine (isRacer_any b _ hb).mono ?_
    rintro e w3 ⟨rfl, hb3⟩
    rw [h3]
    have bx3 := Lib.hid ((bx1.out.keep hb2).keep hb3)
    have bl3 := bel_trans (bel_trans bl1 hb2) hb3
    clear hb2 hb3
    obtain ⟨c0_3, c1_3, hk3⟩ := bx3.out
    have h4' := H4'.out
    go_wp2_with fail
    clear h4'
    go_region_held3 (fun w' => w'.cell? ⟨w.heap.size, 0, none⟩ = some (.int .i64 h) ∧ w'.cell? ⟨w.heap.size, 1, none⟩ = some (.int .i64 o) ∧ w.heap.size < w'.heap.size ∧ Below w.heap.size w w')
      (first | exact held2_start bx3.out bl3 | exact held2_keep (by assumption) hb5 | exact held2_drewN (by assumption) _ | assumption | go_keep)
      (first | (go_at_call 44; refine (LL.out _).mono ?_; rintro e w5 ⟨rfl, hb5⟩) | (go_at_call 45; refine (LO.out _).mono ?_; rintro e w6 ⟨rfl, hb5⟩) | (go_at_call 43; refine (told_any N D _ (by omega) (by omega) (by omega) (by omega)).mono ?_; rintro e w7 ⟨rfl, n7, rfl⟩))
    all_goals
      obtain ⟨hbx9, hbl9⟩ := held2_below (by assumption)
      clear hbx9
      go_wp2
      go_ret3
      exact ⟨rfl, hbl9⟩
  · rw [show ansLN h o a b = failV from by unfold ansLN ldG; rw [h1, h2, h3, decide_eq_false h4]; rfl]
    unfold failV
    have h4' : ((a.size : Int) != (b.size : Int)) = true := by simp; omega
    go_enter Tryd.func16, Tryd.ntmps16
    go_wp2_with fail
    refine (isRaceCoin_any h o _).mono ?_
    rintro e w1 ⟨rfl, hb1⟩
    rw [h1]
    go_wp2_with fail
    refine (isRacer_any a _ ha).mono ?_
    rintro e w2 ⟨rfl, hb2⟩
    rw [h2]
    go_wp2_with fail
    refine (isRacer_any b _ hb).mono ?_
    rintro e w3 ⟨rfl, hb3⟩
    rw [h3]
    go_wp2_with fail
    go_ret3
    exact ⟨rfl, bel_trans (bel_trans (bel_trans bl0 hb1) hb2) hb3⟩
/- MeanRace. -/
def mrN (h o : Int) (a b : ByteArray) : Int := odF h o a b * ldN h o a a + odO h o a b * ldN h o b a
def mrD (h o : Int) (a b : ByteArray) : Int := (odF h o a b + odO h o a b) * (h * (o - h)) ^ a.size
def ansMR (h o : Int) (a b : ByteArray) : Value := if rcG h o && twoG a b then lowV (mrN h o a b) (mrD h o a b) else failV
theorem ansMR_form (h o : Int) (a b : ByteArray) : ∃ (x y : Int) (ok : Bool), ansMR h o a b = .tuple #[.int .i64 x, .int .i64 y, .bool ok] := if_form _ (lowV_form _ _) failV_form
theorem prod_in {x y m k : Int} (hx0 : 0 ≤ x) (hx : x ≤ m) (hy0 : 0 ≤ y) (hy : y ≤ k) : 0 ≤ x * y ∧ x * y ≤ m * k :=
  ⟨Int.mul_nonneg hx0 hy0, Int.mul_le_mul hx hy hy0 (by omega)⟩

set_option maxRecDepth 100000 in
set_option maxHeartbeats 3200000 in
theorem specMR_any (h o : Int) (a b : ByteArray) (w : World) (ha : a.size ≤ maxLen) (hb : b.size ≤ maxLen) :
    Calls Tryd.prog 19 #[cn h o, .string a, .string b] w fun e w' => e = .returned (ansMR h o a b) ∧ Below w.heap.size w w' := by
  have bx0 := Lib.hid (Box2.new w (.int .i64 h) (.int .i64 o) 27)
  have bl0 : Below w.heap.size w (w.alloc (.cells #[.int .i64 h, .int .i64 o] 27)) := bel_alloc (Below.refl _ _) _
  cases h1 : (rcG h o && twoG a b)
  · rw [show ansMR h o a b = failV from by unfold ansMR; rw [h1]; rfl]
    unfold failV
    go_enter Tryd.func19, Tryd.ntmps19
    go_wp2_with fail
    refine (raAsked_any h o a b _ ha hb).mono ?_
    rintro e w1 ⟨rfl, hb1⟩
    rw [h1]
    go_wp2_with fail
    go_ret3
    exact ⟨rfl, bel_trans bl0 hb1⟩
  · rw [show ansMR h o a b = lowV (mrN h o a b) (mrD h o a b) from by unfold ansMR; rw [h1]; rfl]
    unfold lowV mrN mrD
    obtain ⟨g, t⟩ := ask_in h1
    obtain ⟨f1, f2, o1, o2, hg⟩ := od_all g t
    obtain ⟨g1, r1, r2, r3, r4⟩ := rc_in g
    obtain ⟨ta, tb, ts, t1, t5, tn⟩ := two_use t
    obtain ⟨n0, n1⟩ := ldN_in h o a a r1 r2 r4 ta ta rfl t1 t5
    obtain ⟨m0, m1⟩ := ldN_in h o b a r1 r2 r4 tb ta ts.symm (by omega) (by omega)
    obtain ⟨p0, p1⟩ := pow_ht h o r1 r2 r4 a.size t5
    have RO := Lib.hid (fun W => raOdds_any h o a b W g t)
    have LL := Lib.hid (leadS g t)
    have LO := Lib.hid (fun W => raAll_any h o a.size W g t5)
    generalize odF h o a b = F at *
    generalize odO h o a b = O at *
    have L1 := Lib.hid (fun W => LL.out a a W (by simp) (by simp))
    have L2 := Lib.hid (fun W => LL.out b a W (by simp) (by simp))
    generalize ldN h o a a = N at *
    generalize ldN h o b a = M at *
    generalize (h * (o - h)) ^ a.size = D at *
    obtain ⟨c0, c1⟩ := prod_in (show 0 ≤ F by omega) f2 n0 n1
    obtain ⟨d0, d1⟩ := prod_in (show 0 ≤ O by omega) o2 m0 m1
    obtain ⟨e0, e1⟩ := prod_in (show 0 ≤ F + O by omega) (show F + O ≤ 800000 by omega) (show 0 ≤ D by omega) p1
    have e2 : 1 ≤ (F + O) * D := by have := Int.mul_le_mul (show (1 : Int) ≤ F + O by omega) p0 (by omega) (by omega); omega
    have LT := Lib.hid (fun W => cnLow_any (F * N + O * M) ((F + O) * D) W (by omega) e2 (by omega) (by omega))
    have hw1 : IntKind.i64.wrap (F * N) = F * N := IntWalk.i64_in _ (by omega)
    have hw2 : IntKind.i64.wrap (O * M) = O * M := IntWalk.i64_in _ (by omega)
    have hw3 : IntKind.i64.wrap (F * N + O * M) = F * N + O * M := IntWalk.i64_in _ (by omega)
    have hw4 : IntKind.i64.wrap (F + O) = F + O := IntWalk.i64_in _ (by omega)
    have hw5 : IntKind.i64.wrap ((F + O) * D) = (F + O) * D := IntWalk.i64_in _ (by omega)
    clear hg t g ta tb ts tn
    go_enter Tryd.func19, Tryd.ntmps19
    go_wp2_with fail
    refine (raAsked_any h o a b _ ha hb).mono ?_
    rintro e w1 ⟨rfl, hb1⟩
    rw [h1]
    have bx1 := Lib.hid (bx0.out.keep hb1)
    have bl1 := bel_trans bl0 hb1
    obtain ⟨c0_1, c1_1, hk1⟩ := bx1.out
    go_wp2_with fail
    refine (RO.out _).mono ?_
    rintro e w2 ⟨rfl, hb2⟩
    have bx2 := Lib.hid (bx1.out.keep hb2)
    have bl2 := bel_trans bl1 hb2
    obtain ⟨c0_2, c1_2, hk2⟩ := bx2.out
    go_wp2_with fail
    go_region_held3 (fun w' => w'.cell? ⟨w.heap.size, 0, none⟩ = some (.int .i64 h) ∧ w'.cell? ⟨w.heap.size, 1, none⟩ = some (.int .i64 o) ∧ w.heap.size < w'.heap.size ∧ Below w.heap.size w w')
      (first | exact held2_start bx2.out bl2 | exact held2_keep (by assumption) hb5 | exact held2_drewN (by assumption) _ | assumption | go_keep)
      (first | (go_at_call_of 39 (Value.string b); refine (L2.out _).mono ?_; rintro e w5 ⟨rfl, hb5⟩) | (go_at_call 39; refine (L1.out _).mono ?_; rintro e w5 ⟨rfl, hb5⟩) | (go_at_call 40; refine (LO.out _).mono ?_; rintro e w6 ⟨rfl, hb5⟩) | (go_at_call 38; refine (LT.out _).mono ?_; rintro e w7 ⟨rfl, n7, rfl⟩))
    all_goals
      obtain ⟨hbx9, hbl9⟩ := held2_below (by assumption)
      clear hbx9
      go_wp2
      go_ret3
      exact ⟨rfl, hbl9⟩
end Go.Proofs.YtjckmnbpfmcadabDoor
