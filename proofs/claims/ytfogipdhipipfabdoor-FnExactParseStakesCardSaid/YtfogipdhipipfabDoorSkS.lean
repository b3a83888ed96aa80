/- StakesText: the contracts of the program and of its model, and the walk. -/
import Derived.Test.YtfogipdhipipfabDoorSk
import Derived.Test.YtfogipdhipipfabDoorPtTxt
namespace Go.Proofs.YtfogipdhipipfabDoor
set_option linter.unusedSimpArgs false
open Go.ChangeShapes Go.WideShapes Go.ChangeAt Go.RowKit
set_option linter.unusedVariables false

theorem itoa_any (i : Nat) (hi : i < 100) (w : World) :
    Calls Tryd.prog 45 #[.int .i64 i] w fun e w' => e = .returned (.string (numS i)) ∧ w = w' :=
  (Tryd.strconv_Itoa_small i hi w).mono fun _ _ ⟨a, b⟩ => ⟨a, b.symm⟩
theorem numS_size (n : Nat) (h : n ≤ 16) : (numS n).size ≤ 2 := by
  have := dd_len 1 n (by omega)
  show (Lib.decDigits n).toArray.size ≤ 2
  simpa using this
/-- The text of stakes. -/
def skT (h o : Nat) : ByteArray := numS h ++ ⟨#[111, 102]⟩ ++ numS o
def ansSkT (h o : Int) : Value := if skG h o then .tuple #[.string (skT h.toNat o.toNat), .bool true] else .tuple #[.string ⟨#[]⟩, .bool false]
theorem ansSkT_form (h o : Int) : ∃ (x : ByteArray) (ok : Bool), ansSkT h o = .tuple #[.string x, .bool ok] := by
  unfold ansSkT
  split
  · exact ⟨_, _, rfl⟩
  · exact ⟨_, _, rfl⟩

set_option maxRecDepth 100000 in
set_option maxHeartbeats 3200000 in
theorem skText_any (h o : Nat) (w : World) (h1 : h ≤ 16) (h2 : o ≤ 16) :
    Calls Tryd.prog 44 #[sk h o] w fun e w' => e = .returned (.string (skT h o)) ∧ Below w.heap.size w w' := by
  have bx0 := Lib.hid (Box2.new w (.int .i64 h) (.int .i64 o) 27)
  have bl0 := bel_alloc (Below.refl _ w) (.cells #[.int .i64 h, .int .i64 o] 27)
  have t1 := numS_size h h1
  have t2 := numS_size o h2
  have hfin : Hid (numS h ++ ⟨#[111, 102]⟩ ++ numS o = skT h o) := rfl
  have z1 : (numS h ++ ⟨#[111, 102]⟩).size = (numS h).size + 2 := by rw [ByteArray.size_append]; rfl
  have hadd1 : ∀ W : World, (Op.stringOp .add (numS h) ⟨#[111, 102]⟩).run Tryd.prog W = .ok (.string (numS h ++ ⟨#[111, 102]⟩)) W := fun W => run_string_add W _ _ (by omega) (by show ((2 : Nat) : Int) ≤ 8388608; omega)
  have hadd2 : ∀ W : World, (Op.stringOp .add (numS h ++ ⟨#[111, 102]⟩) (numS o)).run Tryd.prog W = .ok (.string (numS h ++ ⟨#[111, 102]⟩ ++ numS o)) W := fun W => run_string_add W _ _ (by omega) (by omega)
  generalize numS h ++ ⟨#[111, 102]⟩ ++ numS o = T at *
  generalize numS h ++ ⟨#[111, 102]⟩ = U at *
  go_enter Tryd.func44, Tryd.ntmps44
  go_wp2_with fail
  go_region_held3 (fun w' => w'.cell? ⟨w.heap.size, 0, none⟩ = some (.int .i64 h) ∧ w'.cell? ⟨w.heap.size, 1, none⟩ = some (.int .i64 o) ∧ w.heap.size < w'.heap.size ∧ Below w.heap.size w w')
    (first | exact held2_start bx0.out bl0 | exact held2_keep (by assumption) hb3 | exact held2_keep (by assumption) hb4 | exact held2_drewN (by assumption) _ | assumption | go_keep)
    (first | (go_at_call_of 66 (Value.int IntKind.i64 (h : Int)); refine (l1Num_any h _ (by omega)).mono ?_; rintro e w3 ⟨rfl, hb3⟩) | (go_at_call_of 66 (Value.int IntKind.i64 (o : Int)); refine (l1Num_any o _ (by omega)).mono ?_; rintro e w4 ⟨rfl, hb4⟩))
  all_goals
    obtain ⟨hbx9, hbl9⟩ := held2_below (by assumption)
    clear hbx9
    go_wp2
    go_ret
    exact ⟨by rw [← hfin.out]; rfl, hbl9⟩

theorem sk_nat {h o : Int} (g : skG h o = true) : ∃ a b : Nat, h = a ∧ o = b ∧ a ≤ 16 ∧ b ≤ 16 := by
  obtain ⟨r1, r2, r3, r4⟩ := sk_in g
  exact ⟨h.toNat, o.toNat, by omega, by omega, by omega, by omega⟩

set_option maxRecDepth 100000 in
set_option maxHeartbeats 3200000 in
theorem specSkT_any (h o : Int) (w : World) :
    Calls Tryd.prog 18 #[sk h o] w fun e w' => e = .returned (ansSkT h o) ∧ Below w.heap.size w w' := by
  have bx0 := Lib.hid (Box2.new w (.int .i64 h) (.int .i64 o) 27)
  have bl0 := bel_alloc (Below.refl _ w) (.cells #[.int .i64 h, .int .i64 o] 27)
  cases h1 : skG h o
  · rw [show ansSkT h o = .tuple #[.string ⟨#[]⟩, .bool false] from by unfold ansSkT; rw [h1]; rfl]
    go_enter Tryd.func18, Tryd.ntmps18
    go_wp2_with fail
    refine (skGood_any _ _ _).mono ?_
    rintro e w1 ⟨rfl, hb1⟩
    rw [h1]
    have bl1 := bel_trans bl0 hb1
    go_wp2_with fail
    go_ret2
    exact ⟨rfl, bl1⟩
  · obtain ⟨a, b, rfl, rfl, ha, hb⟩ := sk_nat h1
    rw [show ansSkT a b = .tuple #[.string (skT a b), .bool true] from by unfold ansSkT; rw [h1]; rfl]
    go_enter Tryd.func18, Tryd.ntmps18
    go_wp2_with fail
    refine (skGood_any _ _ _).mono ?_
    rintro e w1 ⟨rfl, hb1⟩
    rw [h1]
    have bl1 := bel_trans bl0 hb1
    obtain ⟨c0, c1, hk⟩ := bx0.out.keep hb1
    go_wp2_with fail
    refine (skText_any a b _ ha hb).mono ?_
    rintro e w2 ⟨rfl, hb2⟩
    have bl2 := bel_trans bl1 hb2
    generalize hx : skT a b = x at *
    have Hx := Lib.hid hx
    clear hx
    go_wp2_with fail
    go_ret2
    exact ⟨by rw [Hx.out]; rfl, bl2⟩

set_option maxRecDepth 100000 in
set_option maxHeartbeats 3200000 in
theorem implSkT_any (h o : Int) (w : World) :
    Calls Tryd.prog 19 #[sk h o] w fun e w' => e = .returned (ansSkT h o) ∧ Below w.heap.size w w' := by
  have bx0 := Lib.hid (Box2.new w (.int .i64 h) (.int .i64 o) 27)
  have bl0 := bel_alloc (Below.refl _ w) (.cells #[.int .i64 h, .int .i64 o] 27)
  cases h1 : skG h o
  · rw [show ansSkT h o = .tuple #[.string ⟨#[]⟩, .bool false] from by unfold ansSkT; rw [h1]; rfl]
    go_enter Tryd.func19, Tryd.ntmps19
    go_wp2_with fail
    refine (implAreStakes_any _ _ _).mono ?_
    rintro e w1 ⟨rfl, hb1⟩
    rw [h1]
    have bl1 := bel_trans bl0 hb1
    go_wp2_with fail
    go_ret2
    exact ⟨rfl, bl1⟩
  · obtain ⟨h, o, rfl, rfl, h5, h6⟩ := sk_nat h1
    rw [show ansSkT h o = .tuple #[.string (skT h o), .bool true] from by unfold ansSkT; rw [h1]; rfl]
    have t1 := numS_size h h5
    have t2 := numS_size o h6
    have hfin : Hid (numS h ++ ⟨#[111, 102]⟩ ++ numS o = skT h o) := rfl
    have z1 : (numS h ++ ⟨#[111, 102]⟩).size = (numS h).size + 2 := by rw [ByteArray.size_append]; rfl
    have hadd1 : ∀ W : World, (Op.stringOp .add (numS h) ⟨#[111, 102]⟩).run Tryd.prog W = .ok (.string (numS h ++ ⟨#[111, 102]⟩)) W := fun W => run_string_add W _ _ (by omega) (by show ((2 : Nat) : Int) ≤ 8388608; omega)
    have hadd2 : ∀ W : World, (Op.stringOp .add (numS h ++ ⟨#[111, 102]⟩) (numS o)).run Tryd.prog W = .ok (.string (numS h ++ ⟨#[111, 102]⟩ ++ numS o)) W := fun W => run_string_add W _ _ (by omega) (by omega)
    generalize numS h ++ ⟨#[111, 102]⟩ ++ numS o = T at *
    generalize numS h ++ ⟨#[111, 102]⟩ = U at *
    go_enter Tryd.func19, Tryd.ntmps19
    go_wp2_with fail
    refine (implAreStakes_any _ _ _).mono ?_
    rintro e w1 ⟨rfl, hb1⟩
    rw [h1]
    have bx1 := Lib.hid (bx0.out.keep hb1)
    have bl1 := bel_trans bl0 hb1
    obtain ⟨c0, c1, hk⟩ := bx1.out
    go_wp2_with fail
    go_region_held3 (fun w' => w'.cell? ⟨w.heap.size, 0, none⟩ = some (.int .i64 h) ∧ w'.cell? ⟨w.heap.size, 1, none⟩ = some (.int .i64 o) ∧ w.heap.size < w'.heap.size ∧ Below w.heap.size w w')
      (first | exact held2_start bx1.out bl1 | exact held2_drewN (by assumption) _ | assumption | go_keep)
      (first | (go_at_call_of 45 (Value.int IntKind.i64 (h : Int)); refine (itoa_any h (by omega) _).mono ?_; rintro e w3 ⟨rfl, rfl⟩) | (go_at_call_of 45 (Value.int IntKind.i64 (o : Int)); refine (itoa_any o (by omega) _).mono ?_; rintro e w4 ⟨rfl, rfl⟩))
    all_goals
      obtain ⟨hbx9, hbl9⟩ := held2_below (by assumption)
      clear hbx9
      go_wp2
      go_ret2
      exact ⟨by rw [← hfin.out]; rfl, hbl9⟩

set_option maxHeartbeats 1600000 in
theorem walkExactStakesText (h o : Int) (w : World) (ha : (Lit.int .i64 h).wf = true) (hb : (Lit.int .i64 o).wf = true) :
    Calls Tryd.prog 5 #[sk h o] w fun e w' => e = .returned (.bool true) ∧ Below w.heap.size w w' := by
  clear ha hb
  obtain ⟨x, ok, hv⟩ := ansSkT_form h o
  have Hv := Lib.hid hv
  clear hv
  have bx := Lib.hid (Box2.new w (.int .i64 h) (.int .i64 o) 23)
  go_enter Tryd.func5, Tryd.ntmps5
  go_wp2_with fail
  refine (toStakes_any _ _ _).mono ?_
  rintro e w1 ⟨rfl, hb1⟩
  have bx1 := Lib.hid (bx.out.keep hb1)
  go_wp2_with fail
  refine (specSkT_any _ _ _).mono ?_
  rw [Hv.out]
  rintro e w2 ⟨rfl, hb2⟩
  obtain ⟨c0, c1, hk⟩ := bx1.out.keep hb2
  go_wp2_with fail
  refine (toStakes_any _ _ _).mono ?_
  rintro e w3 ⟨rfl, hb3⟩
  go_wp2_with fail
  refine (implSkT_any _ _ _).mono ?_
  rw [Hv.out]
  rintro e w4 ⟨rfl, hb4⟩
  go_wp2_with fail
  go_ret
  exact ⟨rfl, bel_trans (bel_trans (bel_trans (bel_trans (bel_alloc (Below.refl _ _) _) hb1) hb2) hb3) hb4⟩
end Go.Proofs.YtfogipdhipipfabDoor
