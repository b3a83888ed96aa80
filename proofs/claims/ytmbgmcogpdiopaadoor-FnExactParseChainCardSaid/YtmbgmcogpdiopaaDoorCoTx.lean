/- CoinText: the contracts of the program and of its model, and the walk. -/
import Derived.Test.YtmbgmcogpdiopaaDoorPtTxt
namespace Go.Proofs.YtmbgmcogpdiopaaDoor
open Go.ChangeShapes Go.WideShapes Go.ChangeAt Go.RowKit
set_option linter.unusedVariables false

theorem itoa_any (i : Nat) (hi : i < 100) (w : World) :
    Calls Tryd.prog 35 #[.int .i64 i] w fun e w' => e = .returned (.string (numS i)) ∧ w = w' :=
  (Tryd.strconv_Itoa_small i hi w).mono fun _ _ ⟨a, b⟩ => ⟨a, b.symm⟩
theorem numS_size (n : Nat) (h : n ≤ 10) : (numS n).size ≤ 2 := by
  have := dd_len 1 n (by omega)
  show (Lib.decDigits n).toArray.size ≤ 2
  simpa using this
/-- The text of a coin. -/
def coinT (h o : Nat) : ByteArray := numS h ++ ⟨#[47]⟩ ++ numS o
def ansCoT (h o : Int) : Value := if coinG h o then .tuple #[.string (coinT h.toNat o.toNat), .bool true] else .tuple #[.string ⟨#[]⟩, .bool false]
theorem ansCoT_form (h o : Int) : ∃ (x : ByteArray) (ok : Bool), ansCoT h o = .tuple #[.string x, .bool ok] := by
  unfold ansCoT
  split
  · exact ⟨_, _, rfl⟩
  · exact ⟨_, _, rfl⟩

theorem coin_nat {h o : Int} (g : coinG h o = true) : ∃ a b : Nat, h = a ∧ o = b ∧ a ≤ 10 ∧ b ≤ 10 := by
  obtain ⟨r1, r2, r3, r4⟩ := coin_in g
  exact ⟨h.toNat, o.toNat, by omega, by omega, by omega, by omega⟩

set_option maxRecDepth 100000 in
set_option maxHeartbeats 3200000 in
theorem implCoT_any (h o : Int) (w : World) :
    Calls Tryd.prog 20 #[cn h o] w fun e w' => e = .returned (ansCoT h o) ∧ Below w.heap.size w w' := by
  have bx0 := Lib.hid (Box2.new w (.int .i64 h) (.int .i64 o) 23)
  have bl0 := bel_alloc (Below.refl _ w) (.cells #[.int .i64 h, .int .i64 o] 23)
  cases h1 : coinG h o
  · rw [show ansCoT h o = .tuple #[.string ⟨#[]⟩, .bool false] from by unfold ansCoT; rw [h1]; rfl]
    go_enter Tryd.func20, Tryd.ntmps20
    go_wp2_with fail
    refine (implIsCoin_any _ _ _).mono ?_
    rintro e w1 ⟨rfl, hb1⟩
    rw [h1]
    have bl1 := bel_trans bl0 hb1
    go_wp2_with fail
    go_ret2
    exact ⟨rfl, bl1⟩
  · obtain ⟨h, o, rfl, rfl, h5, h6⟩ := coin_nat h1
    rw [show ansCoT h o = .tuple #[.string (coinT h o), .bool true] from by unfold ansCoT; rw [h1]; rfl]
    have t1 := numS_size h h5
    have t2 := numS_size o h6
    have hfin : Hid (numS h ++ ⟨#[47]⟩ ++ numS o = coinT h o) := rfl
    have z1 : (numS h ++ ⟨#[47]⟩).size = (numS h).size + 1 := by rw [ByteArray.size_append]; rfl
    have hadd1 : ∀ W : World, (Op.stringOp .add (numS h) ⟨#[47]⟩).run Tryd.prog W = .ok (.string (numS h ++ ⟨#[47]⟩)) W := fun W => run_string_add W _ _ (by omega) (by show ((1 : Nat) : Int) ≤ 8388608; omega)
    have hadd2 : ∀ W : World, (Op.stringOp .add (numS h ++ ⟨#[47]⟩) (numS o)).run Tryd.prog W = .ok (.string (numS h ++ ⟨#[47]⟩ ++ numS o)) W := fun W => run_string_add W _ _ (by omega) (by omega)
    generalize numS h ++ ⟨#[47]⟩ ++ numS o = T at *
    generalize numS h ++ ⟨#[47]⟩ = U at *
    go_enter Tryd.func20, Tryd.ntmps20
    go_wp2_with fail
    refine (implIsCoin_any _ _ _).mono ?_
    rintro e w1 ⟨rfl, hb1⟩
    rw [h1]
    have bx1 := Lib.hid (bx0.out.keep hb1)
    have bl1 := bel_trans bl0 hb1
    obtain ⟨c0, c1, hk⟩ := bx1.out
    go_wp2_with fail
    go_region_held3 (fun w' => w'.cell? ⟨w.heap.size, 0, none⟩ = some (.int .i64 h) ∧ w'.cell? ⟨w.heap.size, 1, none⟩ = some (.int .i64 o) ∧ w.heap.size < w'.heap.size ∧ Below w.heap.size w w')
      (first | exact held2_start bx1.out bl1 | exact held2_drewN (by assumption) _ | assumption | go_keep)
      (first | (go_at_call_of 35 (Value.int IntKind.i64 (h : Int)); refine (itoa_any h (by omega) _).mono ?_; rintro e w3 ⟨rfl, rfl⟩) | (go_at_call_of 35 (Value.int IntKind.i64 (o : Int)); refine (itoa_any o (by omega) _).mono ?_; rintro e w4 ⟨rfl, rfl⟩))
    all_goals
      obtain ⟨hbx9, hbl9⟩ := held2_below (by assumption)
      clear hbx9
      go_wp2
      go_ret2
      exact ⟨by rw [← hfin.out]; rfl, hbl9⟩

end Go.Proofs.YtmbgmcogpdiopaaDoor
