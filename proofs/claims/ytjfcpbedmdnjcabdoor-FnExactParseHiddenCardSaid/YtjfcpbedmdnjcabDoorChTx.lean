/- ChainText: the contracts of the program and of its model, and the walk. -/
import Derived.Test.YtjfcpbedmdnjcabDoorCoTx
namespace Go.Proofs.YtjfcpbedmdnjcabDoor
set_option linter.unusedSimpArgs false
open Go.ChangeShapes Go.WideShapes Go.ChangeAt Go.RowKit
set_option linter.unusedVariables false

theorem hc3_start {w W : World} {k0 : Nat} {x0_0 x0_1 x0_2 : Value} (h0 : Box3 W k0 x0_0 x0_1 x0_2) (hb : Below w.heap.size w W) : let V := W.drew
    V.cell? ⟨k0, 0, none⟩ = some x0_0 ∧ V.cell? ⟨k0, 1, none⟩ = some x0_1 ∧ V.cell? ⟨k0, 2, none⟩ = some x0_2 ∧ k0 < V.heap.size ∧ Below w.heap.size w V := ⟨h0.1, h0.2.1, h0.2.2.1, h0.2.2.2, hb.drew⟩
theorem hc3_keep {w W w1 : World} {k0 : Nat} {x0_0 x0_1 x0_2 : Value} (h : W.cell? ⟨k0, 0, none⟩ = some x0_0 ∧ W.cell? ⟨k0, 1, none⟩ = some x0_1 ∧ W.cell? ⟨k0, 2, none⟩ = some x0_2 ∧ k0 < W.heap.size ∧ Below w.heap.size w W) (hb : Below W.heap.size W w1) : w1.cell? ⟨k0, 0, none⟩ = some x0_0 ∧ w1.cell? ⟨k0, 1, none⟩ = some x0_1 ∧ w1.cell? ⟨k0, 2, none⟩ = some x0_2 ∧ k0 < w1.heap.size ∧ Below w.heap.size w w1 := by
  obtain ⟨a0_0, a0_1, a0_2, a0_3, hl⟩ := h
  have b0 : Box3 w1 k0 x0_0 x0_1 x0_2 := Box3.keep ⟨a0_0, a0_1, a0_2, a0_3⟩ hb
  exact ⟨b0.1, b0.2.1, b0.2.2.1, b0.2.2.2, bel_trans hl hb⟩
theorem hc3_drewN {w W : World} {k0 : Nat} {x0_0 x0_1 x0_2 : Value} (h : W.cell? ⟨k0, 0, none⟩ = some x0_0 ∧ W.cell? ⟨k0, 1, none⟩ = some x0_1 ∧ W.cell? ⟨k0, 2, none⟩ = some x0_2 ∧ k0 < W.heap.size ∧ Below w.heap.size w W) (n : Nat) : let V := W.drewN n
    V.cell? ⟨k0, 0, none⟩ = some x0_0 ∧ V.cell? ⟨k0, 1, none⟩ = some x0_1 ∧ V.cell? ⟨k0, 2, none⟩ = some x0_2 ∧ k0 < V.heap.size ∧ Below w.heap.size w V := by
  obtain ⟨a0_0, a0_1, a0_2, a0_3, hl⟩ := h
  exact ⟨a0_0, a0_1, a0_2, a0_3, bel_drewN hl n⟩
theorem hc3_below {w W : World} {k0 : Nat} {x0_0 x0_1 x0_2 : Value} (h : W.cell? ⟨k0, 0, none⟩ = some x0_0 ∧ W.cell? ⟨k0, 1, none⟩ = some x0_1 ∧ W.cell? ⟨k0, 2, none⟩ = some x0_2 ∧ k0 < W.heap.size ∧ Below w.heap.size w W) : Box3 W k0 x0_0 x0_1 x0_2 ∧ Below w.heap.size w W := by
  obtain ⟨a0_0, a0_1, a0_2, a0_3, hl⟩ := h
  exact ⟨⟨a0_0, a0_1, a0_2, a0_3⟩, hl⟩

/-- The text of a chain. -/
def chainT (a b c : Nat) : ByteArray := numS a ++ ⟨#[45]⟩ ++ numS b ++ ⟨#[47]⟩ ++ numS c
def ansChT (a b c : Int) : Value := if good a b c then .tuple #[.string (chainT a.toNat b.toNat c.toNat), .bool true] else .tuple #[.string ⟨#[]⟩, .bool false]
theorem ansChT_form (a b c : Int) : ∃ (x : ByteArray) (ok : Bool), ansChT a b c = .tuple #[.string x, .bool ok] := by
  unfold ansChT
  split
  · exact ⟨_, _, rfl⟩
  · exact ⟨_, _, rfl⟩
theorem chain_nat {a b c : Int} (g : good a b c = true) : ∃ x y z : Nat, a = x ∧ b = y ∧ c = z ∧ x ≤ 10 ∧ y ≤ 10 ∧ z ≤ 10 := by
  unfold good inB at g
  simp at g
  exact ⟨a.toNat, b.toNat, c.toNat, by omega, by omega, by omega, by omega, by omega, by omega⟩

set_option maxRecDepth 100000 in
set_option maxHeartbeats 3200000 in
theorem cnText_any (a b c : Nat) (w : World) (h1 : a ≤ 10) (h2 : b ≤ 10) (h3 : c ≤ 10) :
    Calls Tryd.prog 49 #[chn a b c] w fun e w' => e = .returned (.string (chainT a b c)) ∧ Below w.heap.size w w' := by
  have bx0 := Lib.hid (Box3.new w (.int .i64 a) (.int .i64 b) (.int .i64 c) 28)
  have bl0 := bel_alloc (Below.refl _ w) (.cells #[.int .i64 a, .int .i64 b, .int .i64 c] 28)
  have t1 := numS_size a h1
  have t2 := numS_size b h2
  have t3 := numS_size c h3
  have hfin : Hid (numS a ++ ⟨#[45]⟩ ++ numS b ++ ⟨#[47]⟩ ++ numS c = chainT a b c) := rfl
  have z1 : (numS a ++ ⟨#[45]⟩).size = (numS a).size + 1 := by rw [ByteArray.size_append]; rfl
  have z2 : (numS a ++ ⟨#[45]⟩ ++ numS b).size = (numS a).size + 1 + (numS b).size := by rw [ByteArray.size_append, z1]
  have z3 : (numS a ++ ⟨#[45]⟩ ++ numS b ++ ⟨#[47]⟩).size = (numS a).size + 1 + (numS b).size + 1 := by rw [ByteArray.size_append, z2]; rfl
  have hadd1 : ∀ W : World, (Op.stringOp .add (numS a) ⟨#[45]⟩).run Tryd.prog W = .ok (.string (numS a ++ ⟨#[45]⟩)) W := fun W => run_string_add W _ _ (by omega) (by show ((1 : Nat) : Int) ≤ 8388608; omega)
  have hadd2 : ∀ W : World, (Op.stringOp .add (numS a ++ ⟨#[45]⟩) (numS b)).run Tryd.prog W = .ok (.string (numS a ++ ⟨#[45]⟩ ++ numS b)) W := fun W => run_string_add W _ _ (by omega) (by omega)
  have hadd3 : ∀ W : World, (Op.stringOp .add (numS a ++ ⟨#[45]⟩ ++ numS b) ⟨#[47]⟩).run Tryd.prog W = .ok (.string (numS a ++ ⟨#[45]⟩ ++ numS b ++ ⟨#[47]⟩)) W := fun W => run_string_add W _ _ (by omega) (by show ((1 : Nat) : Int) ≤ 8388608; omega)
  have hadd4 : ∀ W : World, (Op.stringOp .add (numS a ++ ⟨#[45]⟩ ++ numS b ++ ⟨#[47]⟩) (numS c)).run Tryd.prog W = .ok (.string (numS a ++ ⟨#[45]⟩ ++ numS b ++ ⟨#[47]⟩ ++ numS c)) W := fun W => run_string_add W _ _ (by omega) (by omega)
  generalize numS a ++ ⟨#[45]⟩ ++ numS b ++ ⟨#[47]⟩ ++ numS c = T4 at *
  generalize numS a ++ ⟨#[45]⟩ ++ numS b ++ ⟨#[47]⟩ = T3 at *
  generalize numS a ++ ⟨#[45]⟩ ++ numS b = T2 at *
  generalize numS a ++ ⟨#[45]⟩ = T1 at *
  go_enter Tryd.func49, Tryd.ntmps49
  go_wp2_with fail
  go_region_held3 (fun w' => w'.cell? ⟨w.heap.size, 0, none⟩ = some (.int .i64 a) ∧ w'.cell? ⟨w.heap.size, 1, none⟩ = some (.int .i64 b) ∧ w'.cell? ⟨w.heap.size, 2, none⟩ = some (.int .i64 c) ∧ w.heap.size < w'.heap.size ∧ Below w.heap.size w w')
    (first | exact hc3_start bx0.out bl0 | exact hc3_keep (by assumption) hb3 | exact hc3_keep (by assumption) hb4 | exact hc3_keep (by assumption) hb5 | exact hc3_drewN (by assumption) _ | assumption | go_keep)
    (first | (go_at_call_of 50 (Value.int IntKind.i64 (a : Int)); refine (l1Num_any a _ (by omega)).mono ?_; rintro e w3 ⟨rfl, hb3⟩) | (go_at_call_of 50 (Value.int IntKind.i64 (b : Int)); refine (l1Num_any b _ (by omega)).mono ?_; rintro e w4 ⟨rfl, hb4⟩) | (go_at_call_of 50 (Value.int IntKind.i64 (c : Int)); refine (l1Num_any c _ (by omega)).mono ?_; rintro e w5 ⟨rfl, hb5⟩))
  all_goals
    obtain ⟨hbx9, hbl9⟩ := hc3_below (by assumption)
    clear hbx9
    go_wp2
    go_ret
    exact ⟨by rw [← hfin.out]; rfl, hbl9⟩

set_option maxRecDepth 100000 in
set_option maxHeartbeats 3200000 in
theorem implChT_any (a b c : Int) (w : World) :
    Calls Tryd.prog 28 #[chn a b c] w fun e w' => e = .returned (ansChT a b c) ∧ Below w.heap.size w w' := by
  have bx0 := Lib.hid (Box3.new w (.int .i64 a) (.int .i64 b) (.int .i64 c) 28)
  have bl0 := bel_alloc (Below.refl _ w) (.cells #[.int .i64 a, .int .i64 b, .int .i64 c] 28)
  cases h : good a b c
  · rw [show ansChT a b c = .tuple #[.string ⟨#[]⟩, .bool false] from by unfold ansChT; rw [h]; rfl]
    go_enter Tryd.func28, Tryd.ntmps28
    go_wp2_with fail
    refine (implIsChain_any _ _ _ _).mono ?_
    rintro e w1 ⟨rfl, hb1⟩
    rw [h]
    have bl1 := bel_trans bl0 hb1
    go_wp2_with fail
    go_ret2
    exact ⟨rfl, bl1⟩
  · obtain ⟨a, b, c, rfl, rfl, rfl, h1, h2, h3⟩ := chain_nat h
    rw [show ansChT a b c = .tuple #[.string (chainT a b c), .bool true] from by unfold ansChT; rw [h]; rfl]
    have t1 := numS_size a h1
    have t2 := numS_size b h2
    have t3 := numS_size c h3
    have hfin : Hid (numS a ++ ⟨#[45]⟩ ++ numS b ++ ⟨#[47]⟩ ++ numS c = chainT a b c) := rfl
    have z1 : (numS a ++ ⟨#[45]⟩).size = (numS a).size + 1 := by rw [ByteArray.size_append]; rfl
    have z2 : (numS a ++ ⟨#[45]⟩ ++ numS b).size = (numS a).size + 1 + (numS b).size := by rw [ByteArray.size_append, z1]
    have z3 : (numS a ++ ⟨#[45]⟩ ++ numS b ++ ⟨#[47]⟩).size = (numS a).size + 1 + (numS b).size + 1 := by rw [ByteArray.size_append, z2]; rfl
    have hadd1 : ∀ W : World, (Op.stringOp .add (numS a) ⟨#[45]⟩).run Tryd.prog W = .ok (.string (numS a ++ ⟨#[45]⟩)) W := fun W => run_string_add W _ _ (by omega) (by show ((1 : Nat) : Int) ≤ 8388608; omega)
    have hadd2 : ∀ W : World, (Op.stringOp .add (numS a ++ ⟨#[45]⟩) (numS b)).run Tryd.prog W = .ok (.string (numS a ++ ⟨#[45]⟩ ++ numS b)) W := fun W => run_string_add W _ _ (by omega) (by omega)
    have hadd3 : ∀ W : World, (Op.stringOp .add (numS a ++ ⟨#[45]⟩ ++ numS b) ⟨#[47]⟩).run Tryd.prog W = .ok (.string (numS a ++ ⟨#[45]⟩ ++ numS b ++ ⟨#[47]⟩)) W := fun W => run_string_add W _ _ (by omega) (by show ((1 : Nat) : Int) ≤ 8388608; omega)
    have hadd4 : ∀ W : World, (Op.stringOp .add (numS a ++ ⟨#[45]⟩ ++ numS b ++ ⟨#[47]⟩) (numS c)).run Tryd.prog W = .ok (.string (numS a ++ ⟨#[45]⟩ ++ numS b ++ ⟨#[47]⟩ ++ numS c)) W := fun W => run_string_add W _ _ (by omega) (by omega)
    generalize numS a ++ ⟨#[45]⟩ ++ numS b ++ ⟨#[47]⟩ ++ numS c = T4 at *
    generalize numS a ++ ⟨#[45]⟩ ++ numS b ++ ⟨#[47]⟩ = T3 at *
    generalize numS a ++ ⟨#[45]⟩ ++ numS b = T2 at *
    generalize numS a ++ ⟨#[45]⟩ = T1 at *
    go_enter Tryd.func28, Tryd.ntmps28
    go_wp2_with fail
    refine (implIsChain_any _ _ _ _).mono ?_
    rintro e w1 ⟨rfl, hb1⟩
    rw [h]
    have bx1 := Lib.hid (bx0.out.keep hb1)
    have bl1 := bel_trans bl0 hb1
    obtain ⟨c0, c1, c2, hk⟩ := bx1.out
    go_wp2_with fail
    go_region_held3 (fun w' => w'.cell? ⟨w.heap.size, 0, none⟩ = some (.int .i64 a) ∧ w'.cell? ⟨w.heap.size, 1, none⟩ = some (.int .i64 b) ∧ w'.cell? ⟨w.heap.size, 2, none⟩ = some (.int .i64 c) ∧ w.heap.size < w'.heap.size ∧ Below w.heap.size w w')
      (first | exact hc3_start bx1.out bl1 | exact hc3_drewN (by assumption) _ | assumption | go_keep)
      (first | (go_at_call_of 52 (Value.int IntKind.i64 (a : Int)); refine (itoa_any a (by omega) _).mono ?_; rintro e w3 ⟨rfl, rfl⟩) | (go_at_call_of 52 (Value.int IntKind.i64 (b : Int)); refine (itoa_any b (by omega) _).mono ?_; rintro e w4 ⟨rfl, rfl⟩) | (go_at_call_of 52 (Value.int IntKind.i64 (c : Int)); refine (itoa_any c (by omega) _).mono ?_; rintro e w5 ⟨rfl, rfl⟩))
    all_goals
      obtain ⟨hbx9, hbl9⟩ := hc3_below (by assumption)
      clear hbx9
      go_wp2
      go_ret2
      exact ⟨by rw [← hfin.out]; rfl, hbl9⟩

end Go.Proofs.YtjfcpbedmdnjcabDoor
