/- HiddenText: the contracts of the program and of its model, and the walk. -/
import Derived.Test.YtjfcpbedmdnjcabDoorHdT
import Derived.Test.YtjfcpbedmdnjcabDoorChTx
namespace Go.Proofs.YtjfcpbedmdnjcabDoor
set_option linter.unusedSimpArgs false
open Go.ChangeShapes Go.WideShapes Go.ChangeAt Go.RowKit
set_option linter.unusedVariables false

/-- The text of hidden days. -/
def hdnT (a b c p q r : Nat) : ByteArray := chainT a b c ++ ⟨#[58]⟩ ++ chainT p q r
def ansHt (a b c p q r : Int) : Value := if goodH a b c p q r then .tuple #[.string (hdnT a.toNat b.toNat c.toNat p.toNat q.toNat r.toNat), .bool true] else .tuple #[.string ⟨#[]⟩, .bool false]
theorem ansHt_form (a b c p q r : Int) : ∃ (x : ByteArray) (ok : Bool), ansHt a b c p q r = .tuple #[.string x, .bool ok] := by
  unfold ansHt
  split
  · exact ⟨_, _, rfl⟩
  · exact ⟨_, _, rfl⟩
theorem goodH_twoT {a b c p q r : Int} (h : goodH a b c p q r = true) : good a b c = true ∧ good p q r = true := by
  unfold goodH at h
  rwa [Bool.and_eq_true] at h
theorem chainT_size (a b c : Nat) (h1 : a ≤ 10) (h2 : b ≤ 10) (h3 : c ≤ 10) : (chainT a b c).size ≤ 8 := by
  have t1 := numS_size a h1
  have t2 := numS_size b h2
  have t3 := numS_size c h3
  unfold chainT
  rw [ByteArray.size_append, ByteArray.size_append, ByteArray.size_append, ByteArray.size_append]
  show (numS a).size + 1 + (numS b).size + 1 + (numS c).size ≤ 8
  omega

set_option maxRecDepth 100000 in
set_option maxHeartbeats 3200000 in
theorem hdText_any (a b c p q r : Nat) (w : World) (h1 : a ≤ 10) (h2 : b ≤ 10) (h3 : c ≤ 10) (h4 : p ≤ 10) (h5 : q ≤ 10) (h6 : r ≤ 10) :
    Calls Tryd.prog 27 #[hdn a b c p q r] w fun e w' => e = .returned (.string (hdnT a b c p q r)) ∧ Below w.heap.size w w' := by
  have bx := Lib.hid (Box6.new w a b c p q r 30)
  have bl := Lib.hid (bel_alloc (Below.refl _ w) (.cells #[.int .i64 a, .int .i64 b, .int .i64 c, .int .i64 p, .int .i64 q, .int .i64 r] 30))
  have t0 := chainT_size a b c h1 h2 h3
  have t1 := numS_size p h4
  have t2 := numS_size q h5
  have t3 := numS_size r h6
  have hA : Hid (∀ W : World, Calls Tryd.prog 49 #[chn a b c] W fun e w' => e = .returned (.string (chainT a b c)) ∧ Below W.heap.size W w') := Lib.hid (fun W => cnText_any a b c W h1 h2 h3)
  have hB : Hid (∀ n : Nat, n ≤ 10 → ∀ W : World, Calls Tryd.prog 50 #[.int .i64 n] W fun e w' => e = .returned (.string (numS n)) ∧ Below W.heap.size W w') := Lib.hid (fun n hn W => l1Num_any n W (by omega))
  have hP := Lib.hid (hB.out p h4)
  have hQ := Lib.hid (hB.out q h5)
  have hR := Lib.hid (hB.out r h6)
  have hfin : Hid (chainT a b c ++ ⟨#[58]⟩ ++ numS p ++ ⟨#[45]⟩ ++ numS q ++ ⟨#[47]⟩ ++ numS r = hdnT a b c p q r) := Lib.hid (by
    unfold hdnT
    conv => rhs; rhs; unfold chainT
    simp only [ByteArray.append_assoc])
  generalize chainT a b c = C at *
  have z1 : (C ++ ⟨#[58]⟩).size = C.size + 1 := by rw [ByteArray.size_append]; rfl
  have z2 : (C ++ ⟨#[58]⟩ ++ numS p).size = C.size + 1 + (numS p).size := by rw [ByteArray.size_append, z1]
  have z3 : (C ++ ⟨#[58]⟩ ++ numS p ++ ⟨#[45]⟩).size = C.size + 1 + (numS p).size + 1 := by rw [ByteArray.size_append, z2]; rfl
  have z4 : (C ++ ⟨#[58]⟩ ++ numS p ++ ⟨#[45]⟩ ++ numS q).size = C.size + 1 + (numS p).size + 1 + (numS q).size := by rw [ByteArray.size_append, z3]
  have z5 : (C ++ ⟨#[58]⟩ ++ numS p ++ ⟨#[45]⟩ ++ numS q ++ ⟨#[47]⟩).size = C.size + 1 + (numS p).size + 1 + (numS q).size + 1 := by rw [ByteArray.size_append, z4]; rfl
  have a1 : ∀ W : World, (Op.stringOp .add C ⟨#[58]⟩).run Tryd.prog W = .ok (.string (C ++ ⟨#[58]⟩)) W := fun W => run_string_add W _ _ (by omega) (by show ((1 : Nat) : Int) ≤ 8388608; omega)
  have a2 : ∀ W : World, (Op.stringOp .add (C ++ ⟨#[58]⟩) (numS p)).run Tryd.prog W = .ok (.string (C ++ ⟨#[58]⟩ ++ numS p)) W := fun W => run_string_add W _ _ (by omega) (by omega)
  have a3 : ∀ W : World, (Op.stringOp .add (C ++ ⟨#[58]⟩ ++ numS p) ⟨#[45]⟩).run Tryd.prog W = .ok (.string (C ++ ⟨#[58]⟩ ++ numS p ++ ⟨#[45]⟩)) W := fun W => run_string_add W _ _ (by omega) (by show ((1 : Nat) : Int) ≤ 8388608; omega)
  have a4 : ∀ W : World, (Op.stringOp .add (C ++ ⟨#[58]⟩ ++ numS p ++ ⟨#[45]⟩) (numS q)).run Tryd.prog W = .ok (.string (C ++ ⟨#[58]⟩ ++ numS p ++ ⟨#[45]⟩ ++ numS q)) W := fun W => run_string_add W _ _ (by omega) (by omega)
  have a5 : ∀ W : World, (Op.stringOp .add (C ++ ⟨#[58]⟩ ++ numS p ++ ⟨#[45]⟩ ++ numS q) ⟨#[47]⟩).run Tryd.prog W = .ok (.string (C ++ ⟨#[58]⟩ ++ numS p ++ ⟨#[45]⟩ ++ numS q ++ ⟨#[47]⟩)) W := fun W => run_string_add W _ _ (by omega) (by show ((1 : Nat) : Int) ≤ 8388608; omega)
  have a6 : ∀ W : World, (Op.stringOp .add (C ++ ⟨#[58]⟩ ++ numS p ++ ⟨#[45]⟩ ++ numS q ++ ⟨#[47]⟩) (numS r)).run Tryd.prog W = .ok (.string (C ++ ⟨#[58]⟩ ++ numS p ++ ⟨#[45]⟩ ++ numS q ++ ⟨#[47]⟩ ++ numS r)) W := fun W => run_string_add W _ _ (by omega) (by omega)
  generalize C ++ ⟨#[58]⟩ ++ numS p ++ ⟨#[45]⟩ ++ numS q ++ ⟨#[47]⟩ ++ numS r = T6 at *
  generalize C ++ ⟨#[58]⟩ ++ numS p ++ ⟨#[45]⟩ ++ numS q ++ ⟨#[47]⟩ = T5 at *
  generalize C ++ ⟨#[58]⟩ ++ numS p ++ ⟨#[45]⟩ ++ numS q = T4 at *
  generalize C ++ ⟨#[58]⟩ ++ numS p ++ ⟨#[45]⟩ = T3 at *
  generalize C ++ ⟨#[58]⟩ ++ numS p = T2 at *
  generalize C ++ ⟨#[58]⟩ = T1 at *
  generalize numS p = NP at *
  generalize numS q = NQ at *
  generalize numS r = NR at *
  clear z1 z2 z3 z4 z5 t0 t1 t2 t3 hB
  go_enter Tryd.func27, Tryd.ntmps27
  go_wp2_with fail
  go_region_held3 (fun w' => w'.cell? ⟨w.heap.size, 0, none⟩ = some (.int .i64 a) ∧ w'.cell? ⟨w.heap.size, 1, none⟩ = some (.int .i64 b) ∧ w'.cell? ⟨w.heap.size, 2, none⟩ = some (.int .i64 c) ∧ w'.cell? ⟨w.heap.size, 3, none⟩ = some (.int .i64 p) ∧ w'.cell? ⟨w.heap.size, 4, none⟩ = some (.int .i64 q) ∧ w'.cell? ⟨w.heap.size, 5, none⟩ = some (.int .i64 r) ∧ w.heap.size < w'.heap.size ∧ Below w.heap.size w w')
    (first | exact h6_start bx.out bl.out | exact h6_keep (by assumption) hb3 | exact h6_keep (by assumption) hb4 | exact h6_keep (by assumption) hb5 | exact h6_keep (by assumption) hb6 | exact h6_drewN (by assumption) _ | assumption | go_keep)
    (first | (go_at_call 49; refine (hA.out _).mono ?_; rintro e w3 ⟨rfl, hb3⟩) | (go_at_call_of 50 (Value.int IntKind.i64 (p : Int)); refine (hP.out _).mono ?_; rintro e w4 ⟨rfl, hb4⟩) | (go_at_call_of 50 (Value.int IntKind.i64 (q : Int)); refine (hQ.out _).mono ?_; rintro e w5 ⟨rfl, hb5⟩) | (go_at_call_of 50 (Value.int IntKind.i64 (r : Int)); refine (hR.out _).mono ?_; rintro e w6 ⟨rfl, hb6⟩))
  all_goals
    obtain ⟨hbx9, hbl9⟩ := h6_below (by assumption)
    clear hbx9
    go_wp2
    go_ret
    exact ⟨by rw [← hfin.out]; rfl, hbl9⟩

set_option maxRecDepth 100000 in
set_option maxHeartbeats 3200000 in
theorem specHt_any (a b c p q r : Int) (w : World) :
    Calls Tryd.prog 11 #[hdn a b c p q r] w fun e w' => e = .returned (ansHt a b c p q r) ∧ Below w.heap.size w w' := by
  have bx := Lib.hid (Box6.new w a b c p q r 30)
  cases h : goodH a b c p q r
  · rw [show ansHt a b c p q r = .tuple #[.string ⟨#[]⟩, .bool false] from by unfold ansHt; rw [h]; rfl]
    go_enter Tryd.func11, Tryd.ntmps11
    go_wp2_with fail
    refine (hdGood_any _ _ _ _ _ _ _).mono ?_
    rintro e w1 ⟨rfl, hb1⟩
    rw [h]
    go_wp2_with fail
    go_ret2
    exact ⟨rfl, bel_trans (bel_alloc (Below.refl _ _) _) hb1⟩
  · have HH := Lib.hid h
    obtain ⟨g1, g2⟩ := goodH_twoT h
    obtain ⟨a, b, c, rfl, rfl, rfl, e1, e2, e3⟩ := chain_nat g1
    obtain ⟨p, q, r, rfl, rfl, rfl, e4, e5, e6⟩ := chain_nat g2
    rw [show ansHt a b c p q r = .tuple #[.string (hdnT a b c p q r), .bool true] from by unfold ansHt; rw [h]; rfl]
    have hT := Lib.hid (fun W => hdText_any a b c p q r W e1 e2 e3 e4 e5 e6)
    generalize hdnT a b c p q r = T at *
    clear g1 g2 e1 e2 e3 e4 e5 e6 h
    go_enter Tryd.func11, Tryd.ntmps11
    go_wp2_with fail
    refine (hdGood_any _ _ _ _ _ _ _).mono ?_
    rintro e w1 ⟨rfl, hb1⟩
    rw [HH.out]
    obtain ⟨d0, d1, d2, d3, d4, d5, d6⟩ := bx.out.keep hb1
    have bl1 := Lib.hid (bel_trans (bel_alloc (Below.refl _ w) _) hb1)
    clear hb1
    go_wp2_with fail
    refine (hT.out _).mono ?_
    rintro e w2 ⟨rfl, hb2⟩
    go_wp2_with fail
    go_ret2
    exact ⟨rfl, bel_trans bl1.out hb2⟩

set_option maxRecDepth 100000 in
set_option maxHeartbeats 3200000 in
theorem implHt_any (a b c p q r : Int) (w : World) :
    Calls Tryd.prog 12 #[hdn a b c p q r] w fun e w' => e = .returned (ansHt a b c p q r) ∧ Below w.heap.size w w' := by
  have bx := Lib.hid (Box6.new w a b c p q r 30)
  have hA : Hid (∀ W : World, Calls Tryd.prog 28 #[chn a b c] W fun e w' => e = .returned (ansChT a b c) ∧ Below W.heap.size W w') := Lib.hid (fun W => implChT_any a b c W)
  have hB : Hid (∀ W : World, Calls Tryd.prog 28 #[chn p q r] W fun e w' => e = .returned (ansChT p q r) ∧ Below W.heap.size W w') := Lib.hid (fun W => implChT_any p q r W)
  cases g1 : good a b c
  · obtain ⟨x, ok, hx⟩ := ansChT_form p q r
    rw [hx] at hB
    rw [show ansChT a b c = .tuple #[.string ⟨#[]⟩, .bool false] from by unfold ansChT; rw [g1]; rfl] at hA
    rw [show ansHt a b c p q r = .tuple #[.string ⟨#[]⟩, .bool false] from by unfold ansHt goodH; rw [g1]; rfl]
    clear hx
    go_enter Tryd.func12, Tryd.ntmps12
    go_wp2_with fail
    refine (hA.out _).mono ?_
    rintro e w1 ⟨rfl, hb1⟩
    have bx1 := Lib.hid (bx.out.keep hb1)
    have bl1 := Lib.hid (bel_trans (bel_alloc (Below.refl _ w) _) hb1)
    clear hb1
    obtain ⟨d0, d1, d2, d3, d4, d5, d6⟩ := bx1.out
    go_wp2_with fail
    refine (umbrellas_any _ _ _ _ _ _ _).mono ?_
    rintro e w2 ⟨rfl, hb2⟩
    have bl2 := Lib.hid (bel_trans bl1.out hb2)
    clear hb2 d0 d1 d2 d3 d4 d5 d6
    go_wp2_with fail
    refine (hB.out _).mono ?_
    rintro e w3 ⟨rfl, hb3⟩
    have bl3 := Lib.hid (bel_trans bl2.out hb3)
    clear hb3
    go_wp2_with fail
    go_ret2
    exact ⟨rfl, bl3.out⟩
  cases g2 : good p q r
  · rw [show ansChT a b c = .tuple #[.string (chainT a.toNat b.toNat c.toNat), .bool true] from by unfold ansChT; rw [g1]; rfl] at hA
    rw [show ansChT p q r = .tuple #[.string ⟨#[]⟩, .bool false] from by unfold ansChT; rw [g2]; rfl] at hB
    rw [show ansHt a b c p q r = .tuple #[.string ⟨#[]⟩, .bool false] from by unfold ansHt goodH; rw [g1, g2]; rfl]
    generalize chainT a.toNat b.toNat c.toNat = T at *
    go_enter Tryd.func12, Tryd.ntmps12
    go_wp2_with fail
    refine (hA.out _).mono ?_
    rintro e w1 ⟨rfl, hb1⟩
    have bx1 := Lib.hid (bx.out.keep hb1)
    have bl1 := Lib.hid (bel_trans (bel_alloc (Below.refl _ w) _) hb1)
    clear hb1
    obtain ⟨d0, d1, d2, d3, d4, d5, d6⟩ := bx1.out
    go_wp2_with fail
    refine (umbrellas_any _ _ _ _ _ _ _).mono ?_
    rintro e w2 ⟨rfl, hb2⟩
    have bl2 := Lib.hid (bel_trans bl1.out hb2)
    clear hb2 d0 d1 d2 d3 d4 d5 d6
    go_wp2_with fail
    refine (hB.out _).mono ?_
    rintro e w3 ⟨rfl, hb3⟩
    have bl3 := Lib.hid (bel_trans bl2.out hb3)
    clear hb3
    go_wp2_with fail
    go_ret2
    exact ⟨rfl, bl3.out⟩
  · rw [show ansChT a b c = .tuple #[.string (chainT a.toNat b.toNat c.toNat), .bool true] from by unfold ansChT; rw [g1]; rfl] at hA
    rw [show ansChT p q r = .tuple #[.string (chainT p.toNat q.toNat r.toNat), .bool true] from by unfold ansChT; rw [g2]; rfl] at hB
    rw [show ansHt a b c p q r = .tuple #[.string (chainT a.toNat b.toNat c.toNat ++ ⟨#[58]⟩ ++ chainT p.toNat q.toNat r.toNat), .bool true] from by unfold ansHt goodH hdnT; rw [g1, g2]; rfl]
    obtain ⟨_, _, _, ea, eb, ec, e1, e2, e3⟩ := chain_nat g1
    obtain ⟨_, _, _, ep, eq, er, e4, e5, e6⟩ := chain_nat g2
    have t0 := chainT_size a.toNat b.toNat c.toNat (by omega) (by omega) (by omega)
    have t1 := chainT_size p.toNat q.toNat r.toNat (by omega) (by omega) (by omega)
    generalize chainT a.toNat b.toNat c.toNat = T at *
    generalize chainT p.toNat q.toNat r.toNat = U at *
    have z1 : (T ++ ⟨#[58]⟩).size = T.size + 1 := by rw [ByteArray.size_append]; rfl
    have a1 : ∀ W : World, (Op.stringOp .add T ⟨#[58]⟩).run Tryd.prog W = .ok (.string (T ++ ⟨#[58]⟩)) W := fun W => run_string_add W _ _ (by omega) (by show ((1 : Nat) : Int) ≤ 8388608; omega)
    have a2 : ∀ W : World, (Op.stringOp .add (T ++ ⟨#[58]⟩) U).run Tryd.prog W = .ok (.string (T ++ ⟨#[58]⟩ ++ U)) W := fun W => run_string_add W _ _ (by omega) (by omega)
    generalize T ++ ⟨#[58]⟩ ++ U = T2 at *
    generalize T ++ ⟨#[58]⟩ = T1 at *
    clear ea eb ec e1 e2 e3 ep eq er e4 e5 e6 t0 t1 z1
    go_enter Tryd.func12, Tryd.ntmps12
    go_wp2_with fail
    refine (hA.out _).mono ?_
    rintro e w1 ⟨rfl, hb1⟩
    have bx1 := Lib.hid (bx.out.keep hb1)
    have bl1 := Lib.hid (bel_trans (bel_alloc (Below.refl _ w) _) hb1)
    clear hb1
    obtain ⟨d0, d1, d2, d3, d4, d5, d6⟩ := bx1.out
    go_wp2_with fail
    refine (umbrellas_any _ _ _ _ _ _ _).mono ?_
    rintro e w2 ⟨rfl, hb2⟩
    have bl2 := Lib.hid (bel_trans bl1.out hb2)
    clear hb2 d0 d1 d2 d3 d4 d5 d6
    go_wp2_with fail
    refine (hB.out _).mono ?_
    rintro e w3 ⟨rfl, hb3⟩
    have bl3 := Lib.hid (bel_trans bl2.out hb3)
    clear hb3
    go_wp2_with fail
    go_ret2
    exact ⟨rfl, bl3.out⟩

set_option maxRecDepth 100000 in
set_option maxHeartbeats 3200000 in
theorem walkExactHiddenText (a b c p q r : Int)  (w : World) (ha : (Lit.int .i64 a).wf = true) (hb : (Lit.int .i64 b).wf = true) (hc : (Lit.int .i64 c).wf = true) (hp : (Lit.int .i64 p).wf = true) (hq : (Lit.int .i64 q).wf = true) (hr : (Lit.int .i64 r).wf = true) :
    Calls Tryd.prog 4 #[hdn a b c p q r] w fun e w' => e = .returned (.bool true) ∧ Below w.heap.size w w' := by
  clear ha hb hc hp hq hr
  obtain ⟨x, ok, hv⟩ := ansHt_form a b c p q r
  have Hv := Lib.hid hv
  clear hv
  have bx := Lib.hid (Box6.new w a b c p q r 25)
  go_enter Tryd.func4, Tryd.ntmps4
  go_wp2_with fail
  refine (toHidden_any _ _ _ _ _ _ _).mono ?_
  rintro e w1 ⟨rfl, hb1⟩
  have bx1 := Lib.hid (bx.out.keep hb1)
  go_wp2_with fail
  refine (specHt_any _ _ _ _ _ _ _).mono ?_
  rw [Hv.out]
  rintro e w2 ⟨rfl, hb2⟩
  obtain ⟨c0, c1, c2, c3, c4, c5, hk⟩ := bx1.out.keep hb2
  go_wp2_with fail
  refine (toHidden_any _ _ _ _ _ _ _).mono ?_
  rintro e w3 ⟨rfl, hb3⟩
  go_wp2_with fail
  refine (implHt_any _ _ _ _ _ _ _).mono ?_
  rw [Hv.out]
  rintro e w4 ⟨rfl, hb4⟩
  go_wp2_with fail
  go_ret
  exact ⟨rfl, bel_trans (bel_trans (bel_trans (bel_trans (bel_alloc (Below.refl _ _) _) hb1) hb2) hb3) hb4⟩

end Go.Proofs.YtjfcpbedmdnjcabDoor
