/- IsHidden, DoSignsTell: the contracts of the program and of its model, and the walks. -/
import Derived.Test.YtjfcpbedmdnjcabHdA
import Derived.Test.YtjfcpbedmdnjcabHdT
import Derived.DeepKeys
namespace Go.Proofs.Ytjfcpbedmdnjcab
set_option linter.unusedSimpArgs false
open Go.ChangeShapes Go.WideShapes Go.ChangeAt Go.RowKit
set_option linter.unusedVariables false

theorem goodH_form (a b c p q r : Int) : ∃ o : Bool, Value.bool (goodH a b c p q r) = .bool o := ⟨_, rfl⟩
theorem goodH_inU {a b c p q r : Int} (h : goodH a b c p q r = true) : inR a b c ∧ inR p q r := by
  unfold goodH at h
  rw [Bool.and_eq_true] at h
  exact ⟨inR_of h.1, inR_of h.2⟩
set_option maxRecDepth 100000 in
set_option maxHeartbeats 3200000 in
theorem walkExactIsHidden (a b c p q r : Int)  (w : World) (ha : (Lit.int .i64 a).wf = true) (hb : (Lit.int .i64 b).wf = true) (hc : (Lit.int .i64 c).wf = true) (hp : (Lit.int .i64 p).wf = true) (hq : (Lit.int .i64 q).wf = true) (hr : (Lit.int .i64 r).wf = true) :
    Calls Try.prog 5 #[hdn a b c p q r] w fun e w' => e = .returned (.bool true) ∧ Below w.heap.size w w' := by
  clear ha hb hc hp hq hr
  obtain ⟨ok, hv⟩ := goodH_form a b c p q r
  have Hv := Lib.hid hv
  clear hv
  have bx := Lib.hid (Box6.new w a b c p q r 25)
  go_enter Try.func5, Try.ntmps5
  go_wp2_with fail
  refine (toHidden_any _ _ _ _ _ _ _).mono ?_
  rintro e w1 ⟨rfl, hb1⟩
  have bx1 := Lib.hid (bx.out.keep hb1)
  go_wp2_with fail
  refine (specIsHidden_any _ _ _ _ _ _ _).mono ?_
  rw [Hv.out]
  rintro e w2 ⟨rfl, hb2⟩
  obtain ⟨c0, c1, c2, c3, c4, c5, hk⟩ := bx1.out.keep hb2
  go_wp2_with fail
  refine (toHidden_any _ _ _ _ _ _ _).mono ?_
  rintro e w3 ⟨rfl, hb3⟩
  go_wp2_with fail
  refine (implIsHidden_any _ _ _ _ _ _ _).mono ?_
  rw [Hv.out]
  rintro e w4 ⟨rfl, hb4⟩
  go_wp2_with fail
  go_ret
  exact ⟨rfl, bel_trans (bel_trans (bel_trans (bel_trans (bel_alloc (Below.refl _ _) _) hb1) hb2) hb3) hb4⟩

theorem pr2_lits (x y : Int) (hx : (Lit.int .i64 x).wf = true) (hy : (Lit.int .i64 y).wf = true) : Try.prog.keyLits 2 57 [.int .i64 x, .int .i64 y] = some [Lit.int .i64 x, Lit.int .i64 y] := by
  have hc : Try.prog.cellsOf 3 = 1 := by kernel_rfl
  have hd : Try.prog.cellsOf 57 = 2 := by kernel_rfl
  have h1 : ∀ z : Int, (Lit.int .i64 z).wf = true → Try.prog.keyLits 1 3 [.int .i64 z] = some [Lit.int .i64 z] := fun z hz => by
    unfold Program.keyLits
    rw [Try.underlying3]
    simp [hz]
  unfold Program.keyLits
  rw [Try.underlying57]
  simp only
  rw [if_pos (by rw [hd]; rfl), hc]
  simp [List.range, List.range.loop, h1 x hx, h1 y hy]
theorem pr2_equal (x y u v : Int) (w : World) (hx : (Lit.int .i64 x).wf = true) (hy : (Lit.int .i64 y).wf = true) (hu : (Lit.int .i64 u).wf = true) (hv : (Lit.int .i64 v).wf = true) : (Op.equalIn 10000 57 (.agg #[.int .i64 x, .int .i64 y]) (.agg #[.int .i64 u, .int .i64 v])).run Try.prog w = .ok (decide (x = u) && decide (y = v)) w := by
  obtain ⟨b, hb, hi⟩ := run_equalIn_deep (P := Try.prog) 9998 2 57 (by kernel_rfl) w 2 2 (.agg #[.int .i64 x, .int .i64 y]) (.agg #[.int .i64 u, .int .i64 v]) [Lit.int .i64 x, Lit.int .i64 y] [Lit.int .i64 u, Lit.int .i64 v] (by kernel_rfl) (by kernel_rfl) (pr2_lits x y hx hy) (pr2_lits u v hu hv)
  have e : b = (decide (x = u) && decide (y = v)) := by rw [Bool.eq_iff_iff, hi]; simp
  rw [hb, e]
def ansDs (a b c p q r : Int) : Value := if goodH a b c p q r then .tuple #[.bool (!decide (p = q)), .bool true] else .tuple #[.bool false, .bool false]
theorem ansDs_form (a b c p q r : Int) : ∃ x o : Bool, ansDs a b c p q r = .tuple #[.bool x, .bool o] := by
  unfold ansDs
  split
  · exact ⟨_, _, rfl⟩
  · exact ⟨_, _, rfl⟩
set_option maxRecDepth 100000 in
set_option maxHeartbeats 3200000 in
theorem specDs_any (a b c p q r : Int) (w : World) :
    Calls Try.prog 14 #[hdn a b c p q r] w fun e w' => e = .returned (ansDs a b c p q r) ∧ Below w.heap.size w w' := by
  have bx := Lib.hid (Box6.new w a b c p q r 30)
  cases h : goodH a b c p q r
  · rw [show ansDs a b c p q r = .tuple #[.bool false, .bool false] from by unfold ansDs; rw [h]; rfl]
    go_enter Try.func14, Try.ntmps14
    go_wp2_with fail
    refine (hdGood_any _ _ _ _ _ _ _).mono ?_
    rintro e w1 ⟨rfl, hb1⟩
    rw [h]
    go_wp2_with fail
    go_ret2
    exact ⟨rfl, bel_trans (bel_alloc (Below.refl _ _) _) hb1⟩
  · rw [show ansDs a b c p q r = .tuple #[.bool (!decide (p = q)), .bool true] from by unfold ansDs; rw [h]; rfl]
    by_cases hpq : p = q
    · rw [decide_eq_true hpq]
      have h2 : (p != q) = false := by simpa using hpq
      clear hpq
      go_enter Try.func14, Try.ntmps14
      go_wp2_with fail
      refine (hdGood_any _ _ _ _ _ _ _).mono ?_
      rintro e w1 ⟨rfl, hb1⟩
      rw [h]
      obtain ⟨c0, c1, c2, c3, c4, c5, hk⟩ := bx.out.keep hb1
      go_wp2_with fail
      go_ret2
      exact ⟨rfl, bel_trans (bel_alloc (Below.refl _ _) _) hb1⟩
    · rw [decide_eq_false hpq]
      have h2 : (p != q) = true := by simpa using hpq
      clear hpq
      go_enter Try.func14, Try.ntmps14
      go_wp2_with fail
      refine (hdGood_any _ _ _ _ _ _ _).mono ?_
      rintro e w1 ⟨rfl, hb1⟩
      rw [h]
      obtain ⟨c0, c1, c2, c3, c4, c5, hk⟩ := bx.out.keep hb1
      go_wp2_with fail
      go_ret2
      exact ⟨rfl, bel_trans (bel_alloc (Below.refl _ _) _) hb1⟩
set_option maxRecDepth 100000 in
set_option maxHeartbeats 3200000 in
theorem implDs_any (a b c p q r : Int) (w : World) :
    Calls Try.prog 15 #[hdn a b c p q r] w fun e w' => e = .returned (ansDs a b c p q r) ∧ Below w.heap.size w w' := by
  have bx := Lib.hid (Box6.new w a b c p q r 30)
  cases h : goodH a b c p q r
  · rw [show ansDs a b c p q r = .tuple #[.bool false, .bool false] from by unfold ansDs; rw [h]; rfl]
    go_enter Try.func15, Try.ntmps15
    go_wp2_with fail
    refine (implIsHidden_any _ _ _ _ _ _ _).mono ?_
    rintro e w1 ⟨rfl, hb1⟩
    rw [h]
    go_wp2_with fail
    go_ret2
    exact ⟨rfl, bel_trans (bel_alloc (Below.refl _ _) _) hb1⟩
  · rw [show ansDs a b c p q r = .tuple #[.bool (!decide (p = q)), .bool true] from by unfold ansDs; rw [h]; rfl]
    obtain ⟨hr, hp⟩ := goodH_inU h
    have hA : Hid (∀ W : World, Calls Try.prog 31 #[hdn a b c p q r, .int .u8 100] W fun e w' => e = .returned (pr2 (r - p) p) ∧ Below W.heap.size W w') := Lib.hid (fun W => signsOn_any a b c p q r 100 W (.inl rfl) hp)
    have hB : Hid (∀ W : World, Calls Try.prog 31 #[hdn a b c p q r, .int .u8 119] W fun e w' => e = .returned (pr2 (r - q) q) ∧ Below W.heap.size W w') := Lib.hid (fun W => signsOn_any a b c p q r 119 W (.inr rfl) hp)
    have hE : ∀ W : World, (Op.equalIn 10000 57 (.agg #[.int .i64 (r - p), .int .i64 p]) (.agg #[.int .i64 (r - q), .int .i64 q])).run Try.prog W = .ok (decide (p = q)) W := fun W => by
      obtain ⟨g1, g2, g3, g4, g5, g6⟩ := hp
      have hwf : ∀ z : Int, 0 ≤ z → z ≤ 10 → (Lit.int .i64 z).wf = true := fun z z0 z1 => by
        unfold Lit.wf
        rw [Bool.and_eq_true, decide_eq_true_eq, decide_eq_true_eq]
        exact ⟨by show (-9223372036854775808 : Int) ≤ z; omega, by show z ≤ (9223372036854775807 : Int); omega⟩
      rw [pr2_equal _ _ _ _ _ (hwf _ (by omega) (by omega)) (hwf _ (by omega) (by omega)) (hwf _ (by omega) (by omega)) (hwf _ (by omega) (by omega))]
      congr 1
      by_cases e : p = q
      · subst e; simp
      · simp [e]
    clear hr hp
    go_enter Try.func15, Try.ntmps15
    go_wp2_with fail
    refine (implIsHidden_any _ _ _ _ _ _ _).mono ?_
    rintro e w1 ⟨rfl, hb1⟩
    rw [h]
    have bx1 := Lib.hid (bx.out.keep hb1)
    have bl1 := Lib.hid (bel_trans (bel_alloc (Below.refl _ w) _) hb1)
    clear hb1
    go_wp2_with fail
    go_region_held3 (fun w' => w'.cell? ⟨w.heap.size, 0, none⟩ = some (.int .i64 a) ∧ w'.cell? ⟨w.heap.size, 1, none⟩ = some (.int .i64 b) ∧ w'.cell? ⟨w.heap.size, 2, none⟩ = some (.int .i64 c) ∧ w'.cell? ⟨w.heap.size, 3, none⟩ = some (.int .i64 p) ∧ w'.cell? ⟨w.heap.size, 4, none⟩ = some (.int .i64 q) ∧ w'.cell? ⟨w.heap.size, 5, none⟩ = some (.int .i64 r) ∧ w.heap.size < w'.heap.size ∧ Below w.heap.size w w')
      (first | exact h6_start bx1.out bl1.out | exact h6_keep (by assumption) hb2 | exact h6_keep (by assumption) hb3 | exact h6_drewN (by assumption) _ | assumption | go_keep)
      (first | (go_at_call_of 31 (Value.int IntKind.u8 100); refine (hA.out _).mono ?_; rintro e w2 ⟨rfl, hb2⟩) | (go_at_call_of 31 (Value.int IntKind.u8 119); refine (hB.out _).mono ?_; rintro e w3 ⟨rfl, hb3⟩))
    all_goals
      obtain ⟨hbx9, hbl9⟩ := h6_below (by assumption)
      clear hbx9
      go_wp2
      go_ret2
      exact ⟨rfl, hbl9⟩

set_option maxRecDepth 100000 in
set_option maxHeartbeats 3200000 in
theorem walkExactDoSignsTell (a b c p q r : Int)  (w : World) (ha : (Lit.int .i64 a).wf = true) (hb : (Lit.int .i64 b).wf = true) (hc : (Lit.int .i64 c).wf = true) (hp : (Lit.int .i64 p).wf = true) (hq : (Lit.int .i64 q).wf = true) (hr : (Lit.int .i64 r).wf = true) :
    Calls Try.prog 6 #[hdn a b c p q r] w fun e w' => e = .returned (.bool true) ∧ Below w.heap.size w w' := by
  clear ha hb hc hp hq hr
  obtain ⟨x, ok, hv⟩ := ansDs_form a b c p q r
  have Hv := Lib.hid hv
  clear hv
  have bx := Lib.hid (Box6.new w a b c p q r 25)
  go_enter Try.func6, Try.ntmps6
  go_wp2_with fail
  refine (toHidden_any _ _ _ _ _ _ _).mono ?_
  rintro e w1 ⟨rfl, hb1⟩
  have bx1 := Lib.hid (bx.out.keep hb1)
  go_wp2_with fail
  refine (specDs_any _ _ _ _ _ _ _).mono ?_
  rw [Hv.out]
  rintro e w2 ⟨rfl, hb2⟩
  obtain ⟨c0, c1, c2, c3, c4, c5, hk⟩ := bx1.out.keep hb2
  go_wp2_with fail
  refine (toHidden_any _ _ _ _ _ _ _).mono ?_
  rintro e w3 ⟨rfl, hb3⟩
  go_wp2_with fail
  refine (implDs_any _ _ _ _ _ _ _).mono ?_
  rw [Hv.out]
  rintro e w4 ⟨rfl, hb4⟩
  go_wp2_with fail
  go_ret
  exact ⟨rfl, bel_trans (bel_trans (bel_trans (bel_trans (bel_alloc (Below.refl _ _) _) hb1) hb2) hb3) hb4⟩

end Go.Proofs.Ytjfcpbedmdnjcab
