/- TurnStakes: the contracts of the program and of its model, and the walk. -/
import Derived.Test.YtfogipdhipipfabSk
import Derived.Test.YtfogipdhipipfabBoxW
import Derived.Test.YtfogipdhipipfabRowI
namespace Go.Proofs.Ytfogipdhipipfab
set_option linter.unusedSimpArgs false
open Go.ChangeShapes Go.WideShapes Go.ChangeAt Go.RowKit
set_option linter.unusedVariables false

theorem eqStakes_same (p g : Int) (w : World) :
    Calls Try.prog 17 #[sk p g, sk p g] w fun e w' => e = .returned (.bool true) ∧ Below w.heap.size w w' := by
  go_enter Try.func17, Try.ntmps17
  go_wp2
  go_ret
  exact ⟨rfl, bel_alloc (bel_alloc (Below.refl _ _) _) _⟩
theorem bel_setT {w W : World} {k : Nat} (h : Below w.heap.size w W) (hk : w.heap.size ≤ k) (a b : Value) : Below w.heap.size w ((W.setCell ⟨k, 0, none⟩ a).setCell ⟨k, 1, none⟩ b) :=
  (h.setCell (p := ⟨k, 0, none⟩) hk a).setCell (p := ⟨k, 1, none⟩) hk b
theorem bel_undrawT {W w1 : World} (h : Below W.drew.heap.size W.drew w1) : Below W.heap.size W w1 := ⟨h.os, h.tape, h.output, h.size, h.block⟩
set_option maxHeartbeats 1600000 in
theorem turned_any (p g : Int) (w : World) (h : skG p g = true) :
    Calls Try.prog 46 #[sk p g] w fun e w' => e = .returned (sk (g - p) g) ∧ Below w.heap.size w w' := by
  have hmi := Lib.hid (fun W => missing_any p g W h)
  have hq := Box2.new w (.int .i64 p) (.int .i64 g) 26
  have hbl := bel_alloc (Below.refl _ w) (.cells #[.int .i64 p, .int .i64 g] 26)
  have hs := size1 w (.cells #[.int .i64 p, .int .i64 g] 26)
  have W1 : Hid (∃ W1, W1 = (w.alloc (.cells #[.int .i64 p, .int .i64 g] 26))) := Lib.hid ⟨_, rfl⟩
  have hn := BoxW.new (w.alloc (.cells #[.int .i64 p, .int .i64 g] 26)) (.int .i64 0) (.int .i64 0) 26
  rw [← hs] at hn
  have HN := Lib.hid hn
  have BX := Lib.hid (hq.keep (bel_alloc (Below.refl _ _) (.cells #[.int .i64 0, .int .i64 0] 26)))
  have BL := Lib.hid (bel_trans hbl (bel_alloc (Below.refl _ (w.alloc (.cells #[.int .i64 p, .int .i64 g] 26))) (.cells #[.int .i64 0, .int .i64 0] 26)))
  clear hq hbl hs hn W1
  go_enter Try.func46, Try.ntmps46
  go_wp2_with fail
  generalize (w.alloc (.cells #[.int .i64 p, .int .i64 g] 26)).alloc (.cells #[.int .i64 0, .int .i64 0] 26) = W0 at *
  obtain ⟨c0, c1, c2⟩ := BX.out
  go_region_with (go_at_call 71; refine (hmi.out _).mono ?_; rintro e w1 ⟨rfl, hb1⟩; obtain ⟨d0, d1, d2⟩ := BX.out.keep (bel_undrawT hb1); obtain ⟨⟨z0, z1, z2⟩, z3, z4⟩ := HN.out.keep (bel_undrawT hb1))
  all_goals
    go_wp2_with fail
    have hset := Lib.hid ((HN.out.keep (bel_undrawT hb1)).set (.int .i64 (g - p)) (.int .i64 g))
    obtain ⟨⟨n0, n1, n2⟩, n3, n4⟩ := hset.out
    refine bodyPost_ret (v := sk (g - p) g) (by simp [results, Try.results46, go_sem, n0, n1]) rfl ⟨rfl, ?_⟩
    exact bel_setT (bel_trans BL.out (bel_undrawT hb1)) (by omega) _ _
def ansTS (p g : Int) : Value := if skG p g then .tuple #[sk (g - p) g, .bool true] else .tuple #[sk 0 0, .bool false]
theorem ansTS_form (p g : Int) : ∃ (x y : Int) (o : Bool), ansTS p g = .tuple #[sk x y, .bool o] := by
  unfold ansTS
  split
  · exact ⟨_, _, true, rfl⟩
  · exact ⟨0, 0, false, rfl⟩
set_option maxHeartbeats 1600000 in
theorem implTS_any (p g : Int) (w : World) :
    Calls Try.prog 16 #[sk p g] w fun e w' => e = .returned (ansTS p g) ∧ Below w.heap.size w w' := by
  have hq := Box2.new w (.int .i64 p) (.int .i64 g) 26
  have hbl := bel_alloc (Below.refl _ w) (.cells #[.int .i64 p, .int .i64 g] 26)
  have hs := size1 w (.cells #[.int .i64 p, .int .i64 g] 26)
  have hn := BoxW.new (w.alloc (.cells #[.int .i64 p, .int .i64 g] 26)) (.int .i64 0) (.int .i64 0) 26
  rw [← hs] at hn
  have HN := Lib.hid hn
  have BX := Lib.hid (hq.keep (bel_alloc (Below.refl _ _) (.cells #[.int .i64 0, .int .i64 0] 26)))
  have BL := Lib.hid (bel_trans hbl (bel_alloc (Below.refl _ (w.alloc (.cells #[.int .i64 p, .int .i64 g] 26))) (.cells #[.int .i64 0, .int .i64 0] 26)))
  clear hq hbl hs hn
  cases h : skG p g
  · rw [show ansTS p g = .tuple #[sk 0 0, .bool false] from by unfold ansTS; rw [h]; rfl]
    go_enter Try.func16, Try.ntmps16
    go_wp2_with fail
    refine (implAreStakes_any _ _ _).mono ?_
    rintro e w1 ⟨rfl, hb1⟩
    rw [h]
    obtain ⟨⟨z0, z1, z2⟩, z3, z4⟩ := HN.out.keep hb1
    go_wp2_with fail
    have hset := Lib.hid ((HN.out.keep hb1).set (.int .i64 0) (.int .i64 0))
    obtain ⟨⟨n0, n1, n2⟩, n3, n4⟩ := hset.out
    refine bodyPost_ret (v := .tuple #[sk 0 0, .bool false]) (by simp [results, Try.results16, go_sem, n0, n1]) rfl ⟨rfl, ?_⟩
    exact bel_setT (bel_trans BL.out hb1) (by omega) _ _
  · rw [show ansTS p g = .tuple #[sk (g - p) g, .bool true] from by unfold ansTS; rw [h]; rfl]
    have htu : Hid (∀ W : World, Calls Try.prog 46 #[sk p g] W fun e w' => e = .returned (.agg #[.int .i64 (g - p), .int .i64 g]) ∧ Below W.heap.size W w') := Lib.hid (fun W => turned_any p g W h)
    go_enter Try.func16, Try.ntmps16
    go_wp2_with fail
    refine (implAreStakes_any _ _ _).mono ?_
    rintro e w1 ⟨rfl, hb1⟩
    rw [h]
    have BX1 := Lib.hid (BX.out.keep hb1)
    have HN1 := Lib.hid (HN.out.keep hb1)
    have BL1 := Lib.hid (bel_trans BL.out hb1)
    obtain ⟨c0, c1, c2⟩ := BX1.out
    go_wp2_with fail
    refine (htu.out _).mono ?_
    rintro e w2 ⟨rfl, hb2⟩
    obtain ⟨⟨z0, z1, z2⟩, z3, z4⟩ := HN1.out.keep hb2
    go_wp2_with fail
    have hset := Lib.hid ((HN1.out.keep hb2).set (.int .i64 (g - p)) (.int .i64 g))
    obtain ⟨⟨n0, n1, n2⟩, n3, n4⟩ := hset.out
    refine bodyPost_ret (v := .tuple #[sk (g - p) g, .bool true]) (by simp [results, Try.results16, go_sem, n0, n1]) rfl ⟨rfl, ?_⟩
    exact bel_setT (bel_trans BL1.out hb2) (by omega) _ _
set_option maxHeartbeats 1600000 in
theorem specTS_any (p g : Int) (w : World) :
    Calls Try.prog 15 #[sk p g] w fun e w' => e = .returned (ansTS p g) ∧ Below w.heap.size w w' := by
  have hq := Box2.new w (.int .i64 p) (.int .i64 g) 26
  have hbl := bel_alloc (Below.refl _ w) (.cells #[.int .i64 p, .int .i64 g] 26)
  have hs := size1 w (.cells #[.int .i64 p, .int .i64 g] 26)
  have hn := BoxW.new (w.alloc (.cells #[.int .i64 p, .int .i64 g] 26)) (.int .i64 0) (.int .i64 0) 26
  rw [← hs] at hn
  have HN := Lib.hid hn
  have BX := Lib.hid (hq.keep (bel_alloc (Below.refl _ _) (.cells #[.int .i64 0, .int .i64 0] 26)))
  have BL := Lib.hid (bel_trans hbl (bel_alloc (Below.refl _ (w.alloc (.cells #[.int .i64 p, .int .i64 g] 26))) (.cells #[.int .i64 0, .int .i64 0] 26)))
  clear hq hbl hs hn
  cases h : skG p g
  · rw [show ansTS p g = .tuple #[sk 0 0, .bool false] from by unfold ansTS; rw [h]; rfl]
    go_enter Try.func15, Try.ntmps15
    go_wp2_with fail
    refine (skGood_any _ _ _).mono ?_
    rintro e w1 ⟨rfl, hb1⟩
    rw [h]
    obtain ⟨⟨z0, z1, z2⟩, z3, z4⟩ := HN.out.keep hb1
    go_wp2_with fail
    have hset := Lib.hid ((HN.out.keep hb1).set (.int .i64 0) (.int .i64 0))
    obtain ⟨⟨n0, n1, n2⟩, n3, n4⟩ := hset.out
    refine bodyPost_ret (v := .tuple #[sk 0 0, .bool false]) (by simp [results, Try.results15, go_sem, n0, n1]) rfl ⟨rfl, ?_⟩
    exact bel_setT (bel_trans BL.out hb1) (by omega) _ _
  · rw [show ansTS p g = .tuple #[sk (g - p) g, .bool true] from by unfold ansTS; rw [h]; rfl]
    obtain ⟨a, b, c, d⟩ := sk_in h
    have hw : IntKind.i64.wrap (g - p) = g - p := IntWalk.i64_in _ (by omega)
    go_enter Try.func15, Try.ntmps15
    go_wp2_with fail
    refine (skGood_any _ _ _).mono ?_
    rintro e w1 ⟨rfl, hb1⟩
    rw [h]
    have HN1 := Lib.hid (HN.out.keep hb1)
    have BL1 := Lib.hid (bel_trans BL.out hb1)
    obtain ⟨c0, c1, c2⟩ := BX.out.keep hb1
    obtain ⟨⟨z0, z1, z2⟩, z3, z4⟩ := HN1.out
    go_wp2_with fail
    have hset := Lib.hid (HN1.out.set (.int .i64 (g - p)) (.int .i64 g))
    obtain ⟨⟨n0, n1, n2⟩, n3, n4⟩ := hset.out
    refine bodyPost_ret (v := .tuple #[sk (g - p) g, .bool true]) (by simp [results, Try.results15, go_sem, n0, n1]) rfl ⟨rfl, ?_⟩
    exact bel_setT BL1.out (by omega) _ _
set_option maxHeartbeats 1600000 in
theorem walkExactTurnStakes (p g : Int) (w : World) (ha : (Lit.int .i64 p).wf = true) (hb : (Lit.int .i64 g).wf = true) :
    Calls Try.prog 5 #[sk p g] w fun e w' => e = .returned (.bool true) ∧ Below w.heap.size w w' := by
  clear ha hb
  obtain ⟨x, y, ok, hv⟩ := ansTS_form p g
  have Hv := Lib.hid hv
  clear hv
  have bx0 := Lib.hid (Box2.new w (.int .i64 p) (.int .i64 g) 23)
  have bl0 := Lib.hid (bel_alloc (Below.refl _ w) (.cells #[.int .i64 p, .int .i64 g] 23))
  go_enter Try.func5, Try.ntmps5
  go_wp2_with fail
  refine (toStakes_any _ _ _).mono ?_
  rintro e w1 ⟨rfl, hb1⟩
  have bx1 := Lib.hid (bx0.out.keep hb1)
  have bl1 := Lib.hid (bel_trans bl0.out hb1)
  clear hb1
  go_wp2_with fail
  refine (specTS_any p g _).mono ?_
  rintro e w2 ⟨rfl, hb2⟩
  rw [Hv.out]
  have bx2 := Lib.hid ((bx1.out.keep hb2).keep (bel_alloc (Below.refl _ w2) (.cells #[.int .i64 x, .int .i64 y] 26)))
  have by2 := Lib.hid (Box2.new w2 (.int .i64 x) (.int .i64 y) 26)
  have bl2 := Lib.hid (bel_alloc (bel_trans bl1.out hb2) (.cells #[.int .i64 x, .int .i64 y] 26))
  clear hb2
  obtain ⟨c0, c1, c2⟩ := bx2.out
  go_wp2_with fail
  refine (toStakes_any _ _ _).mono ?_
  rintro e w3 ⟨rfl, hb3⟩
  have by3 := Lib.hid (by2.out.keep hb3)
  have bl3 := Lib.hid (bel_trans bl2.out hb3)
  clear hb3
  go_wp2_with fail
  refine (implTS_any p g _).mono ?_
  rintro e w4 ⟨rfl, hb4⟩
  rw [Hv.out]
  have by4 := Lib.hid ((by3.out.keep hb4).keep (bel_alloc (Below.refl _ w4) (.cells #[.int .i64 x, .int .i64 y] 26)))
  have bz4 := Lib.hid (Box2.new w4 (.int .i64 x) (.int .i64 y) 26)
  have bl4 := Lib.hid (bel_alloc (bel_trans bl3.out hb4) (.cells #[.int .i64 x, .int .i64 y] 26))
  clear hb4
  obtain ⟨m0, m1, m2⟩ := by4.out
  obtain ⟨k0, k1, k2⟩ := bz4.out
  go_wp2_with fail
  refine (eqStakes_same x y _).mono ?_
  rintro e w5 ⟨rfl, hb5⟩
  go_wp2_with fail
  go_ret
  exact ⟨rfl, bel_trans bl4.out hb5⟩
end Go.Proofs.Ytfogipdhipipfab
