/- TurnHidden: the contracts of the program and of its model, and the walk. -/
import Derived.Test.YtjfcpbedmdnjcacHdT
import Derived.Test.YtjfcpbedmdnjcacTurnD
namespace Go.Proofs.Ytjfcpbedmdnjcac
set_option linter.unusedSimpArgs false
open Go.ChangeShapes Go.WideShapes Go.ChangeAt Go.RowKit
set_option linter.unusedVariables false

def ansTh (a b c p q r : Int) : Value := if goodH a b c p q r then .tuple #[hdn b a c q p r, .bool true] else .tuple #[hdn 0 0 0 0 0 0, .bool false]
theorem ansTh_form (a b c p q r : Int) : ∃ (x y z u v t : Int) (o : Bool), ansTh a b c p q r = .tuple #[hdn x y z u v t, .bool o] := by
  unfold ansTh
  split
  · exact ⟨_, _, _, _, _, _, _, rfl⟩
  · exact ⟨0, 0, 0, 0, 0, 0, _, rfl⟩
theorem goodH_two {a b c p q r : Int} (h : goodH a b c p q r = true) : good a b c = true ∧ good p q r = true := by
  unfold goodH at h
  rwa [Bool.and_eq_true] at h
/-- The box of hidden days and the one of the answer. -/
theorem two_boxes (w : World) (a b c p q r : Int) : let V := (w.alloc (.cells #[.int .i64 a, .int .i64 b, .int .i64 c, .int .i64 p, .int .i64 q, .int .i64 r] 28)).alloc (.cells #[.int .i64 0, .int .i64 0, .int .i64 0, .int .i64 0, .int .i64 0, .int .i64 0] 28)
    Box6 V w.heap.size a b c p q r ∧ Box6W V (w.heap.size + 1) 0 0 0 0 0 0 ∧ Below w.heap.size w V := by
  intro V
  have z1 : w.heap.size + 1 = (w.alloc (.cells #[.int .i64 a, .int .i64 b, .int .i64 c, .int .i64 p, .int .i64 q, .int .i64 r] 28)).heap.size := size1 _ _
  refine ⟨(Box6.new w a b c p q r 28).keep (bel_alloc (Below.refl _ _) _), ?_, bel_alloc (bel_alloc (Below.refl _ w) _) _⟩
  rw [z1]
  exact Box6W.new _ 0 0 0 0 0 0 28

set_option maxRecDepth 100000 in
set_option maxHeartbeats 3200000 in
theorem specTh_any (a b c p q r : Int) (w : World) :
    Calls Try.prog 7 #[hdn a b c p q r] w fun e w' => e = .returned (ansTh a b c p q r) ∧ Below w.heap.size w w' := by
  have bb := Lib.hid (two_boxes w a b c p q r)
  cases h : goodH a b c p q r
  · rw [show ansTh a b c p q r = .tuple #[hdn 0 0 0 0 0 0, .bool false] from by unfold ansTh; rw [h]; rfl]
    go_enter Try.func7, Try.ntmps7
    go_wp2_with fail
    refine (hdGood_any _ _ _ _ _ _ _).mono ?_
    rintro e w1 ⟨rfl, hb1⟩
    rw [h]
    have Ba := Lib.hid (bb.out.1.keep hb1)
    have Br := Lib.hid (bb.out.2.1.keep hb1)
    have Bl := Lib.hid (bel_trans bb.out.2.2 hb1)
    clear hb1
    obtain ⟨a0, a1, a2, a3, a4, a5, a6⟩ := Ba.out
    obtain ⟨⟨r0, r1, r2, r3, r4, r5, r6⟩, r7, r8, r9, r10, r11, r12⟩ := Br.out
    go_wp2_with fail
    have hset := Lib.hid (Br.out.set 0 0 0 0 0 0)
    obtain ⟨⟨n0, n1, n2, n3, n4, n5, n6⟩, _⟩ := hset.out
    refine bodyPost_ret (v := .tuple #[hdn 0 0 0 0 0 0, .bool false]) (by simp [results, Try.results7, go_sem, n0, n1, n2, n3, n4, n5]) rfl ⟨rfl, ?_⟩
    exact bel_set6 Bl.out (by omega) _ _ _ _ _ _
  · rw [show ansTh a b c p q r = .tuple #[hdn b a c q p r, .bool true] from by unfold ansTh; rw [h]; rfl]
    go_enter Try.func7, Try.ntmps7
    go_wp2_with fail
    refine (hdGood_any _ _ _ _ _ _ _).mono ?_
    rintro e w1 ⟨rfl, hb1⟩
    rw [h]
    have Ba := Lib.hid (bb.out.1.keep hb1)
    have Br := Lib.hid (bb.out.2.1.keep hb1)
    have Bl := Lib.hid (bel_trans bb.out.2.2 hb1)
    clear hb1
    obtain ⟨a0, a1, a2, a3, a4, a5, a6⟩ := Ba.out
    obtain ⟨⟨r0, r1, r2, r3, r4, r5, r6⟩, r7, r8, r9, r10, r11, r12⟩ := Br.out
    go_wp2_with fail
    have hset := Lib.hid ((Br.out.set b a c q p r).keep (bel_alloc (Below.refl _ _) (.cells #[.int .i64 b, .int .i64 a, .int .i64 c] 26)))
    obtain ⟨⟨n0, n1, n2, n3, n4, n5, n6⟩, _⟩ := hset.out
    refine bodyPost_ret (v := .tuple #[hdn b a c q p r, .bool true]) (by simp [results, Try.results7, go_sem, n0, n1, n2, n3, n4, n5]) rfl ⟨rfl, ?_⟩
    exact bel_alloc (bel_set6 Bl.out (by omega) _ _ _ _ _ _) _

set_option maxRecDepth 100000 in
set_option maxHeartbeats 3200000 in
theorem hiddenOf_any (a b c p q r : Int) (w : World) :
    Calls Try.prog 31 #[chn a b c, chn p q r] w fun e w' => e = .returned (hdn a b c p q r) ∧ Below w.heap.size w w' := by
  go_enter Try.func31, Try.ntmps31
  go_wp2
  refine bodyPost_ret (v := hdn a b c p q r) (by simp [results, Try.results31, go_sem]) rfl ⟨rfl, ?_⟩
  repeat (first | assumption | with_reducible exact Below.refl _ _ | refine bel_alloc ?_ _ | refine bel_drewN ?_ _ | refine Below.drew ?_ | (refine Below.setCell ?_ (by simp) _) | (refine bel_trans ?_ (by assumption)))
set_option maxRecDepth 100000 in
set_option maxHeartbeats 3200000 in
theorem eqHidden_same (a b c p q r : Int) (w : World) :
    Calls Try.prog 10 #[hdn a b c p q r, hdn a b c p q r] w fun e w' => e = .returned (.bool true) ∧ Below w.heap.size w w' := by
  have bx := Lib.hid ((Box6.new w a b c p q r 28).keep (bel_alloc (Below.refl _ _) (.cells #[.int .i64 a, .int .i64 b, .int .i64 c, .int .i64 p, .int .i64 q, .int .i64 r] 28)))
  have by1 := Box6.new (w.alloc (.cells #[.int .i64 a, .int .i64 b, .int .i64 c, .int .i64 p, .int .i64 q, .int .i64 r] 28)) a b c p q r 28
  rw [← size1] at by1
  have By := Lib.hid by1
  have Bl := Lib.hid (bel_alloc (bel_alloc (Below.refl _ w) (.cells #[.int .i64 a, .int .i64 b, .int .i64 c, .int .i64 p, .int .i64 q, .int .i64 r] 28)) (.cells #[.int .i64 a, .int .i64 b, .int .i64 c, .int .i64 p, .int .i64 q, .int .i64 r] 28))
  clear by1
  go_enter Try.func10, Try.ntmps10
  go_wp2_with fail
  refine (eqChain_any _ _ _ _).mono ?_
  rintro e w1 ⟨rfl, hb1⟩
  obtain ⟨a0, a1, a2, a3, a4, a5, a6⟩ := bx.out.keep hb1
  obtain ⟨r0, r1, r2, r3, r4, r5, r6⟩ := By.out.keep hb1
  have Bl1 := Lib.hid (bel_trans Bl.out hb1)
  go_wp2_with fail
  go_ret
  exact ⟨rfl, Bl1.out⟩

set_option maxRecDepth 100000 in
set_option maxHeartbeats 3200000 in
theorem implTh_any (a b c p q r : Int) (w : World) :
    Calls Try.prog 9 #[hdn a b c p q r] w fun e w' => e = .returned (ansTh a b c p q r) ∧ Below w.heap.size w w' := by
  have bb := Lib.hid (two_boxes w a b c p q r)
  cases h : goodH a b c p q r
  · rw [show ansTh a b c p q r = .tuple #[hdn 0 0 0 0 0 0, .bool false] from by unfold ansTh; rw [h]; rfl]
    go_enter Try.func9, Try.ntmps9
    go_wp2_with fail
    refine (implIsHidden_any _ _ _ _ _ _ _).mono ?_
    rintro e w1 ⟨rfl, hb1⟩
    rw [h]
    have Ba := Lib.hid (bb.out.1.keep hb1)
    have Br := Lib.hid (bb.out.2.1.keep hb1)
    have Bl := Lib.hid (bel_trans bb.out.2.2 hb1)
    clear hb1
    obtain ⟨a0, a1, a2, a3, a4, a5, a6⟩ := Ba.out
    obtain ⟨⟨r0, r1, r2, r3, r4, r5, r6⟩, r7, r8, r9, r10, r11, r12⟩ := Br.out
    go_wp2_with fail
    have hset := Lib.hid (Br.out.set 0 0 0 0 0 0)
    obtain ⟨⟨n0, n1, n2, n3, n4, n5, n6⟩, _⟩ := hset.out
    refine bodyPost_ret (v := .tuple #[hdn 0 0 0 0 0 0, .bool false]) (by simp [results, Try.results9, go_sem, n0, n1, n2, n3, n4, n5]) rfl ⟨rfl, ?_⟩
    exact bel_set6 Bl.out (by omega) _ _ _ _ _ _
  have hA : Hid (turnV a b c = .tuple #[chn b a c, .bool true]) := Lib.hid (by unfold turnV; rw [(goodH_two h).1]; rfl)
  have hB : Hid (turnV p q r = .tuple #[chn q p r, .bool true]) := Lib.hid (by unfold turnV; rw [(goodH_two h).2]; rfl)
  · rw [show ansTh a b c p q r = .tuple #[hdn b a c q p r, .bool true] from by unfold ansTh; rw [h]; rfl]
    go_enter Try.func9, Try.ntmps9
    go_wp2_with fail
    refine (implIsHidden_any _ _ _ _ _ _ _).mono ?_
    rintro e w1 ⟨rfl, hb1⟩
    rw [h]
    have Ba := Lib.hid (bb.out.1.keep hb1)
    have Br := Lib.hid (bb.out.2.1.keep hb1)
    have Bl := Lib.hid (bel_trans bb.out.2.2 hb1)
    clear hb1
    obtain ⟨a0, a1, a2, a3, a4, a5, a6⟩ := Ba.out
    obtain ⟨⟨r0, r1, r2, r3, r4, r5, r6⟩, r7, r8, r9, r10, r11, r12⟩ := Br.out
    go_wp2_with fail
    refine (implTurn_any a b c _).mono ?_
    rw [hA.out]
    rintro e w2 ⟨rfl, hb2⟩
    have Ba2 := Lib.hid (Ba.out.keep hb2)
    have Br2 := Lib.hid (Br.out.keep hb2)
    have Bl2 := Lib.hid (bel_trans Bl.out hb2)
    clear hb2 a0 a1 a2 a3 a4 a5 a6 r0 r1 r2 r3 r4 r5 r6 r7 r8 r9 r10 r11 r12
    have bz := Box3.new w2 (.int .i64 b) (.int .i64 a) (.int .i64 c) 26
    have ba := bel_alloc (Below.refl _ w2) (.cells #[.int .i64 b, .int .i64 a, .int .i64 c] 26)
    have Ba3 := Lib.hid (Ba2.out.keep ba)
    have Br3 := Lib.hid (Br2.out.keep ba)
    have Bl3 := Lib.hid (bel_trans Bl2.out ba)
    have Bz3 := Lib.hid bz
    clear bz ba
    obtain ⟨a0, a1, a2, a3, a4, a5, a6⟩ := Ba3.out
    go_wp2_with fail
    refine (umbrellas_any _ _ _ _ _ _ _).mono ?_
    rintro e w4 ⟨rfl, hb4⟩
    have Br4 := Lib.hid (Br3.out.keep hb4)
    have Bl4 := Lib.hid (bel_trans Bl3.out hb4)
    have Bz4 := Lib.hid (Bz3.out.keep hb4)
    clear hb4 a0 a1 a2 a3 a4 a5 a6
    go_wp2_with fail
    refine (implTurn_any p q r _).mono ?_
    rw [hB.out]
    rintro e w5 ⟨rfl, hb5⟩
    have Br5 := Lib.hid (Br4.out.keep hb5)
    have Bl5 := Lib.hid (bel_trans Bl4.out hb5)
    have Bz5 := Lib.hid (Bz4.out.keep hb5)
    clear hb5
    have by6 := Box3.new w5 (.int .i64 q) (.int .i64 p) (.int .i64 r) 26
    have ba := bel_alloc (Below.refl _ w5) (.cells #[.int .i64 q, .int .i64 p, .int .i64 r] 26)
    have Br6 := Lib.hid (Br5.out.keep ba)
    have Bl6 := Lib.hid (bel_trans Bl5.out ba)
    obtain ⟨z0, z1, z2, z3⟩ := Bz5.out.keep ba
    obtain ⟨y0, y1, y2, y3⟩ := by6
    clear ba
    go_wp2_with fail
    refine (hiddenOf_any b a c q p r _).mono ?_
    rintro e w7 ⟨rfl, hb7⟩
    have Br7 := Lib.hid (Br6.out.keep hb7)
    have Bl7 := Lib.hid (bel_trans Bl6.out hb7)
    clear hb7 z0 z1 z2 z3 y0 y1 y2 y3
    obtain ⟨⟨r0, r1, r2, r3, r4, r5, r6⟩, r7, r8, r9, r10, r11, r12⟩ := Br7.out
    go_wp2_with fail
    have hset := Lib.hid (Br7.out.set b a c q p r)
    obtain ⟨⟨n0, n1, n2, n3, n4, n5, n6⟩, _⟩ := hset.out
    refine bodyPost_ret (v := .tuple #[hdn b a c q p r, .bool true]) (by simp [results, Try.results9, go_sem, n0, n1, n2, n3, n4, n5]) rfl ⟨rfl, ?_⟩
    exact bel_set6 Bl7.out (by omega) _ _ _ _ _ _

set_option maxRecDepth 100000 in
set_option maxHeartbeats 3200000 in
theorem walkExactTurnHidden (a b c p q r : Int) (w : World) (ha : (Lit.int .i64 a).wf = true) (hb : (Lit.int .i64 b).wf = true) (hc : (Lit.int .i64 c).wf = true) (hp : (Lit.int .i64 p).wf = true) (hq : (Lit.int .i64 q).wf = true) (hr : (Lit.int .i64 r).wf = true) :
    Calls Try.prog 3 #[hdn a b c p q r] w fun e w' => e = .returned (.bool true) ∧ Below w.heap.size w w' := by
  clear ha hb hc hp hq hr
  obtain ⟨x, y, z, u, v, t, ok, hv⟩ := ansTh_form a b c p q r
  have Hv := Lib.hid hv
  clear hv
  have bx := Lib.hid (Box6.new w a b c p q r 25)
  go_enter Try.func3, Try.ntmps3
  go_wp2_with fail
  refine (toHidden_any _ _ _ _ _ _ _).mono ?_
  rintro e w1 ⟨rfl, hb1⟩
  have bx1 := Lib.hid (bx.out.keep hb1)
  have bl1 := Lib.hid (bel_trans (bel_alloc (Below.refl _ w) _) hb1)
  clear hb1
  go_wp2_with fail
  refine (specTh_any _ _ _ _ _ _ _).mono ?_
  rw [Hv.out]
  rintro e w2 ⟨rfl, hb2⟩
  have ba := bel_alloc (Below.refl _ w2) (.cells #[.int .i64 x, .int .i64 y, .int .i64 z, .int .i64 u, .int .i64 v, .int .i64 t] 28)
  have bw3 := Lib.hid (Box6.new w2 x y z u v t 28)
  have bx3 := Lib.hid ((bx1.out.keep hb2).keep ba)
  have bl3 := Lib.hid (bel_trans (bel_trans bl1.out hb2) ba)
  clear ba hb2
  obtain ⟨a0, a1, a2, a3, a4, a5, a6⟩ := bx3.out
  go_wp2_with fail
  refine (toHidden_any _ _ _ _ _ _ _).mono ?_
  rintro e w4 ⟨rfl, hb4⟩
  have bw4 := Lib.hid (bw3.out.keep hb4)
  have bl4 := Lib.hid (bel_trans bl3.out hb4)
  clear hb4 a0 a1 a2 a3 a4 a5 a6
  go_wp2_with fail
  refine (implTh_any _ _ _ _ _ _ _).mono ?_
  rw [Hv.out]
  rintro e w5 ⟨rfl, hb5⟩
  have ba := bel_alloc (Below.refl _ w5) (.cells #[.int .i64 x, .int .i64 y, .int .i64 z, .int .i64 u, .int .i64 v, .int .i64 t] 28)
  have bg6 := Lib.hid (Box6.new w5 x y z u v t 28)
  have bw6 := Lib.hid ((bw4.out.keep hb5).keep ba)
  have bl6 := Lib.hid (bel_trans (bel_trans bl4.out hb5) ba)
  clear ba hb5
  obtain ⟨a0, a1, a2, a3, a4, a5, a6⟩ := bw6.out
  obtain ⟨g0, g1, g2, g3, g4, g5, g6⟩ := bg6.out
  go_wp2_with fail
  refine (eqHidden_same _ _ _ _ _ _ _).mono ?_
  rintro e w7 ⟨rfl, hb7⟩
  have bl7 := Lib.hid (bel_trans bl6.out hb7)
  clear hb7 a0 a1 a2 a3 a4 a5 a6 g0 g1 g2 g3 g4 g5 g6
  go_wp2_with fail
  go_ret
  exact ⟨rfl, bl7.out⟩
end Go.Proofs.Ytjfcpbedmdnjcac
