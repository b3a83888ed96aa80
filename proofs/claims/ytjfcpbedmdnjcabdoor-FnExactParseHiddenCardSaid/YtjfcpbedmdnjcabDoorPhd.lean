/- ParseHidden: the contracts of the program and of its model, and the walk. -/
import Derived.Test.YtjfcpbedmdnjcabDoorPhW
import Derived.Test.YtjfcpbedmdnjcabDoorPhI
import Derived.Test.YtjfcpbedmdnjcabDoorPhdP
import Derived.Test.YtjfcpbedmdnjcabDoorHd0
namespace Go.Proofs.YtjfcpbedmdnjcabDoor
set_option linter.unusedSimpArgs false
open Go.ChangeShapes Go.WideShapes Go.ChangeAt Go.RowKit
set_option linter.unusedVariables false

set_option maxRecDepth 100000 in
set_option maxHeartbeats 3200000 in
theorem hiddenOf_any (a b c p q r : Int) (w : World) :
    Calls Tryd.prog 33 #[chn a b c, chn p q r] w fun e w' => e = .returned (hdn a b c p q r) ∧ Below w.heap.size w w' := by
  go_enter Tryd.func33, Tryd.ntmps33
  go_wp2
  refine bodyPost_ret (v := hdn a b c p q r) (by simp [results, Tryd.results33, go_sem]) rfl ⟨rfl, ?_⟩
  repeat (first | assumption | with_reducible exact Below.refl _ _ | refine bel_alloc ?_ _ | refine bel_drewN ?_ _ | refine Below.drew ?_ | (refine Below.setCell ?_ (by simp) _) | (refine bel_trans ?_ (by assumption)))
set_option maxRecDepth 100000 in
set_option maxHeartbeats 3200000 in
theorem eqHidden_same (a b c p q r : Int) (w : World) :
    Calls Tryd.prog 15 #[hdn a b c p q r, hdn a b c p q r] w fun e w' => e = .returned (.bool true) ∧ Below w.heap.size w w' := by
  have bx := Lib.hid ((Box6.new w a b c p q r 30).keep (bel_alloc (Below.refl _ _) (.cells #[.int .i64 a, .int .i64 b, .int .i64 c, .int .i64 p, .int .i64 q, .int .i64 r] 30)))
  have by1 := Box6.new (w.alloc (.cells #[.int .i64 a, .int .i64 b, .int .i64 c, .int .i64 p, .int .i64 q, .int .i64 r] 30)) a b c p q r 30
  rw [← size1] at by1
  have By := Lib.hid by1
  have Bl := Lib.hid (bel_alloc (bel_alloc (Below.refl _ w) (.cells #[.int .i64 a, .int .i64 b, .int .i64 c, .int .i64 p, .int .i64 q, .int .i64 r] 30)) (.cells #[.int .i64 a, .int .i64 b, .int .i64 c, .int .i64 p, .int .i64 q, .int .i64 r] 30))
  clear by1
  go_enter Tryd.func15, Tryd.ntmps15
  go_wp2_with fail
  refine (eqChain_same _ _ _ _).mono ?_
  rintro e w1 ⟨rfl, hb1⟩
  obtain ⟨a0, a1, a2, a3, a4, a5, a6⟩ := bx.out.keep hb1
  obtain ⟨r0, r1, r2, r3, r4, r5, r6⟩ := By.out.keep hb1
  have Bl1 := Lib.hid (bel_trans Bl.out hb1)
  go_wp2_with fail
  go_ret
  exact ⟨rfl, Bl1.out⟩

theorem baL_size (l : List UInt8) : (baL l).size = l.length := by show l.toArray.size = _; simp
theorem new6W (w : World) : Box6W (w.alloc (.cells #[.int .i64 0, .int .i64 0, .int .i64 0, .int .i64 0, .int .i64 0, .int .i64 0] 30)) w.heap.size 0 0 0 0 0 0 := Box6W.new w 0 0 0 0 0 0 30

set_option maxRecDepth 100000 in
set_option maxHeartbeats 3200000 in
theorem hdParse_any (s : ByteArray) (w : World) (hs : s.size ≤ 1048576) :
    Calls Tryd.prog 30 #[.string s] w fun e w' => e = .returned (ansHd s.data.toList) ∧ Below w.heap.size w w' := by
  have hsl : s.data.toList.length = s.size := by simp
  have br0 := Lib.hid (new6W w)
  have bl0 := Lib.hid (bel_alloc (Below.refl _ w) (.cells #[.int .i64 0, .int .i64 0, .int .i64 0, .int .i64 0, .int .i64 0, .int .i64 0] 30))
  have hA : ansHd s.data.toList = match rdMd s.data.toList with | some c => .tuple #[.agg #[.int .i64 c.1.1, .int .i64 c.1.2.1, .int .i64 c.1.2.2, .int .i64 c.2.1, .int .i64 c.2.2.1, .int .i64 c.2.2.2], .bool true] | none => .tuple #[.agg #[.int .i64 0, .int .i64 0, .int .i64 0, .int .i64 0, .int .i64 0, .int .i64 0], .bool false] := by rw [rd_same]; rfl
  by_cases h17 : s.size ≤ 17
  rotate_left
  · rw [show ansHd s.data.toList = .tuple #[hdn 0 0 0 0 0 0, .bool false] from by rw [hA, show rdMd s.data.toList = none from by unfold rdMd; rw [if_neg (by omega)]]]
    have z1 : (17 : Int) < (s.size : Int) := by omega
    clear hA hsl
    go_enter Tryd.func30, Tryd.ntmps30
    go_wp2_with fail
    refine (l1Split_any s 58 _ hs).mono ?_
    rintro e w1 ⟨v, rfl, hR, hb1⟩
    have Br := Lib.hid (br0.out.keep hb1)
    have Bl := Lib.hid (bel_trans bl0.out hb1)
    clear hb1 hR
    obtain ⟨⟨r0, r1, r2, r3, r4, r5, r6⟩, r7, r8, r9, r10, r11, r12⟩ := Br.out
    go_wp2_with fail
    have hset := Lib.hid (Br.out.set 0 0 0 0 0 0)
    obtain ⟨⟨n0, n1, n2, n3, n4, n5, n6⟩, _⟩ := hset.out
    refine bodyPost_ret (v := .tuple #[hdn 0 0 0 0 0 0, .bool false]) (by simp [results, Tryd.results30, go_sem, n0, n1, n2, n3, n4, n5]) rfl ⟨rfl, ?_⟩
    exact bel_set6 Bl.out (Nat.le_refl _) _ _ _ _ _ _
  have z2 : decide ((17 : Int) < (s.size : Int)) = false := by simp; omega
  by_cases h2 : (prtL s.data.toList 58).length = 2
  rotate_left
  · rw [show ansHd s.data.toList = .tuple #[hdn 0 0 0 0 0 0, .bool false] from by
      rw [hA, show rdMd s.data.toList = none from by
        unfold rdMd
        split
        · split
          · rename_i x y hxy; rw [hxy] at h2; exact absurd rfl h2
          · rfl
        · rfl]]
    have hn : ((prtL s.data.toList 58).map baL).length ≠ 2 := by rw [List.length_map]; exact h2
    generalize (prtL s.data.toList 58).map baL = xs at hn
    have HN := Lib.hid hn
    have hsp : Hid (∀ W : World, Calls Tryd.prog 53 #[.string s, .int .u8 58] W (SRowOne ((prtL s.data.toList 58).map baL) W)) := Lib.hid (fun W => l1Split_any s 58 W hs)
    have HN2 : Hid (((prtL s.data.toList 58).map baL).length ≠ 2) := Lib.hid (by rw [List.length_map]; exact h2)
    clear hA hsl hn h2 HN
    generalize (prtL s.data.toList 58).map baL = ys at *
    go_enter Tryd.func30, Tryd.ntmps30
    go_wp2_with fail
    refine (hsp.out _).mono ?_
    rintro e w1 ⟨v, rfl, hR, hb1⟩
    have Br := Lib.hid (br0.out.keep hb1)
    have Bl := Lib.hid (bel_trans bl0.out hb1)
    have hne : ((ys.length : Int) != 2) = true := by have := HN2.out; simp; omega
    rcases hR.form with ⟨hx, A0, cap0, rfl⟩ | ⟨hx, g, cap, rfl, _, _, hlc, hcm⟩
    · clear hb1 hR
      obtain ⟨⟨r0, r1, r2, r3, r4, r5, r6⟩, r7, r8, r9, r10, r11, r12⟩ := Br.out
      go_wp2_with fail
      have hset := Lib.hid (Br.out.set 0 0 0 0 0 0)
      obtain ⟨⟨n0, n1, n2, n3, n4, n5, n6⟩, _⟩ := hset.out
      refine bodyPost_ret (v := .tuple #[hdn 0 0 0 0 0 0, .bool false]) (by simp [results, Tryd.results30, go_sem, n0, n1, n2, n3, n4, n5]) rfl ⟨rfl, ?_⟩
      exact bel_set6 Bl.out (Nat.le_refl _) _ _ _ _ _ _
    · clear hb1 hR
      obtain ⟨⟨r0, r1, r2, r3, r4, r5, r6⟩, r7, r8, r9, r10, r11, r12⟩ := Br.out
      go_wp2_with fail
      have hset := Lib.hid (Br.out.set 0 0 0 0 0 0)
      obtain ⟨⟨n0, n1, n2, n3, n4, n5, n6⟩, _⟩ := hset.out
      refine bodyPost_ret (v := .tuple #[hdn 0 0 0 0 0 0, .bool false]) (by simp [results, Tryd.results30, go_sem, n0, n1, n2, n3, n4, n5]) rfl ⟨rfl, ?_⟩
      exact bel_set6 Bl.out (Nat.le_refl _) _ _ _ _ _ _
  obtain ⟨x, y, hxy⟩ := two_of h2
  have hlj := prtL_two hxy
  have hlen : x.length ≤ 17 ∧ y.length ≤ 17 := by
    have := congrArg List.length hlj
    rw [hsl] at this
    simp at this
    omega
  have zx : (baL x).size ≤ 1048576 := by rw [baL_size]; omega
  have zy : (baL y).size ≤ 1048576 := by rw [baL_size]; omega
  have hm : rdMd s.data.toList = match readH x, readH y with | some c, some d => some (c, d) | _, _ => none := by
    unfold rdMd
    rw [if_pos (by omega), hxy]
    rfl
  rw [hm] at hA
  have hcx : Hid (∀ W : World, Calls Tryd.prog 54 #[.string (baL x)] W fun e w' => e = .returned (ansPH x) ∧ Below W.heap.size W w') := Lib.hid (fun W => by have := cnParse_any (baL x) W zx; rw [baL_toList] at this; exact this)
  have hcy : Hid (∀ W : World, Calls Tryd.prog 54 #[.string (baL y)] W fun e w' => e = .returned (ansPH y) ∧ Below W.heap.size W w') := Lib.hid (fun W => by have := cnParse_any (baL y) W zy; rw [baL_toList] at this; exact this)
  have hsp : Hid (∀ W : World, Calls Tryd.prog 53 #[.string s, .int .u8 58] W (SRowOne [baL x, baL y] W)) := Lib.hid (fun W => by have := l1Split_any s 58 W hs; rw [hxy] at this; exact this)
  have key : ∀ (x1 x2 x3 y1 y2 y3 : Int) (o1 o2 : Bool), ansPH x = .tuple #[chn x1 x2 x3, .bool o1] → ansPH y = .tuple #[chn y1 y2 y3, .bool o2] → (o1 = true → o2 = true → goodH x1 x2 x3 y1 y2 y3 = true) → ansHd s.data.toList = (if o1 && o2 then .tuple #[hdn x1 x2 x3 y1 y2 y3, .bool true] else .tuple #[hdn 0 0 0 0 0 0, .bool false]) → Calls Tryd.prog 30 #[.string s] w fun e w' => e = .returned (ansHd s.data.toList) ∧ Below w.heap.size w w' := by
    intro x1 x2 x3 y1 y2 y3 o1 o2 e1 e2 hgd hans
    rw [hans]
    rw [e1] at hcx
    rw [e2] at hcy
    clear hans e1 e2 hA hm hlj hxy hsl hlen zx zy h2
    cases o1
    · rw [show (if false && o2 then (.tuple #[hdn x1 x2 x3 y1 y2 y3, .bool true] : Value) else .tuple #[hdn 0 0 0 0 0 0, .bool false]) = .tuple #[hdn 0 0 0 0 0 0, .bool false] from rfl]
      go_enter Tryd.func30, Tryd.ntmps30
      go_wp2_with fail
      refine (hsp.out _).mono ?_
      rintro e w1 ⟨v, rfl, hR, hb1⟩
      obtain ⟨g, cap, rfl, q0, q1, hg, _, hc0, hm0⟩ := SRow.two hR
      have Br1 := Lib.hid (br0.out.keep hb1)
      have Bl1 := Lib.hid (bel_trans bl0.out hb1)
      clear hb1 hR
      unfold maxLen at hm0
      go_wp2_with fail
      refine (hcx.out _).mono ?_
      rintro e w2 ⟨rfl, hb2⟩
      have Br2 := Lib.hid ((Br1.out.keep hb2).keep (bel_alloc (Below.refl _ _) (.cells #[.int .i64 x1, .int .i64 x2, .int .i64 x3] 28)))
      have Bl2 := Lib.hid (bel_alloc (bel_trans Bl1.out hb2) (.cells #[.int .i64 x1, .int .i64 x2, .int .i64 x3] 28))
      have q1' : w2.cell? ⟨g, 1, none⟩ = some (.string (baL y)) := (hb2.cell (p := ⟨g, 1, none⟩) hg).trans q1
      have hg2 : g < w2.heap.size := Nat.lt_of_lt_of_le hg hb2.size
      have bc2 := Lib.hid (Box3.new w2 (.int .i64 x1) (.int .i64 x2) (.int .i64 x3) 28)
      clear q0 q1 hb2
      go_wp2_with fail
      refine (hcy.out _).mono ?_
      rintro e w3 ⟨rfl, hb3⟩
      have Br3 := Lib.hid (Br2.out.keep hb3)
      have Bl3 := Lib.hid (bel_trans Bl2.out hb3)
      obtain ⟨k0, k1, k2, k3⟩ := bc2.out.keep hb3
      obtain ⟨⟨r0, r1, r2, r3, r4, r5, r6⟩, r7, r8, r9, r10, r11, r12⟩ := Br3.out
      clear hb3 q1'
      go_wp2_with fail
      have hset := Lib.hid (((Br3.out.set 0 0 0 0 0 0).keep (bel_alloc (Below.refl _ _) (.cells #[.int .i64 y1, .int .i64 y2, .int .i64 y3] 28))).keep (bel_alloc (Below.refl _ _) (.cells #[.int .i64 x1, .int .i64 x2, .int .i64 x3, .int .i64 y1, .int .i64 y2, .int .i64 y3] 30)))
      obtain ⟨⟨n0, n1, n2, n3, n4, n5, n6⟩, _⟩ := hset.out
      refine bodyPost_ret (v := .tuple #[hdn 0 0 0 0 0 0, .bool false]) (by simp [results, Tryd.results30, go_sem, n0, n1, n2, n3, n4, n5]) rfl ⟨rfl, ?_⟩
      exact bel_alloc (bel_alloc (bel_set6 Bl3.out (Nat.le_refl _) _ _ _ _ _ _) _) _
    · cases o2
      · rw [show (if true && false then (.tuple #[hdn x1 x2 x3 y1 y2 y3, .bool true] : Value) else .tuple #[hdn 0 0 0 0 0 0, .bool false]) = .tuple #[hdn 0 0 0 0 0 0, .bool false] from rfl]
        go_enter Tryd.func30, Tryd.ntmps30
        go_wp2_with fail
        refine (hsp.out _).mono ?_
        rintro e w1 ⟨v, rfl, hR, hb1⟩
        obtain ⟨g, cap, rfl, q0, q1, hg, _, hc0, hm0⟩ := SRow.two hR
        have Br1 := Lib.hid (br0.out.keep hb1)
        have Bl1 := Lib.hid (bel_trans bl0.out hb1)
        clear hb1 hR
        unfold maxLen at hm0
        go_wp2_with fail
        refine (hcx.out _).mono ?_
        rintro e w2 ⟨rfl, hb2⟩
        have Br2 := Lib.hid ((Br1.out.keep hb2).keep (bel_alloc (Below.refl _ _) (.cells #[.int .i64 x1, .int .i64 x2, .int .i64 x3] 28)))
        have Bl2 := Lib.hid (bel_alloc (bel_trans Bl1.out hb2) (.cells #[.int .i64 x1, .int .i64 x2, .int .i64 x3] 28))
        have q1' : w2.cell? ⟨g, 1, none⟩ = some (.string (baL y)) := (hb2.cell (p := ⟨g, 1, none⟩) hg).trans q1
        have hg2 : g < w2.heap.size := Nat.lt_of_lt_of_le hg hb2.size
        have bc2 := Lib.hid (Box3.new w2 (.int .i64 x1) (.int .i64 x2) (.int .i64 x3) 28)
        clear q0 q1 hb2
        go_wp2_with fail
        refine (hcy.out _).mono ?_
        rintro e w3 ⟨rfl, hb3⟩
        have Br3 := Lib.hid (Br2.out.keep hb3)
        have Bl3 := Lib.hid (bel_trans Bl2.out hb3)
        obtain ⟨k0, k1, k2, k3⟩ := bc2.out.keep hb3
        obtain ⟨⟨r0, r1, r2, r3, r4, r5, r6⟩, r7, r8, r9, r10, r11, r12⟩ := Br3.out
        clear hb3 q1'
        go_wp2_with fail
        have hset := Lib.hid (((Br3.out.set 0 0 0 0 0 0).keep (bel_alloc (Below.refl _ _) (.cells #[.int .i64 y1, .int .i64 y2, .int .i64 y3] 28))).keep (bel_alloc (Below.refl _ _) (.cells #[.int .i64 x1, .int .i64 x2, .int .i64 x3, .int .i64 y1, .int .i64 y2, .int .i64 y3] 30)))
        obtain ⟨⟨n0, n1, n2, n3, n4, n5, n6⟩, _⟩ := hset.out
        refine bodyPost_ret (v := .tuple #[hdn 0 0 0 0 0 0, .bool false]) (by simp [results, Tryd.results30, go_sem, n0, n1, n2, n3, n4, n5]) rfl ⟨rfl, ?_⟩
        exact bel_alloc (bel_alloc (bel_set6 Bl3.out (Nat.le_refl _) _ _ _ _ _ _) _) _
      · rw [show (if true && true then (.tuple #[hdn x1 x2 x3 y1 y2 y3, .bool true] : Value) else .tuple #[hdn 0 0 0 0 0 0, .bool false]) = .tuple #[hdn x1 x2 x3 y1 y2 y3, .bool true] from rfl]
        have hgg := Lib.hid (hgd rfl rfl)
        go_enter Tryd.func30, Tryd.ntmps30
        go_wp2_with fail
        refine (hsp.out _).mono ?_
        rintro e w1 ⟨v, rfl, hR, hb1⟩
        obtain ⟨g, cap, rfl, q0, q1, hg, _, hc0, hm0⟩ := SRow.two hR
        have Br1 := Lib.hid (br0.out.keep hb1)
        have Bl1 := Lib.hid (bel_trans bl0.out hb1)
        clear hb1 hR
        unfold maxLen at hm0
        go_wp2_with fail
        refine (hcx.out _).mono ?_
        rintro e w2 ⟨rfl, hb2⟩
        have Br2 := Lib.hid ((Br1.out.keep hb2).keep (bel_alloc (Below.refl _ _) (.cells #[.int .i64 x1, .int .i64 x2, .int .i64 x3] 28)))
        have Bl2 := Lib.hid (bel_alloc (bel_trans Bl1.out hb2) (.cells #[.int .i64 x1, .int .i64 x2, .int .i64 x3] 28))
        have q1' : w2.cell? ⟨g, 1, none⟩ = some (.string (baL y)) := (hb2.cell (p := ⟨g, 1, none⟩) hg).trans q1
        have hg2 : g < w2.heap.size := Nat.lt_of_lt_of_le hg hb2.size
        have bc2 := Lib.hid (Box3.new w2 (.int .i64 x1) (.int .i64 x2) (.int .i64 x3) 28)
        clear q0 q1 hb2
        go_wp2_with fail
        refine (hcy.out _).mono ?_
        rintro e w3 ⟨rfl, hb3⟩
        have Br3 := Lib.hid (Br2.out.keep hb3)
        have Bl3 := Lib.hid (bel_trans Bl2.out hb3)
        obtain ⟨k0, k1, k2, k3⟩ := bc2.out.keep hb3
        obtain ⟨⟨r0, r1, r2, r3, r4, r5, r6⟩, r7, r8, r9, r10, r11, r12⟩ := Br3.out
        clear hb3 q1'
        go_wp2_with fail
        refine (hdGood_any _ _ _ _ _ _ _).mono ?_
        rintro e w5 ⟨rfl, hb5⟩
        rw [hgg.out]
        have hba := bel_alloc (Below.refl _ w3) (.cells #[.int .i64 y1, .int .i64 y2, .int .i64 y3] 28)
        have hbb := bel_alloc (Below.refl _ (w3.alloc (.cells #[.int .i64 y1, .int .i64 y2, .int .i64 y3] 28))) (.cells #[.int .i64 x1, .int .i64 x2, .int .i64 x3, .int .i64 y1, .int .i64 y2, .int .i64 y3] 30)
        have bh := Box6.new (w3.alloc (.cells #[.int .i64 y1, .int .i64 y2, .int .i64 y3] 28)) x1 x2 x3 y1 y2 y3 30
        rw [← size1] at bh
        have Br5 := Lib.hid (((Br3.out.keep hba).keep hbb).keep hb5)
        have Bl5 := Lib.hid (bel_trans (bel_trans (bel_trans Bl3.out hba) hbb) hb5)
        obtain ⟨m0, m1, m2, m3, m4, m5, m6⟩ := bh.keep hb5
        clear hb5 hba hbb bh r0 r1 r2 r3 r4 r5 r6 r7 r8 r9 r10 r11 r12
        obtain ⟨⟨r0, r1, r2, r3, r4, r5, r6⟩, r7, r8, r9, r10, r11, r12⟩ := Br5.out
        go_wp2_with fail
        have hset := Lib.hid (Br5.out.set x1 x2 x3 y1 y2 y3)
        obtain ⟨⟨n0, n1, n2, n3, n4, n5, n6⟩, _⟩ := hset.out
        refine bodyPost_ret (v := .tuple #[hdn x1 x2 x3 y1 y2 y3, .bool true]) (by simp [results, Tryd.results30, go_sem, n0, n1, n2, n3, n4, n5]) rfl ⟨rfl, ?_⟩
        exact bel_set6 Bl5.out (Nat.le_refl _) _ _ _ _ _ _
  cases hx : readH x with
  | none =>
    obtain ⟨y1, y2, y3, o2, hy⟩ := ansPH_form y
    exact key 0 0 0 y1 y2 y3 false o2 (by unfold ansPH; rw [hx]) hy (fun h => by cases h) (by rw [hA, hx]; rfl)
  | some c =>
    cases hy : readH y with
    | none => exact key c.1 c.2.1 c.2.2 0 0 0 true false (by unfold ansPH; rw [hx]) (by unfold ansPH; rw [hy]) (fun _ h => by cases h) (by rw [hA, hx, hy]; rfl)
    | some d => exact key c.1 c.2.1 c.2.2 d.1 d.2.1 d.2.2 true true (by unfold ansPH; rw [hx]) (by unfold ansPH; rw [hy]) (fun _ _ => by unfold goodH; rw [readH_good hx, readH_good hy]; rfl) (by rw [hA, hx, hy]; rfl)

set_option maxRecDepth 100000 in
set_option maxHeartbeats 3200000 in
theorem specHd_any (s : ByteArray) (w : World) (hs : s.size ≤ 1048576) :
    Calls Tryd.prog 13 #[.string s] w fun e w' => e = .returned (ansHd s.data.toList) ∧ Below w.heap.size w w' := by
  obtain ⟨x, y, z, u, v, t, ok, hv⟩ := ansHd_form s.data.toList
  have hp : Hid (∀ W : World, Calls Tryd.prog 30 #[.string s] W fun e w' => e = .returned (.tuple #[hdn x y z u v t, .bool ok]) ∧ Below W.heap.size W w') := Lib.hid (fun W => by have := hdParse_any s W hs; rw [hv] at this; exact this)
  rw [hv]
  clear hv
  have br0 := Lib.hid (new6W w)
  have bl0 := Lib.hid (bel_alloc (Below.refl _ w) (.cells #[.int .i64 0, .int .i64 0, .int .i64 0, .int .i64 0, .int .i64 0, .int .i64 0] 30))
  go_enter Tryd.func13, Tryd.ntmps13
  go_wp2_with fail
  refine (hp.out _).mono ?_
  rintro e w1 ⟨rfl, hb1⟩
  have Br := Lib.hid (br0.out.keep hb1)
  have Bl := Lib.hid (bel_trans bl0.out hb1)
  clear hb1
  obtain ⟨⟨r0, r1, r2, r3, r4, r5, r6⟩, r7, r8, r9, r10, r11, r12⟩ := Br.out
  go_wp2_with fail
  have hset := Lib.hid (Br.out.set x y z u v t)
  obtain ⟨⟨n0, n1, n2, n3, n4, n5, n6⟩, _⟩ := hset.out
  refine bodyPost_ret (v := .tuple #[hdn x y z u v t, .bool ok]) (by simp [results, Tryd.results13, go_sem, n0, n1, n2, n3, n4, n5]) rfl ⟨rfl, ?_⟩
  exact bel_set6 Bl.out (Nat.le_refl _) _ _ _ _ _ _

set_option maxRecDepth 100000 in
set_option maxHeartbeats 3200000 in
theorem implHd_any (s : ByteArray) (w : World) (hS : Sent w) (hs : s.size ≤ 1048576) :
    Calls Tryd.prog 14 #[.string s] w fun e w' => e = .returned (ansHd s.data.toList) ∧ Below w.heap.size w w' := by
  have hsl : s.data.toList.length = s.size := by simp
  have br0 := Lib.hid (new6W w)
  have bl0 := Lib.hid (bel_alloc (Below.refl _ w) (.cells #[.int .i64 0, .int .i64 0, .int .i64 0, .int .i64 0, .int .i64 0, .int .i64 0] 30))
  have hcl := cut_len s.data.toList 58
  have hct : Hid (∀ W : World, Calls Tryd.prog 31 #[.string s, .string ⟨#[58]⟩] W fun e w' => e = .returned (.tuple #[.string (baL (Lib.cut s.data.toList [58]).1), .string (baL (Lib.cut s.data.toList [58]).2.1), .bool (Lib.cut s.data.toList [58]).2.2]) ∧ ∃ n, w' = W.drewN n) := Lib.hid (fun W => cut_any s 58 W (by omega))
  have hA : ansHd s.data.toList = match rdPg s.data.toList with | some c => .tuple #[.agg #[.int .i64 c.1.1, .int .i64 c.1.2.1, .int .i64 c.1.2.2, .int .i64 c.2.1, .int .i64 c.2.2.1, .int .i64 c.2.2.2], .bool true] | none => .tuple #[.agg #[.int .i64 0, .int .i64 0, .int .i64 0, .int .i64 0, .int .i64 0, .int .i64 0], .bool false] := rfl
  unfold rdPg at hA
  generalize (Lib.cut s.data.toList [58]).1 = x at *
  generalize (Lib.cut s.data.toList [58]).2.1 = y at *
  generalize (Lib.cut s.data.toList [58]).2.2 = fd at *
  have hpx : Hid (∀ W : World, Below w.heap.size w W → Calls Tryd.prog 32 #[.string (baL x)] W fun e w' => e = .returned (ansPH x) ∧ Below W.heap.size W w') := Lib.hid (fun W hb => by have := implPH_any (baL x) W (hS.keep hb) (by rw [baL_size]; omega); rw [baL_toList] at this; exact this)
  have hpy : Hid (∀ W : World, Below w.heap.size w W → Calls Tryd.prog 32 #[.string (baL y)] W fun e w' => e = .returned (ansPH y) ∧ Below W.heap.size W w') := Lib.hid (fun W hb => by have := implPH_any (baL y) W (hS.keep hb) (by rw [baL_size]; omega); rw [baL_toList] at this; exact this)
  have key : ∀ (x1 x2 x3 y1 y2 y3 : Int) (o1 o2 : Bool), ansPH x = .tuple #[chn x1 x2 x3, .bool o1] → ansPH y = .tuple #[chn y1 y2 y3, .bool o2] → ansHd s.data.toList = (if o1 && o2 then .tuple #[hdn x1 x2 x3 y1 y2 y3, .bool true] else .tuple #[hdn 0 0 0 0 0 0, .bool false]) → Calls Tryd.prog 14 #[.string s] w fun e w' => e = .returned (ansHd s.data.toList) ∧ Below w.heap.size w w' := by
    intro x1 x2 x3 y1 y2 y3 o1 o2 e1 e2 hans
    rw [hans]
    rw [e1] at hpx
    rw [e2] at hpy
    clear hans e1 e2 hA hsl hcl hS
    generalize baL x = X at *
    generalize baL y = Y at *
    cases o1
    · rw [show (if false && o2 then (.tuple #[hdn x1 x2 x3 y1 y2 y3, .bool true] : Value) else .tuple #[hdn 0 0 0 0 0 0, .bool false]) = .tuple #[hdn 0 0 0 0 0 0, .bool false] from rfl]
      go_enter Tryd.func14, Tryd.ntmps14
      go_wp2_with fail
      refine (hct.out _).mono ?_
      rintro e w1 ⟨rfl, n1, rfl⟩
      go_wp2_with fail
      refine (hpx.out _ (bel_drewN bl0.out n1)).mono ?_
      rintro e w2 ⟨rfl, hb2⟩
      have Br2 := Lib.hid (((br0.out.keep (bel_drewN (Below.refl _ _) n1)).keep hb2).keep (bel_alloc (Below.refl _ _) (.cells #[.int .i64 x1, .int .i64 x2, .int .i64 x3] 28)))
      have Bl2 := Lib.hid (bel_alloc (bel_trans (bel_drewN bl0.out n1) hb2) (.cells #[.int .i64 x1, .int .i64 x2, .int .i64 x3] 28))
      have bc2 := Lib.hid (Box3.new w2 (.int .i64 x1) (.int .i64 x2) (.int .i64 x3) 28)
      clear hb2
      go_wp2_with fail
      refine (hpy.out _ Bl2.out).mono ?_
      rintro e w3 ⟨rfl, hb3⟩
      have Br3 := Lib.hid (Br2.out.keep hb3)
      have Bl3 := Lib.hid (bel_trans Bl2.out hb3)
      obtain ⟨k0, k1, k2, k3⟩ := bc2.out.keep hb3
      obtain ⟨⟨r0, r1, r2, r3, r4, r5, r6⟩, r7, r8, r9, r10, r11, r12⟩ := Br3.out
      clear hb3
      go_wp2_with fail
      have hset := Lib.hid ((Br3.out.set 0 0 0 0 0 0).keep (bel_alloc (Below.refl _ _) (.cells #[.int .i64 y1, .int .i64 y2, .int .i64 y3] 28)))
      obtain ⟨⟨n0, n1, n2, n3, n4, n5, n6⟩, _⟩ := hset.out
      refine bodyPost_ret (v := .tuple #[hdn 0 0 0 0 0 0, .bool false]) (by simp [results, Tryd.results14, go_sem, n0, n1, n2, n3, n4, n5]) rfl ⟨rfl, ?_⟩
      exact bel_alloc (bel_set6 Bl3.out (Nat.le_refl _) _ _ _ _ _ _) _
    · cases o2
      · rw [show (if true && false then (.tuple #[hdn x1 x2 x3 y1 y2 y3, .bool true] : Value) else .tuple #[hdn 0 0 0 0 0 0, .bool false]) = .tuple #[hdn 0 0 0 0 0 0, .bool false] from rfl]
        go_enter Tryd.func14, Tryd.ntmps14
        go_wp2_with fail
        refine (hct.out _).mono ?_
        rintro e w1 ⟨rfl, n1, rfl⟩
        go_wp2_with fail
        refine (hpx.out _ (bel_drewN bl0.out n1)).mono ?_
        rintro e w2 ⟨rfl, hb2⟩
        have Br2 := Lib.hid (((br0.out.keep (bel_drewN (Below.refl _ _) n1)).keep hb2).keep (bel_alloc (Below.refl _ _) (.cells #[.int .i64 x1, .int .i64 x2, .int .i64 x3] 28)))
        have Bl2 := Lib.hid (bel_alloc (bel_trans (bel_drewN bl0.out n1) hb2) (.cells #[.int .i64 x1, .int .i64 x2, .int .i64 x3] 28))
        have bc2 := Lib.hid (Box3.new w2 (.int .i64 x1) (.int .i64 x2) (.int .i64 x3) 28)
        clear hb2
        go_wp2_with fail
        refine (hpy.out _ Bl2.out).mono ?_
        rintro e w3 ⟨rfl, hb3⟩
        have Br3 := Lib.hid (Br2.out.keep hb3)
        have Bl3 := Lib.hid (bel_trans Bl2.out hb3)
        obtain ⟨k0, k1, k2, k3⟩ := bc2.out.keep hb3
        obtain ⟨⟨r0, r1, r2, r3, r4, r5, r6⟩, r7, r8, r9, r10, r11, r12⟩ := Br3.out
        clear hb3
        go_wp2_with fail
        have hset := Lib.hid ((Br3.out.set 0 0 0 0 0 0).keep (bel_alloc (Below.refl _ _) (.cells #[.int .i64 y1, .int .i64 y2, .int .i64 y3] 28)))
        obtain ⟨⟨n0, n1, n2, n3, n4, n5, n6⟩, _⟩ := hset.out
        refine bodyPost_ret (v := .tuple #[hdn 0 0 0 0 0 0, .bool false]) (by simp [results, Tryd.results14, go_sem, n0, n1, n2, n3, n4, n5]) rfl ⟨rfl, ?_⟩
        exact bel_alloc (bel_set6 Bl3.out (Nat.le_refl _) _ _ _ _ _ _) _
      · rw [show (if true && true then (.tuple #[hdn x1 x2 x3 y1 y2 y3, .bool true] : Value) else .tuple #[hdn 0 0 0 0 0 0, .bool false]) = .tuple #[hdn x1 x2 x3 y1 y2 y3, .bool true] from rfl]
        go_enter Tryd.func14, Tryd.ntmps14
        go_wp2_with fail
        refine (hct.out _).mono ?_
        rintro e w1 ⟨rfl, n1, rfl⟩
        go_wp2_with fail
        refine (hpx.out _ (bel_drewN bl0.out n1)).mono ?_
        rintro e w2 ⟨rfl, hb2⟩
        have Br2 := Lib.hid (((br0.out.keep (bel_drewN (Below.refl _ _) n1)).keep hb2).keep (bel_alloc (Below.refl _ _) (.cells #[.int .i64 x1, .int .i64 x2, .int .i64 x3] 28)))
        have Bl2 := Lib.hid (bel_alloc (bel_trans (bel_drewN bl0.out n1) hb2) (.cells #[.int .i64 x1, .int .i64 x2, .int .i64 x3] 28))
        have bc2 := Lib.hid (Box3.new w2 (.int .i64 x1) (.int .i64 x2) (.int .i64 x3) 28)
        clear hb2
        go_wp2_with fail
        refine (hpy.out _ Bl2.out).mono ?_
        rintro e w3 ⟨rfl, hb3⟩
        have Br3 := Lib.hid (Br2.out.keep hb3)
        have Bl3 := Lib.hid (bel_trans Bl2.out hb3)
        obtain ⟨k0, k1, k2, k3⟩ := bc2.out.keep hb3
        obtain ⟨⟨r0, r1, r2, r3, r4, r5, r6⟩, r7, r8, r9, r10, r11, r12⟩ := Br3.out
        clear hb3
        go_wp2_with fail
        refine (hiddenOf_any _ _ _ _ _ _ _).mono ?_
        rintro e w5 ⟨rfl, hb5⟩
        have hba := bel_alloc (Below.refl _ w3) (.cells #[.int .i64 y1, .int .i64 y2, .int .i64 y3] 28)
        have Br5 := Lib.hid ((Br3.out.keep hba).keep hb5)
        have Bl5 := Lib.hid (bel_trans (bel_trans Bl3.out hba) hb5)
        clear hb5 hba r0 r1 r2 r3 r4 r5 r6 r7 r8 r9 r10 r11 r12
        obtain ⟨⟨r0, r1, r2, r3, r4, r5, r6⟩, r7, r8, r9, r10, r11, r12⟩ := Br5.out
        go_wp2_with fail
        have hset := Lib.hid (Br5.out.set x1 x2 x3 y1 y2 y3)
        obtain ⟨⟨n0, n1, n2, n3, n4, n5, n6⟩, _⟩ := hset.out
        refine bodyPost_ret (v := .tuple #[hdn x1 x2 x3 y1 y2 y3, .bool true]) (by simp [results, Tryd.results14, go_sem, n0, n1, n2, n3, n4, n5]) rfl ⟨rfl, ?_⟩
        exact bel_set6 Bl5.out (Nat.le_refl _) _ _ _ _ _ _
  cases hx : readH x with
  | none =>
    obtain ⟨y1, y2, y3, o2, hy⟩ := ansPH_form y
    exact key 0 0 0 y1 y2 y3 false o2 (by unfold ansPH; rw [hx]) hy (by rw [hA, hx]; rfl)
  | some c =>
    cases hy : readH y with
    | none => exact key c.1 c.2.1 c.2.2 0 0 0 true false (by unfold ansPH; rw [hx]) (by unfold ansPH; rw [hy]) (by rw [hA, hx, hy]; rfl)
    | some d => exact key c.1 c.2.1 c.2.2 d.1 d.2.1 d.2.2 true true (by unfold ansPH; rw [hx]) (by unfold ansPH; rw [hy]) (by rw [hA, hx, hy]; rfl)

set_option maxRecDepth 100000 in
set_option maxHeartbeats 3200000 in
theorem walkExactParseHidden (s : ByteArray) (w : World) (hS : Sent w) (hs : s.size ≤ maxLen) :
    Calls Tryd.prog 5 #[.string s] w fun e w' => e = .returned (.bool true) ∧ Below w.heap.size w w' := by
  by_cases zz : s.size ≤ 1048576
  · obtain ⟨x, y, z, u, v, t, ok, hv⟩ := ansHd_form s.data.toList
    have Hv := Lib.hid hv
    clear hv
    go_enter Tryd.func5, Tryd.ntmps5
    go_wp2_with fail
    refine (specHd_any s _ zz).mono ?_
    rintro e w1 ⟨rfl, hb1⟩
    rw [Hv.out]
    have bx2 := Lib.hid (Box6.new w1 x y z u v t 30)
    have bl2 := bel_alloc hb1 (.cells #[.int .i64 x, .int .i64 y, .int .i64 z, .int .i64 u, .int .i64 v, .int .i64 t] 30)
    have s2 := Lib.hid (hS.keep bl2)
    go_wp2_with fail
    refine (implHd_any s _ s2.out zz).mono ?_
    rintro e w3 ⟨rfl, hb3⟩
    rw [Hv.out]
    have bl3 := bel_trans bl2 hb3
    have bx4 := Lib.hid ((bx2.out.keep hb3).keep (bel_alloc (Below.refl _ w3) (.cells #[.int .i64 x, .int .i64 y, .int .i64 z, .int .i64 u, .int .i64 v, .int .i64 t] 30)))
    have by4 := Lib.hid (Box6.new w3 x y z u v t 30)
    have bl4 := bel_alloc bl3 (.cells #[.int .i64 x, .int .i64 y, .int .i64 z, .int .i64 u, .int .i64 v, .int .i64 t] 30)
    obtain ⟨m0, m1, m2, m3, m4, m5, m6⟩ := bx4.out
    obtain ⟨k0, k1, k2, k3, k4, k5, k6⟩ := by4.out
    go_wp2_with fail
    refine (eqHidden_same x y z u v t _).mono ?_
    rintro e w5 ⟨rfl, hb5⟩
    go_wp2_with fail
    go_ret
    exact ⟨rfl, bel_trans bl4 hb5⟩
  · go_enter Tryd.func5, Tryd.ntmps5
    go_wp2
    go_ret
    exact ⟨rfl, Below.refl _ _⟩
end Go.Proofs.YtjfcpbedmdnjcabDoor
