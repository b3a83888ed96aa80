/- AnswersFrom: contracts of the program and of its model. -/
import Derived.Test.YthaoelenleedmaaDoorAnM
namespace Go.Proofs.YthaoelenleedmaaDoor
set_option linter.unusedSimpArgs false
open Go.ChangeShapes Go.WideShapes Go.ChangeAt Go.RowKit Go.Maps Go.Sort
set_option linter.unusedVariables false

def RowSA (xs : List ByteArray) (ok : Bool) (w : World) (e : Ending) (w' : World) : Prop := ∃ v, e = .returned (.tuple #[v, .bool ok]) ∧ SRow w' w.heap.size v xs ∧ Below w.heap.size w w'
theorem best_call (h o : Int) (a : ByteArray) (i : Nat) (g : rcG h o = true) (ha : racG a = true) (w : World) :
    Calls Tryd.prog 17 #[cn h o, .string (chn_ h o a i)] w fun e w' => e = .returned (.tuple #[.string (chn_ h o a (i + 1)), odV (bst h o (chn_ h o a i)).2.1 (bst h o (chn_ h o a i)).2.2]) ∧ Below w.heap.size w w' :=
  bestAnswer_any h o _ w g (chn_in g ha i).1
theorem raBest_call (h o : Int) (a : ByteArray) (i : Nat) (g : rcG h o = true) (ha : racG a = true) (w : World) :
    Calls Tryd.prog 14 #[cn h o, .string (chn_ h o a i)] w fun e w' => ∃ x y : Int, e = .returned (.tuple #[.string (chn_ h o a (i + 1)), .int .i64 x, .int .i64 y]) ∧ Below w.heap.size w w' :=
  (raBest_any h o _ w g (chn_in g ha i).1).mono fun e w' q => ⟨_, _, q.1, q.2⟩
theorem ansA_no {h o : Int} {a : ByteArray} (g : oneG h o a = false) : ansA h o a = [] := by unfold ansA; rw [g]; rfl
theorem ansA_yes {h o : Int} {a : ByteArray} (g : oneG h o a = true) : ansA h o a = ansL h o a (stN h o a) := by unfold ansA; rw [g]; rfl

set_option maxRecDepth 100000 in
set_option maxHeartbeats 3200000 in
theorem implAnswers_any (h o : Int) (a : ByteArray) (w : World) (ha : a.size ≤ maxLen) : Calls Tryd.prog 7 #[cn h o, .string a] w (RowSA (ansA h o a) (oneG h o a) w) := by
  have bx0 := Lib.hid (Box2.new w (.int .i64 h) (.int .i64 o) 27)
  have bl0 : Below w.heap.size w (w.alloc (.cells #[.int .i64 h, .int .i64 o] 27)) := bel_alloc (Below.refl _ _) _
  cases h1 : oneG h o a
  · rw [ansA_no h1]
    go_enter Tryd.func7, Tryd.ntmps7
    go_wp2_with fail
    refine (isAnswered_any h o a _ ha).mono ?_
    rintro e w1 ⟨rfl, hb1⟩
    rw [h1]
    go_wp2_with fail
    go_ret2
    exact ⟨_, rfl, SRow.nil _ _, bel_trans bl0 hb1⟩
  · rw [ansA_yes h1]
    obtain ⟨g, hr, _⟩ := one_in h1
    obtain ⟨s1, s2, s3, s4⟩ := st_all g hr
    have HC := Lib.hid (fun i W => best_call h o a i g hr W)
    have HS := Lib.hid (fun i => ansL_succ h o a i)
    have HL := Lib.hid (fun i => ansL_len h o a i)
    have HP := Lib.hid (fun (D : MDS) (i : Nat) (m : MB D h o a i) => m.put)
    have HZ := Lib.hid (fun i => (show (chn_ h o a i).size ≤ maxLen from by rw [(chn_in g hr i).2]; exact ha))
    have HF := Lib.hid s4
    have HE := Lib.hid s3
    have h00 : chn_ h o a 0 = a := rfl
    have Hne := Lib.hid (fun j (q : stopB h o a j = false) => (show seenB h o a j (chn_ h o a j) = false from q))
    have Hye := Lib.hid (fun j (q : stopB h o a j = true) => (show seenB h o a j (chn_ h o a j) = true from q))
    have H00 := Lib.hid h00
    clear s3 s4 h00
    generalize hn : stN h o a = n at *
    clear hn
    go_enter Tryd.func7, Tryd.ntmps7
    go_wp2_with fail
    refine (isAnswered_any h o a _ ha).mono ?_
    rintro e w1 ⟨rfl, hb1⟩
    rw [h1]
    have bx1 := Lib.hid (bx0.out.keep hb1)
    have bl1 := bel_trans bl0 hb1
    clear hb1
    have hmk : ∀ W : World, (Instr.makeMap 38 none).run Tryd.prog W = .ok (.map (some W.heap.size)) (W.alloc (.map #[] 0)) := fun W => run_makeMap _ W
    go_wp2_with fail
    go_loopw [1, 6] (fun b u wr => ∃ (i : Nat) (D : MDS), i ≤ n ∧ b = .string (chn_ h o a i) ∧ Hid (SRow wr (w1.heap.size + 1) u (ansL h o a i)) ∧ Hid (MB D h o a i) ∧ Hid (World.ownsMap (H := Unit) wr Tryd.prog 9 (plainElem Tryd.prog 4) w1.heap.size i D) ∧ w1.heap.size + 1 ≤ wr.heap.size ∧ Below w1.heap.size w1 wr) (fun _ u _ => n - lenV u)
    case atStart =>
      exact ⟨0, .map [], Nat.zero_le _, by rw [H00.out], Lib.hid (SRow.nil _ _), Lib.hid (MB.nil h o a), Lib.hid (World.ownsMap_made (H := Unit) w1 Tryd.prog 9 (plainElem Tryd.prog 4)), by simp, bel_alloc (Below.refl _ _) _⟩
    case round =>
      obtain ⟨i, D, hi, rfl, hU, hM, hm, hsz, hb⟩ := hrel
      have hkey : keyOf Tryd.prog 9 (.string (chn_ h o a i)) = some (kS (chn_ h o a i)) := Go.WideMaps.keyOf_string_mk Tryd.underlying9 (HZ.out i)
      have Hkey := Lib.hid hkey
      have hat := hM.out.at_ (chn_ h o a i)
      obtain ⟨d0, d1, d2⟩ := bx1.out.keep hb
      clear hkey
      by_cases hlt : i < n
      · rw [Hne.out i (HF.out i hlt)] at hat
        have Hat := Lib.hid hat
        have HC1 := Lib.hid (HC.out i)
        have HMp := Lib.hid (HP.out D i hM.out)
        have HU1 := Lib.hid (HS.out i)
        have hlen := HL.out i
        have HLn := Lib.hid hlen
        have HL1 := Lib.hid (HL.out (i + 1))
        clear hat hlen
        generalize hpp : chn_ h o a (i + 1) = q at *
        have HPP := Lib.hid hpp
        clear hpp
        generalize bst h o (chn_ h o a i) = bb at *
        generalize chn_ h o a i = p at *
        go_wp2_with (first
          | (at_lookup; refine lookup_own_bool _ rfl _ _ 38 rfl 9 4 lawS Tryd.underlying38 Tryd.underlying4 (Tryd.zeroValue4 _) w1.heap.size i D rfl hm.out _ (kS p) rfl Hkey.out false Hat.out ?_)
          | (at_mapUpdate; refine wpList_mapUpdate_own _ rfl _ _ _ 38 rfl 9 4 lawS Tryd.underlying38 _ w1.heap.size i D rfl hm.out (by unfold maxLen; omega) _ _ (kS p) rfl rfl Hkey.out _ _ (plainElem_bool Tryd.underlying4 true) ?_; intro w4 hm4 hg4; have hU4 := Lib.hid (hU.out.turned hg4 (Nat.lt_succ_self _)); have hb4 := Below.grown hb hg4 (by have := hb.size; omega) (fun k e => by cases e; exact Nat.le_refl _); have hs4 : w1.heap.size + 1 ≤ w4.heap.size := Nat.le_trans hsz hg4.size; have hm4' := Lib.hid hm4; clear hm4 hg4; obtain ⟨d0, d1, d2⟩ := bx1.out.keep hb4))
        refine (HC1.out _).mono ?_
        rintro e w5 ⟨rfl, hb5⟩
        have hU5 := Lib.hid (hU4.out.below hb5)
        have hm5 := Lib.hid (own_bel hm4'.out hb5 (by omega))
        have hb45 := bel_trans hb4 hb5
        have hs5 : w1.heap.size + 1 ≤ w5.heap.size := Nat.le_trans hs4 hb5.size
        clear hb5 hU4 hm4'
        go_wp2_with (at_builtin; refine wpList_pushS1 _ rfl (.tmp 25) (.tmp 27) rfl _ _ _ hU5.out (by have := HLn.out; omega) hs5 rfl rfl ?_)
        intro v' w6 hI6 hb6
        have hI7 : SRow w6 (w1.heap.size + 1) v' (ansL h o a (i + 1)) := by rw [HU1.out]; exact hI6
        have hv := hI7.lenV
        have hu := hU.out.lenV
        have HI7 := Lib.hid hI7
        clear hI6 hI7
        go_wp2_with fail
        exact ⟨⟨i + 1, _, by omega, by rw [HPP.out], HI7, HMp, Lib.hid (own_bel hm5.out hb6 (Nat.lt_succ_self _)), Nat.le_trans hs5 hb6.size, hb45.trans (hb6.mono (Nat.le_succ _))⟩, by rw [hv, hu, HL1.out, HLn.out]; omega⟩
      · obtain rfl : i = n := by omega
        rw [Hye.out i HE.out] at hat
        have Hat := Lib.hid hat
        clear hat
        have Hf := Lib.hid (hU.out.mono (show w.heap.size ≤ w1.heap.size + 1 from by have := bl1.size; omega))
        have hbf := bel_trans bl1 hb
        generalize chn_ h o a i = p at *
        go_wp2_with (at_lookup; refine lookup_own_bool _ rfl _ _ 38 rfl 9 4 lawS Tryd.underlying38 Tryd.underlying4 (Tryd.zeroValue4 _) w1.heap.size i D rfl hm.out _ (kS p) rfl Hkey.out true Hat.out ?_)
        go_ret2
        exact ⟨_, rfl, Hf.out, hbf⟩

set_option maxRecDepth 100000 in
set_option maxHeartbeats 3200000 in
theorem specAnswers_any (h o : Int) (a : ByteArray) (w : World) (ha : a.size ≤ maxLen) : Calls Tryd.prog 5 #[cn h o, .string a] w (RowSA (ansA h o a) (oneG h o a) w) := by
  have bx0 := Lib.hid (Box2.new w (.int .i64 h) (.int .i64 o) 27)
  have bl0 : Below w.heap.size w (w.alloc (.cells #[.int .i64 h, .int .i64 o] 27)) := bel_alloc (Below.refl _ _) _
  cases h1 : oneG h o a
  · rw [ansA_no h1]
    go_enter Tryd.func5, Tryd.ntmps5
    go_wp2_with fail
    refine (raOne_any h o a _ ha).mono ?_
    rintro e w1 ⟨rfl, hb1⟩
    rw [h1]
    go_wp2_with fail
    go_ret2
    exact ⟨_, rfl, SRow.nil _ _, bel_trans bl0 hb1⟩
  · rw [ansA_yes h1]
    obtain ⟨g, hr, _⟩ := one_in h1
    obtain ⟨s1, s2, s3, s4⟩ := st_all g hr
    have HC := Lib.hid (fun i W => raBest_call h o a i g hr W)
    have HS := Lib.hid (fun i => ansL_succ h o a i)
    have HL := Lib.hid (fun i => ansL_len h o a i)
    have HT := Lib.hid (fun (i : Nat) (hi : i < stN h o a) => st_step g hr hi)
    have HQ := Lib.hid (fun i => (show stopB h o a (i + 1) = (decide (chn_ h o a (i + 1) = a) || (ansL h o a i).any fun x => decide (x = chn_ h o a (i + 1))) from seen_ans h o a _ i))
    have h00 : chn_ h o a 0 = a := rfl
    have H00 := Lib.hid h00
    clear s3 s4 h00
    generalize hn : stN h o a = n at *
    clear hn
    go_enter Tryd.func5, Tryd.ntmps5
    go_wp2_with fail
    refine (raOne_any h o a _ ha).mono ?_
    rintro e w1 ⟨rfl, hb1⟩
    rw [h1]
    have bx1 := Lib.hid (bx0.out.keep hb1)
    have bl1 := bel_trans bl0 hb1
    clear hb1
    go_wp2_with fail
    go_loopw [6, 7] (fun u b wr => ∃ i : Nat, i < n ∧ b = .string (chn_ h o a i) ∧ Hid (SRow wr w1.heap.size u (ansL h o a i)) ∧ Below w1.heap.size w1 wr) (fun u _ _ => n - lenV u)
    case atStart =>
      exact ⟨0, by omega, by rw [H00.out], Lib.hid (SRow.nil _ _), Below.refl _ _⟩
    case round =>
      obtain ⟨i, hi, rfl, hU, hb⟩ := hrel
      obtain ⟨d0, d1, d2⟩ := bx1.out.keep hb
      have hst := HT.out i hi
      have hq := HQ.out i
      have HC1 := Lib.hid (HC.out i)
      have HU1 := Lib.hid (HS.out i)
      have HLn := Lib.hid (HL.out i)
      have HL1 := Lib.hid (HL.out (i + 1))
      have HH := Lib.hid (fun (t : ByteArray) (v : Value) (W : World) (q : SRow W w1.heap.size v (ansL h o a i)) => l1HasS_any (ansL h o a i) v w1.heap.size t W q)
      generalize stopB h o a (i + 1) = z at *
      have Hch : Hid (chn_ h o a (i + 1) = chn_ h o a (i + 1)) := Lib.hid rfl
      generalize hpp : chn_ h o a (i + 1) = q at HC1 HU1 hq Hch
      generalize chn_ h o a i = p at *
      have HPP := Lib.hid hpp
      clear hpp
      have hqe := ba_beq q a
      have HUo := hU
      by_cases hqa : q = a
      · have hz : z = true := by rw [hq, decide_eq_true hqa]; rfl
        have hin : i + 1 = n := hst.1 hz
        rw [decide_eq_true hqa] at hqe
        have HQA := Lib.hid hqa
        clear hqa hq hst hz
        go_wp2_with fail
        refine (HC1.out _).mono ?_
        rintro e w4 ⟨x, y, rfl, hb4⟩
        have hU5 := Lib.hid (hU.out.below hb4)
        have hs5 := (bel_trans hb hb4).size
        have hb45 := bel_trans hb hb4
        go_wp2_with (at_builtin; refine wpList_pushS1 _ rfl (.tmp 29) (.tmp 31) rfl _ _ _ hU5.out (by have := HLn.out; omega) hs5 rfl rfl ?_)
        intro v' w6 hI6 hb6
        have hI7 : SRow w6 w1.heap.size v' (ansL h o a n) := by rw [← hin, HU1.out]; exact hI6
        have Hf := Lib.hid (hI7.mono bl1.size)
        have hbf := bel_trans bl1 (hb45.trans hb6)
        clear hI6 hI7
        go_wp2_with fail
        go_ret2
        exact ⟨_, rfl, Hf.out, hbf⟩
      · rw [decide_eq_false hqa] at hqe
        have hz : z = (ansL h o a i).any fun x => decide (x = q) := by rw [hq, decide_eq_false hqa]; rfl
        have HZ := Lib.hid hz
        have HST := Lib.hid hst
        clear hqa hq hz hst
        cases z
        · have HH1 := Lib.hid (fun v W qq => (HZ.out ▸ HH.out q v W qq : Calls Tryd.prog 15 #[v, .string q] W fun e w' => e = .returned (.bool false) ∧ ∃ n, w' = W.drewN n))
          have hin : i + 1 ≠ n := fun e => by have := HST.out.2 e; cases this
          go_wp2_with fail
          refine (HC1.out _).mono ?_
          rintro e w4 ⟨x, y, rfl, hb4⟩
          have hU5 := Lib.hid (hU.out.below hb4)
          have hs5 := (bel_trans hb hb4).size
          have hb45 := bel_trans hb hb4
          go_wp2_with fail
          repeat (go_quiet (fail); go_wp2_with fail)
          refine (HH1.out _ _ hU5.out).mono ?_
          rintro e w5 ⟨rfl, n5, rfl⟩
          have hU6 := Lib.hid (hU5.out.drewN n5)
          have hb46 := bel_drewN hb45 n5
          have hs6 := hb46.size
          go_wp2_with (at_builtin; refine wpList_pushS1 _ rfl (.tmp 29) (.tmp 31) rfl _ _ _ hU6.out (by have := HLn.out; omega) hs6 rfl rfl ?_)
          intro v' w6 hI6 hb6
          have hI7 : SRow w6 w1.heap.size v' (ansL h o a (i + 1)) := by rw [HU1.out]; exact hI6
          have hv := hI7.lenV
          have hu := hU.out.lenV
          have HI7 := Lib.hid hI7
          clear hI6 hI7
          go_wp2_with fail
          exact ⟨⟨i + 1, by omega, by rw [HPP.out], HI7, hb46.trans hb6⟩, by rw [hv, hu, HL1.out, HLn.out]; omega⟩
        · have HH1 := Lib.hid (fun v W qq => (HZ.out ▸ HH.out q v W qq : Calls Tryd.prog 15 #[v, .string q] W fun e w' => e = .returned (.bool true) ∧ ∃ n, w' = W.drewN n))
          have hin : i + 1 = n := HST.out.1 rfl
          go_wp2_with fail
          refine (HC1.out _).mono ?_
          rintro e w4 ⟨x, y, rfl, hb4⟩
          have hU5 := Lib.hid (hU.out.below hb4)
          have hs5 := (bel_trans hb hb4).size
          have hb45 := bel_trans hb hb4
          go_wp2_with fail
          repeat (go_quiet (fail); go_wp2_with fail)
          refine (HH1.out _ _ hU5.out).mono ?_
          rintro e w5 ⟨rfl, n5, rfl⟩
          have hU6 := Lib.hid (hU5.out.drewN n5)
          have hb46 := bel_drewN hb45 n5
          have hs6 := hb46.size
          go_wp2_with (at_builtin; refine wpList_pushS1 _ rfl (.tmp 29) (.tmp 31) rfl _ _ _ hU6.out (by have := HLn.out; omega) hs6 rfl rfl ?_)
          intro v' w6 hI6 hb6
          have hI7 : SRow w6 w1.heap.size v' (ansL h o a n) := by rw [← hin, HU1.out]; exact hI6
          have Hf := Lib.hid (hI7.mono bl1.size)
          have hbf := bel_trans bl1 (hb46.trans hb6)
          clear hI6 hI7
          go_wp2_with fail
          go_ret2
          exact ⟨_, rfl, Hf.out, hbf⟩
end Go.Proofs.YthaoelenleedmaaDoor
