/- Harder puzzles: the program's contract. -/
import Derived.Test.YtggflgmjncjmbaaPzJ
namespace Go.Proofs.Ytggflgmjncjmbaa
set_option linter.unusedSimpArgs false
open Go.ChangeShapes Go.WideShapes Go.ChangeAt Go.RowKit
set_option linter.unusedVariables false
theorem BoxW.set1 {w : World} {k : Nat} {x y : Value} (h : BoxW w k x y) (b : Value) : BoxW (w.setCell ⟨k, 1, none⟩ b) k x b := by
  obtain ⟨⟨h0, h1, h2⟩, h3, h4⟩ := h
  refine ⟨⟨?_, ?_, ?_⟩, ?_, ?_⟩
  all_goals simp [go_sem, h0, h1, h2, h3, h4]
theorem Box2.off {w : World} {k : Nat} {x y : Value} (h : Box2 w k x y) (n : Nat) (hne : k ≠ n) (o : Nat) (b : Value) : Box2 (w.setCell ⟨n, o, none⟩ b) k x y := by
  obtain ⟨h0, h1, h2⟩ := h
  refine ⟨?_, ?_, ?_⟩
  all_goals simp [go_sem, h0, h1, h2, hne]
theorem h22_mk {W0 V : World} {P G : Nat} {x y p q : Value} (hp : Box2 W0 P x y) (hg : Box2 W0 G p q) (hb : Below W0.heap.size W0 V) :
    V.cell? ⟨P, 0, none⟩ = some x ∧ V.cell? ⟨P, 1, none⟩ = some y ∧ P < V.heap.size ∧ V.cell? ⟨G, 0, none⟩ = some p ∧ V.cell? ⟨G, 1, none⟩ = some q ∧ G < V.heap.size ∧ Below W0.heap.size W0 V :=
  ⟨(hp.keep hb).1, (hp.keep hb).2.1, (hp.keep hb).2.2, (hg.keep hb).1, (hg.keep hb).2.1, (hg.keep hb).2.2, hb⟩
theorem h22_below {W0 V : World} {P G : Nat} {x y p q : Value} (h : V.cell? ⟨P, 0, none⟩ = some x ∧ V.cell? ⟨P, 1, none⟩ = some y ∧ P < V.heap.size ∧ V.cell? ⟨G, 0, none⟩ = some p ∧ V.cell? ⟨G, 1, none⟩ = some q ∧ G < V.heap.size ∧ Below W0.heap.size W0 V) : Below W0.heap.size W0 V := h.2.2.2.2.2.2
theorem h22_res {W0 V : World} {P G : Nat} {x y p q : Value} (hp : Box2 W0 P x y) (hg : Box2 W0 G p q) (hb : Below W0.heap.size W0 V) (n : Nat) (hn : W0.heap.size ≤ n) (a b : Value) :
    let U := (V.setCell ⟨n, 0, none⟩ a).setCell ⟨n, 1, none⟩ b
    U.cell? ⟨P, 0, none⟩ = some x ∧ U.cell? ⟨P, 1, none⟩ = some y ∧ P < U.heap.size ∧ U.cell? ⟨G, 0, none⟩ = some p ∧ U.cell? ⟨G, 1, none⟩ = some q ∧ G < U.heap.size ∧ Below W0.heap.size W0 U :=
  h22_mk hp hg ((hb.setCell (p := ⟨n, 0, none⟩) hn a).setCell (p := ⟨n, 1, none⟩) hn b)
set_option maxRecDepth 100000 in
set_option maxHeartbeats 6400000 in
theorem implHard_any (o : Int) (ts : List Tri) (v : Value) (B : Nat) (w : World) (h : RdT w B v ts) (hB : B ≤ w.heap.size) :
    Calls Try.prog 56 #[pz o v] w (PzAns (hrO o ts) (hrL o ts) (hrG o ts) w) := by
  have bl := Lib.hid (bel_alloc (bel_alloc (Below.refl _ w) (.cells #[.int .i64 o, v] 29)) (.cells #[.int .i64 0, .slice none 0 0] 29))
  have bx := Lib.hid ((Box2.new w (.int .i64 o) v 29).keep (bel_alloc (Below.refl _ _) (.cells #[.int .i64 0, .slice none 0 0] 29)))
  have hbw0 := Lib.hid (show BoxW ((w.alloc (.cells #[.int .i64 o, v] 29)).alloc (.cells #[.int .i64 0, .slice none 0 0] 29)) (w.heap.size + 1) (.int .i64 0) (.slice none 0 0) from by simpa using BoxW.new (w.alloc (.cells #[.int .i64 o, v] 29)) (.int .i64 0) (.slice none 0 0) 29)
  have H0 := Lib.hid h
  obtain ⟨A, cap, rfl, hl, hm⟩ := h.form
  clear h
  have hI := fun W (hR : RdT W B (.slice A ts.length cap) ts) (hz : B ≤ W.heap.size) => implSlv_any o ts _ B W hR hz
  unfold ansSlv at hI
  cases hq : decide (((solA o ts).length : Int) = 1)
  · have hd : hrG o ts = false := by unfold hrG; rw [hq, Bool.and_false]
    obtain ⟨e1, e2⟩ := hrL_no hd
    rw [e1, e2, hd]
    rw [hq] at hI
    generalize pzG o ts = G at *
    go_enter Try.func56, Try.ntmps56
    go_wp2_with fail
    refine (hI _ (H0.out.below bl.out hB) (by simp; omega)).mono ?_
    rintro e w2 ⟨rfl, b2⟩
    obtain ⟨⟨d0, d1, d2⟩, d3, d4⟩ := hbw0.out.keep b2
    have hb2 := bel_trans bl.out b2
    go_wp2
    refine bodyPost_ret (v := .tuple #[pz 0 (.slice none 0 0), .bool false]) (by simp [results, Try.results56, go_sem, d0, d1, d2]) rfl ⟨_, rfl, TRow.nil _ _ _, ?_⟩
    repeat (first | exact hb2 | refine Below.setCell ?_ (by first | (dsimp only; omega) | simp) _)
  · have hg : pzG o ts = true := by
      cases hg : pzG o ts
      · rw [solA_no hg] at hq; simp at hq
      · rfl
    have hd : hrG o ts = true := by unfold hrG; rw [hg, hq]; rfl
    obtain ⟨e1, e2⟩ := hrL_yes hd
    rw [e1, e2, hd]
    rw [hq, hg] at hI
    obtain ⟨o1, o8, h6, hcl⟩ := pzG_in hg
    have hS2 := fun (k : Nat) (hk : k < ts.length) (v : Value) W (hR : RdT W W.heap.size v (hdP o ts k ++ ts.drop (k + 1))) => isSolvedP_any o (hdP o ts k ++ ts.drop (k + 1)) v _ W hR (Nat.le_refl _) (pzG_hd hg (by omega) (by omega))
    clear hd e1 e2
    go_enter Try.func56, Try.ntmps56
    go_wp2_with fail
    refine (hI _ (H0.out.below bl.out hB) (by simp; omega)).mono ?_
    rintro e w2 ⟨rfl, b2⟩
    have hb2 := bel_trans bl.out b2
    have bw2 := Lib.hid (hbw0.out.keep b2)
    have bx2 := Lib.hid (bx.out.keep b2)
    obtain ⟨c0, c1, ck⟩ := bx2.out
    have k1 := bw2.out.1.2.2
    clear hI b2
    go_wp2_with fail
    have bh3 := Lib.hid (BoxW.new w2 (.int .i64 o) (.slice none 0 0) 29)
    have bx3 := Lib.hid (bx2.out.keep (bel_alloc (Below.refl _ w2) (.cells #[.int .i64 o, .slice none 0 0] 29)))
    have bw3 := Lib.hid (bw2.out.keep (bel_alloc (Below.refl _ w2) (.cells #[.int .i64 o, .slice none 0 0] 29)))
    have hb3 := bel_alloc hb2 (.cells #[.int .i64 o, .slice none 0 0] 29)
    have hI3 : Hid (TRow 39 (w2.alloc (.cells #[.int .i64 o, .slice none 0 0] 29)) (w2.heap.size + 1) (.slice none 0 0) []) := Lib.hid (TRow.nil _ _ _)
    generalize w2.alloc (.cells #[.int .i64 o, .slice none 0 0] 29) = w3 at *
    generalize hG : w2.heap.size = G at *
    clear c0 c1 ck bx2 bw2 hb2 hG bl bx hbw0
    go_loopw [24] (fun i wr => ∃ (k : Nat) (x : Value), k ≤ ts.length ∧ i = .int .i64 k ∧ Hid (TRow 39 wr (G + 1) x (hdP o ts k)) ∧ Hid (BoxW wr G (.int .i64 o) x) ∧ Hid (Box2 wr w.heap.size (.int .i64 o) (.slice A ts.length cap)) ∧ Hid (BoxW wr (w.heap.size + 1) (.int .i64 0) (.slice none 0 0)) ∧ Below w.heap.size w wr) (fun i _ => ts.length - (intOf i).toNat)
    case atStart => exact ⟨0, _, by omega, rfl, hI3, bh3, bx3, bw3, hb3⟩
    case round =>
      obtain ⟨k, x, hk, rfl, hI, hbh, hbx, hbw, hbl⟩ := hrel
      obtain ⟨AH, capH, rfl, hcH⟩ := hI.out.formS
      have hjk := hdP_len o ts k
      by_cases hlt : k < ts.length
      · have hSk := hS2 k hlt
        obtain ⟨ad, y0, y1, y2, rfl, hab, hxyz, c0, c1, c2⟩ := (H0.out.below hbl hB).at3 hlt
        obtain ⟨AT, nT, cT, hs2, hR1⟩ := cut_read H0.out hlt
        have hk4 : IntKind.i64.wrap ((k : Int) + 1) = (k : Int) + 1 := IntWalk.i64_in _ (by omega)
        have hki : (k : Int) < (ts.length : Int) := by omega
        go_wp2_with fail
        have bc7 := Box3.new wr (.int .i64 y0) (.int .i64 y1) (.int .i64 y2) 39
        have hbk := bel_alloc (Below.refl wr.heap.size wr) (.cells #[.int .i64 y0, .int .i64 y1, .int .i64 y2] 39)
        have hP7 := Lib.hid (hbx.out.keep hbk)
        have hH7 := Lib.hid (hbh.out.keep hbk)
        have bw7 := Lib.hid (hbw.out.keep hbk)
        have hI7 := Lib.hid (hI.out.below hbk)
        have hbl7 := bel_alloc hbl (.cells #[.int .i64 y0, .int .i64 y1, .int .i64 y2] 39)
        have hGC := Lib.hid hbh.out.1.2.2
        have hC7 : Hid (wr.heap.size < (wr.alloc (.cells #[.int .i64 y0, .int .i64 y1, .int .i64 y2] 39)).heap.size) := Lib.hid (by simp)
        generalize wr.alloc (.cells #[.int .i64 y0, .int .i64 y1, .int .i64 y2] 39) = W7 at *
        generalize wr.heap.size = C at *
        clear c0 c1 c2 hbk hbx hbh hbw hI hbl
        have hcall : ∀ (W : World) (g : Nat), Below W7.heap.size W7 W → W.cell? ⟨g, 0, none⟩ = some (.slice AH (hdP o ts k).length capH) → W.cell? ⟨g, 1, none⟩ = some (.slice AT nT cT) → g < W.heap.size →
            Calls Try.prog 81 #[.slice (some ⟨g, 0, none⟩) 2 2] W (TriOne 39 (hdP o ts k ++ ts.drop (k + 1)) W) := fun W g hb c0 c1 hg => by
          exact concat_any (hdP o ts k) (ts.drop (k + 1)) _ _ W7.heap.size g W (hI7.out.rd.below hb (Nat.le_refl _)) (((hR1.below hbl7 hB).more (by have := hbl7.size; omega)).below hb (Nat.le_refl _)) hb.size c0 c1 hg (by omega) (by rw [List.length_drop]; omega)
        generalize hX : hdP o ts k ++ ts.drop (k + 1) = X at *
        generalize hj : (hdP o ts k).length = j at *
        go_region_held3 (fun w' => w'.cell? ⟨w.heap.size, 0, none⟩ = some (.int .i64 o) ∧ w'.cell? ⟨w.heap.size, 1, none⟩ = some (.slice (some ad) ts.length cap) ∧ w.heap.size < w'.heap.size ∧ w'.cell? ⟨G, 0, none⟩ = some (.int .i64 o) ∧ w'.cell? ⟨G, 1, none⟩ = some (.slice AH j capH) ∧ G < w'.heap.size ∧ Below W7.heap.size W7 w')
          (first | exact h22_mk hP7.out hH7.out.1 ((Below.refl _ W7).drew) | exact h22_mk hP7.out hH7.out.1 (bel_trans (h22_below (by assumption)) hb5) | exact h22_mk hP7.out hH7.out.1 (bel_alloc (h22_below (by assumption)) _) | exact h22_mk hP7.out hH7.out.1 (bel_alloc h5b.out _) | exact h22_res hP7.out hH7.out.1 (h22_below (by assumption)) _ (by first | (have := hb5.size; simp at this ⊢; omega) | (simp; omega) | simp) _ _ | assumption | go_keep)
          (first | (go_at_call 81; refine (hcall _ _ (h22_below (by assumption)) (by simp [go_sem]) (by simp [go_sem]) (by first | (simp; done) | (simp; omega))).mono ?_; rintro e w5 ⟨v5, rfl, r5, hb5⟩; obtain ⟨A5, cap5, rfl, hc5⟩ := r5.formS; have h5b := Lib.hid (bel_trans (h22_below (by assumption)) hb5); (first | (have h9 := (BoxW.new _ (.int .i64 0) (.slice none 0 0) 29).keep (bel_undrew hb5); simp at h9; obtain ⟨⟨d0, d1, d2⟩, d3, d4⟩ := h9) | (have h9 := ((BoxW.new _ (.int .i64 0) (.slice none 0 0) 29).keep (bel_alloc (Below.refl _ _) _)).keep (bel_undrew hb5); obtain ⟨⟨d0, d1, d2⟩, d3, d4⟩ := h9) | skip)))
        · -- A
          have hx9 := Lib.hid (Box2.new w5 (.int .i64 o) (.slice A5 X.length cap5) 29)
          have hb9 := bel_alloc h5b.out (.cells #[.int .i64 o, .slice A5 X.length cap5] 29)
          have hr9 := Lib.hid (TRow.below r5 (bel_alloc (Below.refl _ w5) (.cells #[.int .i64 o, .slice A5 X.length cap5] 29))).rd
          generalize w5.alloc (.cells #[.int .i64 o, .slice A5 X.length cap5] 29) = W9 at *
          generalize w5.heap.size = n9 at *
          clear r5 hb5 h5b
          have hbl9 := bel_trans hbl7 hb9
          have hP9 := Lib.hid (hP7.out.keep hb9)
          have hH9 := Lib.hid (hH7.out.keep hb9)
          have bw9 := Lib.hid (bw7.out.keep hb9)
          have hI9 := Lib.hid (hI7.out.below hb9)
          have bc9 := Lib.hid (bc7.keep hb9)
          obtain ⟨d0, d1, d2⟩ := hx9.out
          cases hy : decide (((solA o X).length : Int) = 1)
          · have e0 := hdP_no (o := o) (ts := ts) (k := k) (by rw [hX]; simpa using hy)
            rw [hxyz] at e0
            have E0 := Lib.hid e0
            clear e0
            rw [hy] at hSk
            go_wp2_with fail
            refine (hSk _ _ hr9.out).mono ?_
            rintro e w6 ⟨rfl, b6⟩
            have hP6 := Lib.hid (hP9.out.keep b6)
            have hH6 := Lib.hid (hH9.out.keep b6)
            have bw6 := Lib.hid (bw9.out.keep b6)
            have hI6 := Lib.hid (hI9.out.below b6)
            obtain ⟨c0, c1, c2, cC⟩ := bc9.out.keep b6
            have hbl6 := bel_trans hbl9 b6
            clear d0 d1 d2 hx9 hP9 hH9 bw9 hI9 bc9 hbl9
            obtain ⟨⟨d0, d1, d2⟩, d3, d4⟩ := hH6.out
            go_wp2_with (at_builtin; refine wpList_pushT1 27 39 Try.underlying27 info_clue rfl (.tmp 45) (.tmp 47) rfl (G + 1) _ _ hI6.out y0 y1 y2 rfl (by omega) (by omega) rfl ?_)
            intro v8 w8 hI8 hb8
            obtain ⟨A8, cap8, rfl, hc8⟩ := hI8.formS
            generalize (hdP o ts k ++ [(y0, y1, y2)]).length = n8 at *
            have hP8 := Lib.hid (hP6.out.keepB hb8 (by omega))
            have hH8 := Lib.hid (hH6.out.keepB hb8 (by omega))
            have bw8 := Lib.hid (bw6.out.keepB hb8 (by omega))
            have hI8' := Lib.hid hI8
            have hbl8 := hbl6.trans (hb8.mono (by omega))
            clear d0 d1 d2 d3 d4 c0 c1 c2 cC hI8
            obtain ⟨⟨d0, d1, d2⟩, d3, d4⟩ := hH8.out
            go_wp2_with fail
            refine ⟨⟨k + 1, .slice A8 n8 cap8, by omega, by go_num, ?_, Lib.hid (hH8.out.set1 _), Lib.hid (hP8.out.off _ (by omega) _ _), Lib.hid (bw8.out.grown (grown_one _ _ _ _) (by omega)), hbl8.setCell (by dsimp only; omega) _⟩, by simp [intOf]; omega⟩
            rw [E0.out]
            exact Lib.hid (TRow.setOther hI8'.out (by dsimp only; omega) _)
          · have e0 := hdP_yes (o := o) (ts := ts) (k := k) (by rw [hX]; simpa using hy)
            have E0 := Lib.hid e0
            clear e0
            rw [hy] at hSk
            go_wp2_with fail
            refine (hSk _ _ hr9.out).mono ?_
            rintro e w6 ⟨rfl, b6⟩
            have hP6 := Lib.hid (hP9.out.keep b6)
            have hH6 := Lib.hid (hH9.out.keep b6)
            have bw6 := Lib.hid (bw9.out.keep b6)
            have hI6 := Lib.hid (hI9.out.below b6)
            have hbl6 := bel_trans hbl9 b6
            clear d0 d1 d2 hx9 hP9 hH9 bw9 hI9 bc9 hbl9
            go_wp2_with fail
            exact ⟨⟨k + 1, _, by omega, by go_num, by rw [E0.out]; exact hI6, hH6, hP6, bw6, hbl6⟩, by simp [intOf]; omega⟩
        · -- B
          have hx9 := Lib.hid (BoxW.set (show BoxW w5 (W7.heap.size + 1) (.int .i64 0) (.slice none 0 0) from ⟨⟨d0, d1, d2⟩, d3, d4⟩) (.int .i64 o) (.slice A5 X.length cap5)).1
          have hb9 := (h5b.out.setCell (p := ⟨W7.heap.size + 1, 0, none⟩) (by dsimp only; omega) (.int .i64 o)).setCell (p := ⟨W7.heap.size + 1, 1, none⟩) (by dsimp only; omega) (.slice A5 X.length cap5)
          have hr9 := Lib.hid (TRow.setOther (TRow.setOther (p := ⟨W7.heap.size + 1, 0, none⟩) r5 (by first | (simp; done) | (simp; omega)) (.int .i64 o)) (p := ⟨W7.heap.size + 1, 1, none⟩) (by first | (simp; done) | (simp; omega)) (.slice A5 X.length cap5)).rd
          clear d0 d1 d2 d3 d4
          generalize ((w5.setCell ⟨W7.heap.size + 1, 0, none⟩ (.int .i64 o)).setCell ⟨W7.heap.size + 1, 1, none⟩ (.slice A5 X.length cap5)) = W9 at *
          generalize hn9 : W7.heap.size + 1 = n9 at *
          clear r5 hb5 h5b
          have hbl9 := bel_trans hbl7 hb9
          have hP9 := Lib.hid (hP7.out.keep hb9)
          have hH9 := Lib.hid (hH7.out.keep hb9)
          have bw9 := Lib.hid (bw7.out.keep hb9)
          have hI9 := Lib.hid (hI7.out.below hb9)
          have bc9 := Lib.hid (bc7.keep hb9)
          obtain ⟨d0, d1, d2⟩ := hx9.out
          cases hy : decide (((solA o X).length : Int) = 1)
          · have e0 := hdP_no (o := o) (ts := ts) (k := k) (by rw [hX]; simpa using hy)
            rw [hxyz] at e0
            have E0 := Lib.hid e0
            clear e0
            rw [hy] at hSk
            go_wp2_with fail
            refine (hSk _ _ hr9.out).mono ?_
            rintro e w6 ⟨rfl, b6⟩
            have hP6 := Lib.hid (hP9.out.keep b6)
            have hH6 := Lib.hid (hH9.out.keep b6)
            have bw6 := Lib.hid (bw9.out.keep b6)
            have hI6 := Lib.hid (hI9.out.below b6)
            obtain ⟨c0, c1, c2, cC⟩ := bc9.out.keep b6
            have hbl6 := bel_trans hbl9 b6
            clear d0 d1 d2 hx9 hP9 hH9 bw9 hI9 bc9 hbl9
            obtain ⟨⟨d0, d1, d2⟩, d3, d4⟩ := hH6.out
            go_wp2_with (at_builtin; refine wpList_pushT1 27 39 Try.underlying27 info_clue rfl (.tmp 45) (.tmp 47) rfl (G + 1) _ _ hI6.out y0 y1 y2 rfl (by omega) (by omega) rfl ?_)
            intro v8 w8 hI8 hb8
            obtain ⟨A8, cap8, rfl, hc8⟩ := hI8.formS
            generalize (hdP o ts k ++ [(y0, y1, y2)]).length = n8 at *
            have hP8 := Lib.hid (hP6.out.keepB hb8 (by omega))
            have hH8 := Lib.hid (hH6.out.keepB hb8 (by omega))
            have bw8 := Lib.hid (bw6.out.keepB hb8 (by omega))
            have hI8' := Lib.hid hI8
            have hbl8 := hbl6.trans (hb8.mono (by omega))
            clear d0 d1 d2 d3 d4 c0 c1 c2 cC hI8
            obtain ⟨⟨d0, d1, d2⟩, d3, d4⟩ := hH8.out
            go_wp2_with fail
            refine ⟨⟨k + 1, .slice A8 n8 cap8, by omega, by go_num, ?_, Lib.hid (hH8.out.set1 _), Lib.hid (hP8.out.off _ (by omega) _ _), Lib.hid (bw8.out.grown (grown_one _ _ _ _) (by omega)), hbl8.setCell (by dsimp only; omega) _⟩, by simp [intOf]; omega⟩
            rw [E0.out]
            exact Lib.hid (TRow.setOther hI8'.out (by dsimp only; omega) _)
          · have e0 := hdP_yes (o := o) (ts := ts) (k := k) (by rw [hX]; simpa using hy)
            have E0 := Lib.hid e0
            clear e0
            rw [hy] at hSk
            go_wp2_with fail
            refine (hSk _ _ hr9.out).mono ?_
            rintro e w6 ⟨rfl, b6⟩
            have hP6 := Lib.hid (hP9.out.keep b6)
            have hH6 := Lib.hid (hH9.out.keep b6)
            have bw6 := Lib.hid (bw9.out.keep b6)
            have hI6 := Lib.hid (hI9.out.below b6)
            have hbl6 := bel_trans hbl9 b6
            clear d0 d1 d2 hx9 hP9 hH9 bw9 hI9 bc9 hbl9
            go_wp2_with fail
            exact ⟨⟨k + 1, _, by omega, by go_num, by rw [E0.out]; exact hI6, hH6, hP6, bw6, hbl6⟩, by simp [intOf]; omega⟩
        · -- C
          have hx9 := Lib.hid (BoxW.set (show BoxW w5 (W7.heap.size) (.int .i64 0) (.slice none 0 0) from ⟨⟨d0, d1, d2⟩, d3, d4⟩) (.int .i64 o) (.slice A5 X.length cap5)).1
          have hb9 := (h5b.out.setCell (p := ⟨W7.heap.size, 0, none⟩) (by dsimp only; omega) (.int .i64 o)).setCell (p := ⟨W7.heap.size, 1, none⟩) (by dsimp only; omega) (.slice A5 X.length cap5)
          have hr9 := Lib.hid (TRow.setOther (TRow.setOther (p := ⟨W7.heap.size, 0, none⟩) r5 (by first | (simp; done) | (simp; omega)) (.int .i64 o)) (p := ⟨W7.heap.size, 1, none⟩) (by first | (simp; done) | (simp; omega)) (.slice A5 X.length cap5)).rd
          clear d0 d1 d2 d3 d4
          generalize ((w5.setCell ⟨W7.heap.size, 0, none⟩ (.int .i64 o)).setCell ⟨W7.heap.size, 1, none⟩ (.slice A5 X.length cap5)) = W9 at *
          clear r5 hb5 h5b
          have hbl9 := bel_trans hbl7 hb9
          have hP9 := Lib.hid (hP7.out.keep hb9)
          have hH9 := Lib.hid (hH7.out.keep hb9)
          have bw9 := Lib.hid (bw7.out.keep hb9)
          have hI9 := Lib.hid (hI7.out.below hb9)
          have bc9 := Lib.hid (bc7.keep hb9)
          obtain ⟨d0, d1, d2⟩ := hx9.out
          cases hy : decide (((solA o X).length : Int) = 1)
          · have e0 := hdP_no (o := o) (ts := ts) (k := k) (by rw [hX]; simpa using hy)
            rw [hxyz] at e0
            have E0 := Lib.hid e0
            clear e0
            rw [hy] at hSk
            go_wp2_with fail
            refine (hSk _ _ hr9.out).mono ?_
            rintro e w6 ⟨rfl, b6⟩
            have hP6 := Lib.hid (hP9.out.keep b6)
            have hH6 := Lib.hid (hH9.out.keep b6)
            have bw6 := Lib.hid (bw9.out.keep b6)
            have hI6 := Lib.hid (hI9.out.below b6)
            obtain ⟨c0, c1, c2, cC⟩ := bc9.out.keep b6
            have hbl6 := bel_trans hbl9 b6
            clear d0 d1 d2 hx9 hP9 hH9 bw9 hI9 bc9 hbl9
            obtain ⟨⟨d0, d1, d2⟩, d3, d4⟩ := hH6.out
            go_wp2_with (at_builtin; refine wpList_pushT1 27 39 Try.underlying27 info_clue rfl (.tmp 45) (.tmp 47) rfl (G + 1) _ _ hI6.out y0 y1 y2 rfl (by omega) (by omega) rfl ?_)
            intro v8 w8 hI8 hb8
            obtain ⟨A8, cap8, rfl, hc8⟩ := hI8.formS
            generalize (hdP o ts k ++ [(y0, y1, y2)]).length = n8 at *
            have hP8 := Lib.hid (hP6.out.keepB hb8 (by omega))
            have hH8 := Lib.hid (hH6.out.keepB hb8 (by omega))
            have bw8 := Lib.hid (bw6.out.keepB hb8 (by omega))
            have hI8' := Lib.hid hI8
            have hbl8 := hbl6.trans (hb8.mono (by omega))
            clear d0 d1 d2 d3 d4 c0 c1 c2 cC hI8
            obtain ⟨⟨d0, d1, d2⟩, d3, d4⟩ := hH8.out
            go_wp2_with fail
            refine ⟨⟨k + 1, .slice A8 n8 cap8, by omega, by go_num, ?_, Lib.hid (hH8.out.set1 _), Lib.hid (hP8.out.off _ (by omega) _ _), Lib.hid (bw8.out.grown (grown_one _ _ _ _) (by omega)), hbl8.setCell (by dsimp only; omega) _⟩, by simp [intOf]; omega⟩
            rw [E0.out]
            exact Lib.hid (TRow.setOther hI8'.out (by dsimp only; omega) _)
          · have e0 := hdP_yes (o := o) (ts := ts) (k := k) (by rw [hX]; simpa using hy)
            have E0 := Lib.hid e0
            clear e0
            rw [hy] at hSk
            go_wp2_with fail
            refine (hSk _ _ hr9.out).mono ?_
            rintro e w6 ⟨rfl, b6⟩
            have hP6 := Lib.hid (hP9.out.keep b6)
            have hH6 := Lib.hid (hH9.out.keep b6)
            have bw6 := Lib.hid (bw9.out.keep b6)
            have hI6 := Lib.hid (hI9.out.below b6)
            have hbl6 := bel_trans hbl9 b6
            clear d0 d1 d2 hx9 hP9 hH9 bw9 hI9 bc9 hbl9
            go_wp2_with fail
            exact ⟨⟨k + 1, _, by omega, by go_num, by rw [E0.out]; exact hI6, hH6, hP6, bw6, hbl6⟩, by simp [intOf]; omega⟩
      · -- END
        obtain rfl : k = ts.length := by omega
        obtain ⟨⟨b0, b1, b2⟩, b3, b4⟩ := hbw.out
        obtain ⟨⟨d0, d1, d2⟩, d3, d4⟩ := hbh.out
        have hI0 := Lib.hid hI.out
        generalize hdP o ts ts.length = L at *
        generalize hn : L.length = n at *
        clear hn hI
        go_wp2
        refine bodyPost_ret (v := .tuple #[pz o (.slice AH n capH), .bool true]) (by simp [results, Try.results56, go_sem, b0, b1, b2]) rfl ⟨_, rfl, ?_, (hbl.setCell (by dsimp only; omega) _).setCell (by dsimp only; omega) _⟩
        refine (TRow.setOther ?_ (by dsimp only; omega) _).mono (b := G + 1) (by omega)
        refine TRow.setOther ?_ (by dsimp only; omega) _
        exact hI0.out
end Go.Proofs.Ytggflgmjncjmbaa
