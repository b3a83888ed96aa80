/- Harder puzzles: contracts of the program and of its model. -/
import Derived.Test.YtggflgmjncjmbaaPzY
namespace Go.Proofs.Ytggflgmjncjmbaa
set_option linter.unusedSimpArgs false
open Go.ChangeShapes Go.WideShapes Go.ChangeAt Go.RowKit
set_option linter.unusedVariables false

/-- What is left of the first k clues. -/
def hdP (o : Int) (ts : List Tri) : Nat → List Tri
  | 0 => []
  | k + 1 => if ((solA o (hdP o ts k ++ ts.drop (k + 1))).length : Int) = 1 then hdP o ts k else hdP o ts k ++ [ts.getD k tz]
theorem hdP_yes {o : Int} {ts : List Tri} {k : Nat} (h : ((solA o (hdP o ts k ++ ts.drop (k + 1))).length : Int) = 1) : hdP o ts (k + 1) = hdP o ts k := by
  conv => lhs; unfold hdP
  rw [if_pos h]
theorem hdP_no {o : Int} {ts : List Tri} {k : Nat} (h : ¬ ((solA o (hdP o ts k ++ ts.drop (k + 1))).length : Int) = 1) : hdP o ts (k + 1) = hdP o ts k ++ [ts.getD k tz] := by
  conv => lhs; unfold hdP
  rw [if_neg h]
theorem hdP_len (o : Int) (ts : List Tri) : ∀ k, (hdP o ts k).length ≤ k
  | 0 => by simp [hdP]
  | k + 1 => by
    have := hdP_len o ts k
    unfold hdP
    split
    · omega
    · simp; omega
theorem getD_mem {ts : List Tri} {k : Nat} (hk : k < ts.length) : ts.getD k tz ∈ ts := by
  rw [List.getD_eq_getElem?_getD, List.getElem?_eq_getElem hk]
  exact List.getElem_mem hk
theorem hdP_mem (o : Int) (ts : List Tri) : ∀ k, k ≤ ts.length → ∀ x ∈ hdP o ts k, x ∈ ts
  | 0, _ => by simp [hdP]
  | k + 1, hk => by
    intro x hx
    unfold hdP at hx
    split at hx
    · exact hdP_mem o ts k (by omega) x hx
    · rcases List.mem_append.1 hx with h | h
      · exact hdP_mem o ts k (by omega) x h
      · have : x = ts.getD k tz := by simpa using h
        rw [this]
        exact getD_mem (by omega)
theorem drop_cons {ts : List Tri} {k : Nat} (hk : k < ts.length) : ts.drop k = ts.getD k tz :: ts.drop (k + 1) := by
  rw [List.drop_eq_getElem_cons hk, List.getD_eq_getElem?_getD, List.getElem?_eq_getElem hk]
  rfl
theorem pzG_hd {o : Int} {ts : List Tri} {k j : Nat} (h : pzG o ts = true) (hk : k ≤ j) (hj : j ≤ ts.length) : pzG o (hdP o ts k ++ ts.drop j) = true := by
  refine pzG_sub h ?_ fun x hx => ?_
  · have := hdP_len o ts k
    rw [List.length_append, List.length_drop]
    omega
  · rcases List.mem_append.1 hx with q | q
    · exact hdP_mem o ts k (by omega) x q
    · exact List.mem_of_mem_drop q
theorem hd_erase (o : Int) (ts : List Tri) (k : Nat) (hk : k < ts.length) : (hdP o ts k ++ ts.drop k).eraseIdx (hdP o ts k).length = hdP o ts k ++ ts.drop (k + 1) := by
  rw [drop_cons hk, List.eraseIdx_append_of_length_le (Nat.le_refl _), Nat.sub_self]
  rfl
def hrG (o : Int) (ts : List Tri) : Bool := pzG o ts && decide (((solA o ts).length : Int) = 1)
def hrL (o : Int) (ts : List Tri) : List Tri := if hrG o ts then hdP o ts ts.length else []
def hrO (o : Int) (ts : List Tri) : Int := if hrG o ts then o else 0
theorem hrL_no {o : Int} {ts : List Tri} (h : hrG o ts = false) : hrL o ts = [] ∧ hrO o ts = 0 := by unfold hrL hrO; rw [h]; exact ⟨rfl, rfl⟩
theorem hrL_yes {o : Int} {ts : List Tri} (h : hrG o ts = true) : hrL o ts = hdP o ts ts.length ∧ hrO o ts = o := by unfold hrL hrO; rw [h]; exact ⟨rfl, rfl⟩
theorem hrG_yes {o : Int} {ts : List Tri} (h : hrG o ts = true) : pzG o ts = true ∧ decide (((solA o ts).length : Int) = 1) = true := by
  unfold hrG at h
  simpa only [Bool.and_eq_true] using h
theorem hrL_len (o : Int) (ts : List Tri) : (hrL o ts).length ≤ 1000 := by
  unfold hrL
  split
  · rename_i h
    have := (pzG_in (hrG_yes h).1).2.2.1
    have := hdP_len o ts ts.length
    omega
  · simp
theorem isSolvedP_any (o : Int) (ts : List Tri) (v : Value) (B : Nat) (w : World) (h : RdT w B v ts) (hB : B ≤ w.heap.size) (hg : pzG o ts = true) :
    Calls Try.prog 82 #[pz o v] w fun e w' => e = .returned (.bool (decide (((solA o ts).length : Int) = 1))) ∧ Below w.heap.size w w' := by
  have bl := Lib.hid (bel_alloc (Below.refl _ w) (.cells #[.int .i64 o, v] 29))
  have H := Lib.hid (h.below bl.out hB)
  obtain ⟨A, cap, rfl, _, _⟩ := h.form
  clear h
  go_enter Try.func82, Try.ntmps82
  go_wp2_with fail
  refine (pSolsI_any o ts _ B _ H.out (by simp; omega) hg).mono ?_
  rintro e w3 ⟨v', rfl, r3, b3⟩
  obtain ⟨A3, cap3, rfl, _, _⟩ := r3.rd.form
  clear r3
  generalize hX : (solA o ts).length = X at *
  have HX := Lib.hid hX
  clear hX
  go_wp2_with fail
  go_ret
  exact ⟨by rw [HX.out]; first | rfl | simp, bel_trans bl.out b3⟩
theorem BoxW.keepB {w w1 : World} {k C : Nat} {x y : Value} (h : BoxW w k x y) (hb : Below C w w1) (hk : k < C) : BoxW w1 k x y :=
  ⟨h.1.keepB hb hk, (hb.frozen (p := ⟨k, 0, none⟩) hk).trans h.2.1, (hb.frozen (p := ⟨k, 1, none⟩) hk).trans h.2.2⟩
def lenV : Value → Nat
  | .slice _ n _ => n
  | _ => 0
set_option maxRecDepth 100000 in
set_option maxHeartbeats 6400000 in
theorem specHard_any (o : Int) (ts : List Tri) (v : Value) (B : Nat) (w : World) (h : RdT w B v ts) (hB : B ≤ w.heap.size) :
    Calls Try.prog 55 #[pz o v] w (PzAns (hrO o ts) (hrL o ts) (hrG o ts) w) := by
  have bl := Lib.hid (bel_alloc (bel_alloc (Below.refl _ w) (.cells #[.int .i64 o, v] 29)) (.cells #[.int .i64 0, .slice none 0 0] 29))
  have bx := Lib.hid ((Box2.new w (.int .i64 o) v 29).keep (bel_alloc (Below.refl _ _) (.cells #[.int .i64 0, .slice none 0 0] 29)))
  have hbw0 := Lib.hid (show BoxW ((w.alloc (.cells #[.int .i64 o, v] 29)).alloc (.cells #[.int .i64 0, .slice none 0 0] 29)) (w.heap.size + 1) (.int .i64 0) (.slice none 0 0) from by simpa using BoxW.new (w.alloc (.cells #[.int .i64 o, v] 29)) (.int .i64 0) (.slice none 0 0) 29)
  have H0 := Lib.hid h
  obtain ⟨A, cap, rfl, hl, hm⟩ := h.form
  clear h
  cases hg : pzG o ts
  · have hd : hrG o ts = false := by unfold hrG; rw [hg]; rfl
    obtain ⟨e1, e2⟩ := hrL_no hd
    rw [e1, e2, hd]
    go_enter Try.func55, Try.ntmps55
    go_wp2_with fail
    refine (pzGood_any o ts _ B _ (H0.out.below bl.out hB) (by simp; omega)).mono ?_
    rintro e w2 ⟨rfl, b2⟩
    rw [hg]
    obtain ⟨⟨d0, d1, d2⟩, d3, d4⟩ := hbw0.out.keep b2
    have hb2 := bel_trans bl.out b2
    go_wp2
    refine bodyPost_ret (v := .tuple #[pz 0 (.slice none 0 0), .bool false]) (by simp [results, Try.results55, go_sem, d0, d1, d2]) rfl ⟨_, rfl, TRow.nil _ _ _, ?_⟩
    repeat (first | exact hb2 | refine Below.setCell ?_ (by first | (dsimp only; omega) | simp) _)
  · have hSv := fun W (hR : RdT W B (.slice A ts.length cap) ts) (hz : B ≤ W.heap.size) => pzSolved_any o ts _ B W hR hz hg
    cases hq : decide (((solA o ts).length : Int) = 1)
    · have hd : hrG o ts = false := by unfold hrG; rw [hg, hq]; rfl
      obtain ⟨e1, e2⟩ := hrL_no hd
      rw [e1, e2, hd]
      rw [hq] at hSv
      go_enter Try.func55, Try.ntmps55
      go_wp2_with fail
      refine (pzGood_any o ts _ B _ (H0.out.below bl.out hB) (by simp; omega)).mono ?_
      rintro e w2 ⟨rfl, b2⟩
      rw [hg]
      have hb2 := bel_trans bl.out b2
      have bw2 := Lib.hid (hbw0.out.keep b2)
      obtain ⟨c0, c1, ck⟩ := bx.out.keep b2
      go_wp2_with fail
      refine (hSv _ (H0.out.below hb2 hB) (by have := hb2.size; omega)).mono ?_
      rintro e w3 ⟨rfl, b3⟩
      obtain ⟨⟨d0, d1, d2⟩, d3, d4⟩ := bw2.out.keep b3
      have hb3 := bel_trans hb2 b3
      clear c0 c1 ck
      go_wp2
      refine bodyPost_ret (v := .tuple #[pz 0 (.slice none 0 0), .bool false]) (by simp [results, Try.results55, go_sem, d0, d1, d2]) rfl ⟨_, rfl, TRow.nil _ _ _, ?_⟩
      repeat (first | exact hb3 | refine Below.setCell ?_ (by first | (dsimp only; omega) | simp) _)
    · have hd : hrG o ts = true := by unfold hrG; rw [hg, hq]; rfl
      obtain ⟨e1, e2⟩ := hrL_yes hd
      rw [e1, e2, hd]
      rw [hq] at hSv
      obtain ⟨o1, o8, h6, hcl⟩ := pzG_in hg
      have hW := fun (k : Nat) (hk : k < ts.length) (v : Value) W (hR : RdT W W.heap.size v (hdP o ts k ++ ts.drop k)) => pzWithout_any (hdP o ts k ++ ts.drop k) v _ (hdP o ts k).length W hR (Nat.le_refl _) (by rw [List.length_append, List.length_drop]; omega) (by have := hdP_len o ts k; rw [List.length_append, List.length_drop]; omega)
      have hS2 := fun (k : Nat) (hk : k < ts.length) (v : Value) W (hR : RdT W W.heap.size v (hdP o ts k ++ ts.drop (k + 1))) => pzSolved_any o (hdP o ts k ++ ts.drop (k + 1)) v _ W hR (Nat.le_refl _) (pzG_hd hg (by omega) (by omega))
      clear hd e1 e2
      go_enter Try.func55, Try.ntmps55
      go_wp2_with fail
      refine (pzGood_any o ts _ B _ (H0.out.below bl.out hB) (by simp; omega)).mono ?_
      rintro e w2 ⟨rfl, b2⟩
      rw [hg]
      have hb2 := bel_trans bl.out b2
      have bw2 := Lib.hid (hbw0.out.keep b2)
      have bx2 := Lib.hid (bx.out.keep b2)
      obtain ⟨c0, c1, ck⟩ := bx2.out
      go_wp2_with fail
      refine (hSv _ (H0.out.below hb2 hB) (by have := hb2.size; omega)).mono ?_
      rintro e w3 ⟨rfl, b3⟩
      have hb3 := bel_trans hb2 b3
      have bw3 := Lib.hid (bw2.out.keep b3)
      have bx3 := Lib.hid (bx2.out.keep b3)
      clear c0 c1 ck
      obtain ⟨c0, c1, ck⟩ := bx3.out
      go_wp2_with (at_builtin; refine wpList_pushR 27 39 Try.underlying27 info_clue rfl (.tmp 19) (.tmp 21) rfl w3.heap.size _ [] (TRow.lit0 _ _) ts B A ts.length cap rfl (H0.out.below (bel_alloc hb3 _) hB) (by simp; omega) (by simp) rfl ?_)
      intro v4 w4 hI4 hb4 _
      have k1 := bw3.out.1.2.2
      have bx4 := Lib.hid ((bx3.out.keep (bel_alloc (Below.refl _ _) _)).keepB hb4 ck)
      have bw4 := Lib.hid ((bw3.out.keep (bel_alloc (Below.refl _ _) _)).keepB hb4 k1)
      have hb5 := (bel_alloc hb3 (.cells #[] 39)).trans (hb4.mono (by omega))
      have hI5 : Hid (TRow 39 w4 (w.heap.size + 2) v4 ts) := Lib.hid (TRow.mono hI4 (by omega))
      clear c0 c1 ck hI4 hb4 hb3 b3 b2 bw2 bx2 bw3 bx3 hSv
      go_wp2_with fail
      go_loopw [4, 5] (fun x i wr => ∃ k : Nat, k ≤ ts.length ∧ i = .int .i64 ((hdP o ts k).length : Int) ∧ Hid (TRow 39 wr (w.heap.size + 2) x (hdP o ts k ++ ts.drop k)) ∧ Hid (Box2 wr w.heap.size (.int .i64 o) (.slice A ts.length cap)) ∧ Hid (BoxW wr (w.heap.size + 1) (.int .i64 0) (.slice none 0 0)) ∧ Below w.heap.size w wr) (fun x i _ => lenV x - (intOf i).toNat)
      case atStart => exact ⟨0, by omega, rfl, hI5, bx4, bw4, hb5⟩
      case round =>
        obtain ⟨k, hk, rfl, hI, hbx, hbw, hbl⟩ := hrel
        obtain ⟨c0, c1, ck⟩ := hbx.out
        obtain ⟨A4, cap4, rfl, hc4⟩ := hI.out.formS
        have hjk := hdP_len o ts k
        have hlen : (hdP o ts k ++ ts.drop k).length = (hdP o ts k).length + (ts.length - k) := by rw [List.length_append, List.length_drop]
        by_cases hlt : k < ts.length
        · have hE := hd_erase o ts k hlt
          have hWk := hW k hlt
          rw [hE] at hWk
          have hSk := hS2 k hlt
          have hlen2 : (hdP o ts k ++ ts.drop (k + 1)).length = (hdP o ts k ++ ts.drop k).length - 1 := by rw [hlen, List.length_append, List.length_drop]; omega
          cases hy : decide (((solA o (hdP o ts k ++ ts.drop (k + 1))).length : Int) = 1)
          · have e0 := hdP_no (o := o) (ts := ts) (k := k) (by simpa using hy)
            have e1 : hdP o ts (k + 1) ++ ts.drop (k + 1) = hdP o ts k ++ ts.drop k := by rw [e0, drop_cons hlt, List.append_assoc]; rfl
            have e2 : (hdP o ts (k + 1)).length = (hdP o ts k).length + 1 := by rw [e0]; simp
            have E1 := Lib.hid e1
            have E2 := Lib.hid e2
            rw [hy] at hSk
            clear e0 e1 e2 hE
            generalize hX : hdP o ts k ++ ts.drop (k + 1) = X at *
            generalize hL : hdP o ts k ++ ts.drop k = L at *
            generalize hj : (hdP o ts k).length = j at *
            have hjn : (j : Int) < (L.length : Int) := by omega
            generalize hn : L.length = n at *
            have hI0 := hI.out.rd
            have HL := Lib.hid (And.intro hlen hlen2)
            clear hX hL hj hn hlen hlen2
            go_wp2_with fail
            refine (hWk _ _ hI0).mono ?_
            rintro e w5 ⟨v5, rfl, r5, b5⟩
            have hI6 := Lib.hid (hI.out.below b5)
            have hbx6 := Lib.hid (hbx.out.keep b5)
            have hbw6 := Lib.hid (hbw.out.keep b5)
            have hbl6 := bel_trans hbl b5
            obtain ⟨A5, cap5, rfl, hc5⟩ := r5.formS
            clear c0 c1 ck
            obtain ⟨c0, c1, ck⟩ := hbx6.out
            go_wp2_with fail
            refine (hSk _ _ r5.rd).mono ?_
            rintro e w6 ⟨rfl, b6⟩
            have hI7 := Lib.hid (hI6.out.below b6)
            have hbx7 := Lib.hid (hbx6.out.keep b6)
            have hbw7 := Lib.hid (hbw6.out.keep b6)
            have hbl7 := bel_trans hbl6 b6
            go_wp2
            refine ⟨⟨k + 1, by omega, by rw [E2.out]; go_num, by rw [E1.out]; exact hI7, hbx7, hbw7, hbl7⟩, by simp [lenV, intOf]; omega⟩
          · have e0 := hdP_yes (o := o) (ts := ts) (k := k) (by simpa using hy)
            have e1 : hdP o ts (k + 1) ++ ts.drop (k + 1) = hdP o ts k ++ ts.drop (k + 1) := by rw [e0]
            have e2 : (hdP o ts (k + 1)).length = (hdP o ts k).length := by rw [e0]
            have E1 := Lib.hid e1
            have E2 := Lib.hid e2
            rw [hy] at hSk
            clear e0 e1 e2 hE
            generalize hX : hdP o ts k ++ ts.drop (k + 1) = X at *
            generalize hL : hdP o ts k ++ ts.drop k = L at *
            generalize hj : (hdP o ts k).length = j at *
            have hjn : (j : Int) < (L.length : Int) := by omega
            generalize hn : L.length = n at *
            have hI0 := hI.out.rd
            have HL := Lib.hid (And.intro hlen hlen2)
            clear hX hL hj hn hlen hlen2
            go_wp2_with fail
            refine (hWk _ _ hI0).mono ?_
            rintro e w5 ⟨v5, rfl, r5, b5⟩
            have hbx6 := Lib.hid (hbx.out.keep b5)
            have hbw6 := Lib.hid (hbw.out.keep b5)
            have hbl6 := bel_trans hbl b5
            obtain ⟨A5, cap5, rfl, hc5⟩ := r5.formS
            clear c0 c1 ck
            obtain ⟨c0, c1, ck⟩ := hbx6.out
            go_wp2_with fail
            refine (hSk _ _ r5.rd).mono ?_
            rintro e w6 ⟨rfl, b6⟩
            have hI7 : Hid (TRow 39 w6 (w.heap.size + 2) (.slice A5 X.length cap5) X) := Lib.hid (TRow.mono (r5.below b6) hbw.out.1.2.2)
            have hbx7 := Lib.hid (hbx6.out.keep b6)
            have hbw7 := Lib.hid (hbw6.out.keep b6)
            have hbl7 := bel_trans hbl6 b6
            have hm7 : Hid (X.length - j < n - j) := Lib.hid (by have := HL.out; omega)
            go_wp2
            refine ⟨⟨k + 1, by omega, by rw [E2.out], by rw [E1.out]; exact hI7, hbx7, hbw7, hbl7⟩, by simpa [lenV, intOf] using hm7.out⟩
        · obtain rfl : k = ts.length := by omega
          obtain ⟨⟨d0, d1, d2⟩, d3, d4⟩ := hbw.out
          have e1 : hdP o ts ts.length ++ ts.drop ts.length = hdP o ts ts.length := by rw [List.drop_length, List.append_nil]
          rw [e1] at hI ⊢
          clear hlen e1
          generalize hdP o ts ts.length = L at *
          generalize hn : L.length = n at *
          have hI0 := Lib.hid hI.out
          clear hn hI
          go_wp2
          refine bodyPost_ret (v := .tuple #[pz o (.slice A4 n cap4), .bool true]) (by simp [results, Try.results55, go_sem, d0, d1, d2]) rfl ⟨_, rfl, ?_, (hbl.setCell (by dsimp only; omega) _).setCell (by dsimp only; omega) _⟩
          refine (TRow.setOther ?_ (by dsimp only; omega) _).mono (b := w.heap.size + 2) (by omega)
          refine TRow.setOther ?_ (by dsimp only; omega) _
          exact hI0.out
end Go.Proofs.Ytggflgmjncjmbaa
