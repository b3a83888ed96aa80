/- The first solution, sure numbers, a clue that a chain fits: contracts of the program and of its model. -/
import Derived.Test.YtggflgmjncjmbaaPzQ
namespace Go.Proofs.Ytggflgmjncjmbaa
set_option linter.unusedSimpArgs false
open Go.ChangeShapes Go.WideShapes Go.ChangeAt Go.RowKit
set_option linter.unusedVariables false

def fst3 (xs : List Tri) : Tri := xs.getD 0 tz
def ansFst (o : Int) (ts : List Tri) : Value := .tuple #[chn (fst3 (solA o ts)).1 (fst3 (solA o ts)).2.1 (fst3 (solA o ts)).2.2, .bool (decide (0 < (solA o ts).length))]
theorem ansFst_form (o : Int) (ts : List Tri) : ∃ (x y t : Int) (k : Bool), ansFst o ts = .tuple #[chn x y t, .bool k] := ⟨_, _, _, _, rfl⟩
theorem fst_at {w : World} {q : TypeId} {b : Nat} {v : Value} {xs : List Tri} (h : TRow q w b v xs) (h0 : 0 < xs.length) :
    ∃ g cap, v = .slice (some ⟨g, 0, none⟩) xs.length cap ∧ b ≤ g ∧ w.cell? ⟨g, 0, none⟩ = some (.int .i64 (fst3 xs).1) ∧ w.cell? ⟨g, 1, none⟩ = some (.int .i64 (fst3 xs).2.1) ∧ w.cell? ⟨g, 2, none⟩ = some (.int .i64 (fst3 xs).2.2) ∧ g < w.heap.size := by
  rcases h.form with ⟨hx, _⟩ | ⟨_, g, cap, rfl, hb, hg, _, _⟩
  · rw [hx] at h0; simp at h0
  · obtain ⟨c0, c1, c2⟩ := h.at_ 0 h0
    exact ⟨g, cap, rfl, hb, c0, c1, c2, hg⟩
set_option maxHeartbeats 1600000 in
theorem implFst_any (o : Int) (ts : List Tri) (v : Value) (B : Nat) (w : World) (h : RdT w B v ts) (hB : B ≤ w.heap.size) :
    Calls Try.prog 35 #[pz o v] w fun e w' => e = .returned (ansFst o ts) ∧ Below w.heap.size w w' := by
  have bl := Lib.hid (bel_alloc (bel_alloc (Below.refl _ w) (.cells #[.int .i64 o, v] 29)) (.cells #[.int .i64 0, .int .i64 0, .int .i64 0] 41))
  have H := Lib.hid (h.below bl.out hB)
  obtain ⟨A, cap, rfl, _, _⟩ := h.form
  clear h
  unfold ansFst
  by_cases h0 : 0 < (solA o ts).length
  · have hd : decide (0 < (solA o ts).length) = true := by simpa using h0
    rw [hd]
    have hlz : ¬ ((solA o ts).length : Int) = 0 := by omega
    go_enter Try.func35, Try.ntmps35
    go_wp2_with fail
    refine (implSol_any o ts _ B _ H.out (by simp; omega)).mono ?_
    rintro e w2 ⟨v', rfl, r2, b2⟩
    obtain ⟨g, cap2, rfl, hbg, c0, c1, c2, hg⟩ := fst_at r2 h0
    clear r2 hd
    generalize hX : (fst3 (solA o ts)).1 = X at *
    have HX := Lib.hid hX
    clear hX
    generalize hY : (fst3 (solA o ts)).2.1 = Y at *
    have HY := Lib.hid hY
    clear hY
    generalize hZ : (fst3 (solA o ts)).2.2 = Z at *
    have HZ := Lib.hid hZ
    clear hZ
    generalize hL : (solA o ts).length = L at *
    clear hL
    have hL0 : (0 : Int) < (L : Int) := by omega
    obtain ⟨hc, hf⟩ := bcell b2
    have hz : w.heap.size + 2 ≤ w2.heap.size := by have := b2.size; simp at this; omega
    have hb2 := bel_trans bl.out b2
    go_wp2
    refine bodyPost_ret (v := .tuple #[chn X Y Z, .bool true]) (by simp [results, Try.results35, go_sem, hc, hz]) rfl ⟨by rw [HX.out, HY.out, HZ.out], ?_⟩
    repeat (first | exact hb2 | refine Below.setCell ?_ (by first | (dsimp only; omega) | simp) _)
  · have hd : decide (0 < (solA o ts).length) = false := by simpa using h0
    have he : solA o ts = [] := List.length_eq_zero_iff.1 (by omega)
    rw [hd, he]
    go_enter Try.func35, Try.ntmps35
    go_wp2_with fail
    refine (implSol_any o ts _ B _ H.out (by simp; omega)).mono ?_
    rw [he]
    rintro e w2 ⟨v', rfl, r2, b2⟩
    obtain ⟨A2, cap2, rfl, _, _⟩ := r2.rd.form
    clear r2
    obtain ⟨hc, hf⟩ := bcell b2
    have hz : w.heap.size + 2 ≤ w2.heap.size := by have := b2.size; simp at this; omega
    have hb2 := bel_trans bl.out b2
    go_wp2
    refine bodyPost_ret (v := .tuple #[chn 0 0 0, .bool false]) (by simp [results, Try.results35, go_sem, hc, hz]) rfl ⟨rfl, ?_⟩
    repeat (first | exact hb2 | refine Below.setCell ?_ (by first | (dsimp only; omega) | simp) _)
set_option maxHeartbeats 1600000 in
theorem specFst_any (o : Int) (ts : List Tri) (v : Value) (B : Nat) (w : World) (h : RdT w B v ts) (hB : B ≤ w.heap.size) :
    Calls Try.prog 34 #[pz o v] w fun e w' => e = .returned (ansFst o ts) ∧ Below w.heap.size w w' := by
  have bl := Lib.hid (bel_alloc (bel_alloc (Below.refl _ w) (.cells #[.int .i64 o, v] 29)) (.cells #[.int .i64 0, .int .i64 0, .int .i64 0] 41))
  have H := Lib.hid (h.below bl.out hB)
  obtain ⟨A, cap, rfl, _, _⟩ := h.form
  clear h
  unfold ansFst
  cases hg : pzG o ts
  · rw [solA_no hg]
    go_enter Try.func34, Try.ntmps34
    go_wp2_with fail
    refine (pzGood_any o ts _ B _ H.out (by simp; omega)).mono ?_
    rintro e w2 ⟨rfl, b2⟩
    rw [hg]
    obtain ⟨hc, hf⟩ := bcell b2
    have hz : w.heap.size + 2 ≤ w2.heap.size := by have := b2.size; simp at this; omega
    have hb2 := bel_trans bl.out b2
    go_wp2
    refine bodyPost_ret (v := .tuple #[chn 0 0 0, .bool false]) (by simp [results, Try.results34, go_sem, hc, hz]) rfl ⟨rfl, ?_⟩
    repeat (first | exact hb2 | refine Below.setCell ?_ (by first | (dsimp only; omega) | simp) _)
  · by_cases h0 : 0 < (solA o ts).length
    · have hd : decide (0 < (solA o ts).length) = true := by simpa using h0
      rw [hd]
      have hlz : ¬ ((solA o ts).length : Int) = 0 := by omega
      go_enter Try.func34, Try.ntmps34
      go_wp2_with fail
      refine (pzGood_any o ts _ B _ H.out (by simp; omega)).mono ?_
      rintro e w1 ⟨rfl, b1⟩
      rw [hg]
      obtain ⟨hc, hf⟩ := bcell b1
      have H1 := Lib.hid (H.out.below b1 (by simp; omega))
      have hz : w.heap.size + 2 ≤ w1.heap.size := by have := b1.size; simp at this; omega
      have hb1 := bel_trans bl.out b1
      go_wp2_with fail
      refine (pzAllI_any o ts _ B _ H1.out (by omega) hg).mono ?_
      rintro e w2 ⟨v', rfl, r2, b2⟩
      obtain ⟨g, cap2, rfl, hbg, c0, c1, c2, hgz⟩ := fst_at r2 h0
      clear r2 hd
      generalize hX : (fst3 (solA o ts)).1 = X at *
      have HX := Lib.hid hX
      clear hX
      generalize hY : (fst3 (solA o ts)).2.1 = Y at *
      have HY := Lib.hid hY
      clear hY
      generalize hZ : (fst3 (solA o ts)).2.2 = Z at *
      have HZ := Lib.hid hZ
      clear hZ
      generalize hL : (solA o ts).length = L at *
      clear hL
      have hL0 : (0 : Int) < (L : Int) := by omega
      obtain ⟨hc2, hf2⟩ := bcell b2
      have hz2 : w.heap.size + 2 ≤ w2.heap.size := by have := b2.size; omega
      have hz3 : w.heap.size + 1 < w1.heap.size := by omega
      have hb2 := bel_trans hb1 b2
      go_wp2
      refine bodyPost_ret (v := .tuple #[chn X Y Z, .bool true]) (by simp [results, Try.results34, go_sem, hc, hz, hc2, hz3]) rfl ⟨by rw [HX.out, HY.out, HZ.out], ?_⟩
      repeat (first | exact hb2 | refine Below.setCell ?_ (by first | (dsimp only; omega) | simp) _)
    · have hd : decide (0 < (solA o ts).length) = false := by simpa using h0
      have he : solA o ts = [] := List.length_eq_zero_iff.1 (by omega)
      rw [hd, he]
      go_enter Try.func34, Try.ntmps34
      go_wp2_with fail
      refine (pzGood_any o ts _ B _ H.out (by simp; omega)).mono ?_
      rintro e w1 ⟨rfl, b1⟩
      rw [hg]
      obtain ⟨hc, hf⟩ := bcell b1
      have H1 := Lib.hid (H.out.below b1 (by simp; omega))
      have hz : w.heap.size + 2 ≤ w1.heap.size := by have := b1.size; simp at this; omega
      have hb1 := bel_trans bl.out b1
      go_wp2_with fail
      refine (pzAllI_any o ts _ B _ H1.out (by omega) hg).mono ?_
      rw [he]
      rintro e w2 ⟨v', rfl, r2, b2⟩
      obtain ⟨A2, cap2, rfl, _, _⟩ := r2.rd.form
      clear r2
      obtain ⟨hc2, hf2⟩ := bcell b2
      have hz2 : w.heap.size + 2 ≤ w2.heap.size := by have := b2.size; omega
      have hz3 : w.heap.size + 1 < w1.heap.size := by omega
      have hb2 := bel_trans hb1 b2
      go_wp2
      refine bodyPost_ret (v := .tuple #[chn 0 0 0, .bool false]) (by simp [results, Try.results34, go_sem, hc, hz, hc2, hz3]) rfl ⟨rfl, ?_⟩
      repeat (first | exact hb2 | refine Below.setCell ?_ (by first | (dsimp only; omega) | simp) _)

theorem isHid_any (w d o : Int) (W : World) :
    Calls Try.prog 67 #[chn w d o] W fun e w' => e = .returned (.bool (hidG (w, d, o))) ∧ Below W.heap.size W w' := by
  have bx := Lib.hid (Box3.new W (.int .i64 w) (.int .i64 d) (.int .i64 o) 41)
  have bl := bel_alloc (Below.refl _ W) (.cells #[.int .i64 w, .int .i64 d, .int .i64 o] 41)
  cases h : good w d o
  · have hh : hidG (w, d, o) = false := by unfold hidG; rw [h]; rfl
    rw [hh]
    go_enter Try.func67, Try.ntmps67
    go_wp2_with fail
    refine (implIsChain_any _ _ _ _).mono ?_
    rintro e w2 ⟨rfl, b2⟩
    rw [h]
    go_wp2_with fail
    go_ret
    exact ⟨rfl, bel_trans bl b2⟩
  · have hh : hidG (w, d, o) = decide (o ≤ 8) := by unfold hidG; rw [h]; rfl
    rw [hh]
    go_enter Try.func67, Try.ntmps67
    go_wp2_with fail
    refine (implIsChain_any _ _ _ _).mono ?_
    rintro e w2 ⟨rfl, b2⟩
    rw [h]
    obtain ⟨c0, c1, c2, hk⟩ := bx.out.keep b2
    go_wp2_with fail
    go_ret
    exact ⟨rfl, bel_trans bl b2⟩
theorem pzHid_any (w d o : Int) (W : World) :
    Calls Try.prog 64 #[chn w d o] W fun e w' => e = .returned (.bool (hidG (w, d, o))) ∧ Below W.heap.size W w' := by
  have bx := Lib.hid (Box3.new W (.int .i64 w) (.int .i64 d) (.int .i64 o) 41)
  have bl := bel_alloc (Below.refl _ W) (.cells #[.int .i64 w, .int .i64 d, .int .i64 o] 41)
  cases h : good w d o
  · have hh : hidG (w, d, o) = false := by unfold hidG; rw [h]; rfl
    rw [hh]
    go_enter Try.func64, Try.ntmps64
    go_wp2_with fail
    refine (cnGood_any _ _ _ _).mono ?_
    rintro e w2 ⟨rfl, b2⟩
    rw [h]
    go_wp2_with fail
    go_ret
    exact ⟨rfl, bel_trans bl b2⟩
  · have hr := inR_of h
    have hh : hidG (w, d, o) = inB o 1 8 := by
      unfold hidG inB
      rw [h]
      obtain ⟨_, _, _, _, r5, _⟩ := hr
      simp [r5]
    rw [hh]
    go_enter Try.func64, Try.ntmps64
    go_wp2_with fail
    refine (cnGood_any _ _ _ _).mono ?_
    rintro e w2 ⟨rfl, b2⟩
    rw [h]
    obtain ⟨c0, c1, c2, hk⟩ := bx.out.keep b2
    go_wp2_with fail
    refine (pzOf_any _ _).mono ?_
    rintro e w3 ⟨rfl, rfl⟩
    go_wp2_with fail
    go_ret
    exact ⟨rfl, bel_trans bl b2⟩

def ansFit (t c : Tri) : Value := if clG t && hidG c then .tuple #[.bool (fit t c), .bool true] else .tuple #[.bool false, .bool false]
theorem ansFit_form (t c : Tri) : ∃ (x k : Bool), ansFit t c = .tuple #[.bool x, .bool k] := by
  unfold ansFit
  split
  · exact ⟨_, _, rfl⟩
  · exact ⟨_, _, rfl⟩
theorem ansFit_no {t c : Tri} (h : (clG t && hidG c) = false) : ansFit t c = .tuple #[.bool false, .bool false] := by unfold ansFit; rw [h]; rfl
theorem ansFit_yes {t c : Tri} (h : (clG t && hidG c) = true) : ansFit t c = .tuple #[.bool (fit t c), .bool true] := by unfold ansFit; rw [h]; rfl
theorem areOne_any (k a b : Int) (W : World) (g : Nat) (hg : g = W.heap.size) : Calls Try.prog 62 #[.slice (some ⟨g, 0, none⟩) 1 1] (W.alloc (.cells #[.int .i64 k, .int .i64 a, .int .i64 b] 39)) fun e w' => e = .returned (.bool (clG (k, a, b))) ∧ Below W.heap.size W w' := by
  subst hg
  have h := areClues_any [(k, a, b)] _ _ _ ((TRow.one 39 W (k, a, b)).rd) (Nat.le_refl _)
  refine h.mono ?_
  rintro e w' ⟨rfl, hb⟩
  exact ⟨by simp [clsG], bel_trans (bel_alloc (Below.refl _ _) _) hb⟩
set_option maxHeartbeats 1600000 in
theorem implFit_any (k a b u d o : Int) (w : World) :
    Calls Try.prog 25 #[chn k a b, chn u d o] w fun e w' => e = .returned (ansFit (k, a, b) (u, d, o)) ∧ Below w.heap.size w w' := by
  have bl := Lib.hid (bel_alloc (bel_alloc (Below.refl _ w) (.cells #[.int .i64 k, .int .i64 a, .int .i64 b] 39)) (.cells #[.int .i64 u, .int .i64 d, .int .i64 o] 41))
  have b0 := Lib.hid ((Box3.new w (.int .i64 k) (.int .i64 a) (.int .i64 b) 39).keep (bel_alloc (Below.refl _ _) (.cells #[.int .i64 u, .int .i64 d, .int .i64 o] 41)))
  have b1 := Lib.hid (Box3.new (w.alloc (.cells #[.int .i64 k, .int .i64 a, .int .i64 b] 39)) (.int .i64 u) (.int .i64 d) (.int .i64 o) 41)
  have hz : (w.alloc (.cells #[.int .i64 k, .int .i64 a, .int .i64 b] 39)).heap.size = w.heap.size + 1 := (size1 _ _).symm
  rw [hz] at b1
  clear hz
  cases h1 : clG (k, a, b)
  · rw [ansFit_no (by rw [h1]; rfl)]
    go_enter Try.func25, Try.ntmps25
    go_wp2_with fail
    refine (areOne_any k a b _ _ (by simp)).mono ?_
    rintro e w2 ⟨rfl, b2⟩
    rw [h1]
    go_wp2_with fail
    go_ret2
    exact ⟨rfl, bel_trans bl.out b2⟩
  · cases h2 : hidG (u, d, o)
    · rw [ansFit_no (by rw [h1, h2]; rfl)]
      go_enter Try.func25, Try.ntmps25
      go_wp2_with fail
      refine (areOne_any k a b _ _ (by simp)).mono ?_
      rintro e w2 ⟨rfl, b2⟩
      rw [h1]
      obtain ⟨c0, c1, c2, ck⟩ := b1.out.keep b2
      go_wp2_with fail
      refine (isHid_any u d o _).mono ?_
      rintro e w3 ⟨rfl, b3⟩
      rw [h2]
      go_wp2_with fail
      go_ret2
      exact ⟨rfl, bel_trans (bel_trans bl.out b2) b3⟩
    · rw [ansFit_yes (by rw [h1, h2]; rfl)]
      have hcall := fun W => cFits_any k a b u d o W h1 h2
      generalize fit (k, a, b) (u, d, o) = F at *
      go_enter Try.func25, Try.ntmps25
      go_wp2_with fail
      refine (areOne_any k a b _ _ (by simp)).mono ?_
      rintro e w2 ⟨rfl, b2⟩
      rw [h1]
      have bb1 := Lib.hid (b1.out.keep b2)
      have bb0 := Lib.hid (b0.out.keep b2)
      obtain ⟨c0, c1, c2, ck⟩ := bb1.out
      go_wp2_with fail
      refine (isHid_any u d o _).mono ?_
      rintro e w3 ⟨rfl, b3⟩
      rw [h2]
      clear c0 c1 c2 ck
      obtain ⟨c0, c1, c2, ck⟩ := bb1.out.keep b3
      obtain ⟨d0, d1, d2, dk⟩ := bb0.out.keep b3
      go_wp2_with fail
      refine (hcall _).mono ?_
      rintro e w4 ⟨rfl, b4⟩
      go_wp2_with fail
      go_ret2
      exact ⟨rfl, bel_trans (bel_trans (bel_trans bl.out b2) b3) b4⟩
set_option maxHeartbeats 1600000 in
theorem specFit_any (k a b u d o : Int) (w : World) :
    Calls Try.prog 22 #[chn k a b, chn u d o] w fun e w' => e = .returned (ansFit (k, a, b) (u, d, o)) ∧ Below w.heap.size w w' := by
  have bl := Lib.hid (bel_alloc (bel_alloc (Below.refl _ w) (.cells #[.int .i64 k, .int .i64 a, .int .i64 b] 39)) (.cells #[.int .i64 u, .int .i64 d, .int .i64 o] 41))
  have b0 := Lib.hid ((Box3.new w (.int .i64 k) (.int .i64 a) (.int .i64 b) 39).keep (bel_alloc (Below.refl _ _) (.cells #[.int .i64 u, .int .i64 d, .int .i64 o] 41)))
  have b1 := Lib.hid (Box3.new (w.alloc (.cells #[.int .i64 k, .int .i64 a, .int .i64 b] 39)) (.int .i64 u) (.int .i64 d) (.int .i64 o) 41)
  have hz : (w.alloc (.cells #[.int .i64 k, .int .i64 a, .int .i64 b] 39)).heap.size = w.heap.size + 1 := (size1 _ _).symm
  rw [hz] at b1
  clear hz
  cases h2 : hidG (u, d, o)
  · rw [ansFit_no (by rw [h2, Bool.and_false])]
    go_enter Try.func22, Try.ntmps22
    go_wp2_with fail
    refine (pzHid_any u d o _).mono ?_
    rintro e w2 ⟨rfl, b2⟩
    rw [h2]
    go_wp2_with fail
    go_ret2
    exact ⟨rfl, bel_trans bl.out b2⟩
  · cases h1 : clG (k, a, b)
    · rw [ansFit_no (by rw [h1]; rfl)]
      go_enter Try.func22, Try.ntmps22
      go_wp2_with fail
      refine (pzHid_any u d o _).mono ?_
      rintro e w2 ⟨rfl, b2⟩
      rw [h2]
      obtain ⟨c0, c1, c2, ck⟩ := b0.out.keep b2
      go_wp2_with fail
      refine (pzClue_any k a b _).mono ?_
      rintro e w3 ⟨rfl, b3⟩
      rw [h1]
      go_wp2_with fail
      go_ret2
      exact ⟨rfl, bel_trans (bel_trans bl.out b2) b3⟩
    · rw [ansFit_yes (by rw [h1, h2]; rfl)]
      have hcall := fun W => mFits_any k a b u d o W h1 h2
      generalize fit (k, a, b) (u, d, o) = F at *
      go_enter Try.func22, Try.ntmps22
      go_wp2_with fail
      refine (pzHid_any u d o _).mono ?_
      rintro e w2 ⟨rfl, b2⟩
      rw [h2]
      have bb1 := Lib.hid (b1.out.keep b2)
      have bb0 := Lib.hid (b0.out.keep b2)
      obtain ⟨c0, c1, c2, ck⟩ := bb0.out
      go_wp2_with fail
      refine (pzClue_any k a b _).mono ?_
      rintro e w3 ⟨rfl, b3⟩
      rw [h1]
      clear c0 c1 c2 ck
      obtain ⟨c0, c1, c2, ck⟩ := bb1.out.keep b3
      obtain ⟨d0, d1, d2, dk⟩ := bb0.out.keep b3
      go_wp2_with fail
      refine (hcall _).mono ?_
      rintro e w4 ⟨rfl, b4⟩
      go_wp2_with fail
      go_ret2
      exact ⟨rfl, bel_trans (bel_trans (bel_trans bl.out b2) b3) b4⟩
theorem held33_get {w W : World} {k l : Nat} {x y z p q r : Value} (h : W.cell? ⟨k, 0, none⟩ = some x ∧ W.cell? ⟨k, 1, none⟩ = some y ∧ W.cell? ⟨k, 2, none⟩ = some z ∧ k < W.heap.size ∧ W.cell? ⟨l, 0, none⟩ = some p ∧ W.cell? ⟨l, 1, none⟩ = some q ∧ W.cell? ⟨l, 2, none⟩ = some r ∧ l < W.heap.size ∧ Below w.heap.size w W) : Box3 W k x y z ∧ Box3 W l p q r ∧ Below w.heap.size w W :=
  ⟨⟨h.1, h.2.1, h.2.2.1, h.2.2.2.1⟩, ⟨h.2.2.2.2.1, h.2.2.2.2.2.1, h.2.2.2.2.2.2.1, h.2.2.2.2.2.2.2.1⟩, h.2.2.2.2.2.2.2.2⟩
set_option maxHeartbeats 3200000 in
theorem walkExactDoesFit (k a b u d o : Int) (w : World) (z0 : (Lit.int .i64 k).wf = true) (z1 : (Lit.int .i64 a).wf = true) (z2 : (Lit.int .i64 b).wf = true) (z3 : (Lit.int .i64 u).wf = true) (z4 : (Lit.int .i64 d).wf = true) (z5 : (Lit.int .i64 o).wf = true) :
    Calls Try.prog 4 #[chn k a b, chn u d o] w fun e w' => e = .returned (.bool true) ∧ Below w.heap.size w w' := by
  clear z0 z1 z2 z3 z4 z5
  have bl := Lib.hid (bel_alloc (bel_alloc (Below.refl _ w) (.cells #[.int .i64 k, .int .i64 a, .int .i64 b] 34)) (.cells #[.int .i64 u, .int .i64 d, .int .i64 o] 36))
  have b0 := Lib.hid ((Box3.new w (.int .i64 k) (.int .i64 a) (.int .i64 b) 34).keep (bel_alloc (Below.refl _ _) (.cells #[.int .i64 u, .int .i64 d, .int .i64 o] 36)))
  have b1 := Lib.hid (Box3.new (w.alloc (.cells #[.int .i64 k, .int .i64 a, .int .i64 b] 34)) (.int .i64 u) (.int .i64 d) (.int .i64 o) 36)
  have hz : (w.alloc (.cells #[.int .i64 k, .int .i64 a, .int .i64 b] 34)).heap.size = w.heap.size + 1 := (size1 _ _).symm
  rw [hz] at b1
  clear hz
  obtain ⟨x, y, hv⟩ := ansFit_form (k, a, b) (u, d, o)
  have hS := fun W => specFit_any k a b u d o W
  have hI := fun W => implFit_any k a b u d o W
  rw [hv] at hS hI
  clear hv
  go_enter Try.func4, Try.ntmps4
  go_wp2_with fail
  go_region_held3 (fun w' => w'.cell? ⟨w.heap.size, 0, none⟩ = some (.int .i64 k) ∧ w'.cell? ⟨w.heap.size, 1, none⟩ = some (.int .i64 a) ∧ w'.cell? ⟨w.heap.size, 2, none⟩ = some (.int .i64 b) ∧ w.heap.size < w'.heap.size ∧ w'.cell? ⟨w.heap.size + 1, 0, none⟩ = some (.int .i64 u) ∧ w'.cell? ⟨w.heap.size + 1, 1, none⟩ = some (.int .i64 d) ∧ w'.cell? ⟨w.heap.size + 1, 2, none⟩ = some (.int .i64 o) ∧ w.heap.size + 1 < w'.heap.size ∧ Below w.heap.size w w')
    (first | exact held33_start b0.out b1.out bl.out | exact held33_keep (by assumption) hb2 | exact held33_keep (by assumption) hb3 | exact held33_keep (by assumption) hb4 | assumption | go_keep)
    (first | (go_at_call 23; refine (toClue_any k a b _).mono ?_; rintro e w2 ⟨rfl, hb2⟩) | (go_at_call 24; refine (toChain_any u d o _).mono ?_; rintro e w3 ⟨rfl, hb3⟩) | (go_at_call 22; refine (hS _).mono ?_; rintro e w4 ⟨rfl, hb4⟩))
  all_goals
    obtain ⟨e0, e1, bl1⟩ := held33_get (by assumption)
    have E0 := Lib.hid e0
    have E1 := Lib.hid e1
    clear e0 e1
    go_wp2_with fail
    go_region_held3 (fun w' => w'.cell? ⟨w.heap.size, 0, none⟩ = some (.int .i64 k) ∧ w'.cell? ⟨w.heap.size, 1, none⟩ = some (.int .i64 a) ∧ w'.cell? ⟨w.heap.size, 2, none⟩ = some (.int .i64 b) ∧ w.heap.size < w'.heap.size ∧ w'.cell? ⟨w.heap.size + 1, 0, none⟩ = some (.int .i64 u) ∧ w'.cell? ⟨w.heap.size + 1, 1, none⟩ = some (.int .i64 d) ∧ w'.cell? ⟨w.heap.size + 1, 2, none⟩ = some (.int .i64 o) ∧ w.heap.size + 1 < w'.heap.size ∧ Below w.heap.size w w')
      (first | exact held33_start E0.out E1.out bl1 | exact held33_keep (by assumption) hb5 | exact held33_keep (by assumption) hb6 | exact held33_keep (by assumption) hb7 | assumption | go_keep)
      (first | (go_at_call 23; refine (toClue_any k a b _).mono ?_; rintro e w5 ⟨rfl, hb5⟩) | (go_at_call 24; refine (toChain_any u d o _).mono ?_; rintro e w6 ⟨rfl, hb6⟩) | (go_at_call 25; refine (hI _).mono ?_; rintro e w7 ⟨rfl, hb7⟩))
    all_goals
      obtain ⟨_, _, bl2⟩ := held33_get (by assumption)
      go_wp2_with fail
      go_ret
      exact ⟨rfl, bl2⟩
end Go.Proofs.Ytggflgmjncjmbaa
