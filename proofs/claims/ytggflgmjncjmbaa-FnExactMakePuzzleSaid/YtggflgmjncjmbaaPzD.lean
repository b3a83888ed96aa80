/- A clue taken out: contracts of the model and of DropClue. -/
import Derived.Test.YtggflgmjncjmbaaPzT
import Derived.Test.YtggflgmjncjmbaaPzK
namespace Go.Proofs.Ytggflgmjncjmbaa
set_option linter.unusedSimpArgs false
open Go.ChangeShapes Go.WideShapes Go.ChangeAt Go.RowKit
set_option linter.unusedVariables false

theorem TRow.lit0 (q : TypeId) (W : World) : TRow q (W.alloc (.cells #[] q)) W.heap.size (.slice (some ⟨W.heap.size, 0, none⟩) 0 0) [] :=
  World.ownsRow_lit W #[] 0 (Nat.le_refl _) (by simp [maxLen]) rfl
theorem TRow.drew1 {q : TypeId} {w : World} {base : Nat} {v : Value} {xs : List Tri} (h : TRow q w base v xs) : TRow q w.drew base v xs := h
set_option maxRecDepth 100000 in
set_option maxHeartbeats 6400000 in
theorem pzWithout_any (ts : List Tri) (v : Value) (B k : Nat) (w : World) (h : RdT w B v ts) (hB : B ≤ w.heap.size) (hk : k < ts.length) (hn : ts.length ≤ 6) :
    Calls Try.prog 73 #[v, .int .i64 k] w (TriOne 39 (ts.eraseIdx k) w) := by
  obtain ⟨A, cap, rfl, hl, hm⟩ := h.form
  obtain ⟨ad, rfl, hab, _⟩ := h.at_ (k := 0) (by omega)
  have HT := Lib.hid hm
  have hR0 := Lib.hid (show RdT w B (.slice (some ad) k cap) (ts.take k) from h.take (by omega) (by omega) hm)
  have hs1 := cut_to (some ad) ts.length cap k (by omega)
  obtain ⟨AT, nT, cT, hs2, hR1'⟩ := cut_read h hk
  have hR1 := Lib.hid hR1'
  have hk4 : IntKind.i64.wrap ((k : Int) + 1) = (k : Int) + 1 := IntWalk.i64_in _ (by omega)
  have hl1 : (ts.take k).length = k := by rw [List.length_take]; omega
  have hl2 : (ts.drop (k + 1)).length ≤ 6 := by rw [List.length_drop]; omega
  have HE := Lib.hid (ext_eraseIdx ts k)
  unfold maxLen at hm
  clear hm hR1' h
  generalize ts.take k = XS at *
  generalize ts.drop (k + 1) = YS at *
  go_enter Try.func73, Try.ntmps73
  go_wp2_with fail
  go_region_held3 (fun w' => Below w.heap.size w w')
    (first | exact (Below.refl _ _).drew | exact bel_alloc (by assumption) _ | exact Below.trans (by assumption) hb1 | exact Below.trans (by assumption) hb2 | assumption | go_keep)
    (first
      | (refine step_pushR 27 39 Try.underlying27 info_clue (by rfl) (.tmp 5) (.tmp 8) (by rfl) w.heap.size (.slice (some ⟨w.heap.size, 0, none⟩) 0 0) [] (by first | exact (TRow.lit0 _ w).drew1 | exact TRow.lit0 _ w.drew | exact TRow.lit0 _ w) XS B (some ad) k cap (by rfl) (hR0.out.below (by assumption) hB) (by simp; omega) (by simp) (by rfl) ?_; intro v1 w1 hI1 hb1 hg1)
      | (refine step_pushR 27 39 Try.underlying27 info_clue (by rfl) (.tmp 9) (.tmp 13) (by rfl) w.heap.size v1 ([] ++ XS) (by first | exact hI1 | exact hI1.drew1) YS B AT nT cT (by rfl) (hR1.out.below (by assumption) hB) (by simp; omega) (by exact Below.size (by assumption)) (by rfl) ?_; intro v2 w2 hI2 hb2 hg2))
  all_goals
    have hbE := (show Below w.heap.size w _ from by assumption)
    go_wp2
    go_ret
    refine ⟨_, rfl, ?_, hbE⟩
    rw [← HE.out]
    simpa using hI2

def drG (o : Int) (ts : List Tri) (k : Int) : Bool := pzG o ts && inB k 0 ((ts.length : Int) - 1)
def drL (o : Int) (ts : List Tri) (k : Int) : List Tri := if drG o ts k then ts.eraseIdx k.toNat else []
def drO (o : Int) (ts : List Tri) (k : Int) : Int := if drG o ts k then o else 0
theorem drG_yes {o : Int} {ts : List Tri} {k : Int} (h : drG o ts k = true) : pzG o ts = true ∧ inB k 0 ((ts.length : Int) - 1) = true ∧ ∃ n : Nat, k = n ∧ n < ts.length ∧ k.toNat = n := by
  unfold drG at h
  simp only [Bool.and_eq_true] at h
  obtain ⟨a, b⟩ := (inB_iff _ _ _).1 h.2
  exact ⟨h.1, h.2, k.toNat, by omega, by omega, rfl⟩
theorem drL_len (o : Int) (ts : List Tri) (k : Int) : (drL o ts k).length ≤ 1000 := by
  unfold drL
  split
  · rename_i h
    have := (pzG_in (drG_yes h).1).2.2.1
    have := List.length_eraseIdx_le ts k.toNat
    omega
  · simp
theorem drL_no {o : Int} {ts : List Tri} {k : Int} (h : drG o ts k = false) : drL o ts k = [] ∧ drO o ts k = 0 := by unfold drL drO; rw [h]; exact ⟨rfl, rfl⟩
theorem drL_yes {o : Int} {ts : List Tri} {k : Int} (h : drG o ts k = true) : drL o ts k = ts.eraseIdx k.toNat ∧ drO o ts k = o := by unfold drL drO; rw [h]; exact ⟨rfl, rfl⟩
set_option maxHeartbeats 1600000 in
theorem implDrop_any (o : Int) (ts : List Tri) (v : Value) (B : Nat) (k : Int) (w : World) (h : RdT w B v ts) (hB : B ≤ w.heap.size) :
    Calls Try.prog 47 #[pz o v, .int .i64 k] w (PzAns (drO o ts k) (drL o ts k) (drG o ts k) w) := by
  have bl := Lib.hid (bel_alloc (bel_alloc (Below.refl _ w) (.cells #[.int .i64 o, v] 29)) (.cells #[.int .i64 0, .slice none 0 0] 29))
  have bx := Lib.hid ((Box2.new w (.int .i64 o) v 29).keep (bel_alloc (Below.refl _ _) (.cells #[.int .i64 0, .slice none 0 0] 29)))
  have H := Lib.hid (h.below bl.out hB)
  obtain ⟨A, cap, rfl, hl, hm⟩ := h.form
  unfold maxLen at hm
  clear h
  cases hg : pzG o ts
  · have hd : drG o ts k = false := by unfold drG; rw [hg]; rfl
    obtain ⟨e1, e2⟩ := drL_no hd
    rw [e1, e2, hd]
    go_enter Try.func47, Try.ntmps47
    go_wp2_with fail
    refine (implIsPz_any o ts _ B _ H.out (by simp; omega)).mono ?_
    rintro e w2 ⟨rfl, b2⟩
    rw [hg]
    obtain ⟨hc, hf⟩ := bcell b2
    have hz : w.heap.size + 2 ≤ w2.heap.size := by have := b2.size; simp at this; omega
    have hb2 := bel_trans bl.out b2
    go_wp2
    refine bodyPost_ret (v := .tuple #[pz 0 (.slice none 0 0), .bool false]) (by simp [results, Try.results47, go_sem, hc, hz]) rfl ⟨_, rfl, TRow.nil _ _ _, ?_⟩
    repeat (first | exact hb2 | refine Below.setCell ?_ (by first | (dsimp only; omega) | simp) _)
  · obtain ⟨o1, o8, h6, hcl⟩ := pzG_in hg
    have hsub : IntKind.i64.wrap ((ts.length : Int) - 1) = (ts.length : Int) - 1 := IntWalk.i64_in _ (by omega)
    cases hi : inB k 0 ((ts.length : Int) - 1)
    · have hd : drG o ts k = false := by unfold drG; rw [hg, hi]; rfl
      obtain ⟨e1, e2⟩ := drL_no hd
      rw [e1, e2, hd]
      go_enter Try.func47, Try.ntmps47
      go_wp2_with fail
      refine (implIsPz_any o ts _ B _ H.out (by simp; omega)).mono ?_
      rintro e w2 ⟨rfl, b2⟩
      rw [hg]
      obtain ⟨hc, hf⟩ := bcell b2
      have hz : w.heap.size + 2 ≤ w2.heap.size := by have := b2.size; simp at this; omega
      have hb2 := bel_trans bl.out b2
      obtain ⟨c0, c1, ck⟩ := bx.out.keep b2
      go_wp2_with fail
      refine (upTo_any _ _ _).mono ?_
      rintro e w3 ⟨rfl, rfl⟩
      rw [hi]
      go_wp2
      refine bodyPost_ret (v := .tuple #[pz 0 (.slice none 0 0), .bool false]) (by simp [results, Try.results47, go_sem, hc, hz]) rfl ⟨_, rfl, TRow.nil _ _ _, ?_⟩
      repeat (first | exact hb2 | refine Below.setCell ?_ (by first | (dsimp only; omega) | simp) _)
    · have hd : drG o ts k = true := by unfold drG; rw [hg, hi]; rfl
      obtain ⟨e1, e2⟩ := drL_yes hd
      obtain ⟨_, _, n, rfl, hn, hnn⟩ := drG_yes hd
      rw [e1, e2, hd, hnn]
      clear e1 e2
      go_enter Try.func47, Try.ntmps47
      go_wp2_with fail
      refine (implIsPz_any o ts _ B _ H.out (by simp; omega)).mono ?_
      rintro e w2 ⟨rfl, b2⟩
      rw [hg]
      obtain ⟨hc, hf⟩ := bcell b2
      have hz : w.heap.size + 2 ≤ w2.heap.size := by have := b2.size; simp at this; omega
      have hb2 := bel_trans bl.out b2
      have H2 := Lib.hid (H.out.below b2 (by simp; omega))
      obtain ⟨c0, c1, ck⟩ := bx.out.keep b2
      go_wp2_with fail
      refine (upTo_any _ _ _).mono ?_
      rintro e w3 ⟨rfl, rfl⟩
      rw [hi]
      go_wp2_with fail
      refine (without_any o ts _ B n _ H2.out (by omega) hn h6).mono ?_
      rintro e w4 ⟨v4, rfl, r4, b4⟩
      obtain ⟨A4, cap4, rfl, _, _⟩ := r4.rd.form
      have R4 := Lib.hid r4
      clear r4
      obtain ⟨hc4, hf4⟩ := bcell b4
      have hz4 := b4.size
      have hb4 := bel_trans hb2 b4
      have hz2 : w.heap.size + 1 < w2.heap.size := by omega
      go_wp2
      refine bodyPost_ret (v := .tuple #[pz o (.slice A4 (ts.eraseIdx n).length cap4), .bool true]) (by simp [results, Try.results47, go_sem, hc, hz, hc4, hz2]) rfl ⟨_, rfl, ?_, ?_⟩
      · refine (TRow.setOther ?_ (by dsimp only; omega) _).mono (b := w2.heap.size) (by omega)
        refine TRow.setOther ?_ (by dsimp only; omega) _
        exact R4.out
      · repeat (first | exact hb4 | refine Below.setCell ?_ (by first | (dsimp only; omega) | simp) _)
set_option maxHeartbeats 3200000 in
theorem specDrop_any (o : Int) (ts : List Tri) (v : Value) (B : Nat) (k : Int) (w : World) (h : RdT w B v ts) (hB : B ≤ w.heap.size) :
    Calls Try.prog 46 #[pz o v, .int .i64 k] w (PzAns (drO o ts k) (drL o ts k) (drG o ts k) w) := by
  have bl := Lib.hid (bel_alloc (bel_alloc (Below.refl _ w) (.cells #[.int .i64 o, v] 29)) (.cells #[.int .i64 0, .slice none 0 0] 29))
  have bx := Lib.hid ((Box2.new w (.int .i64 o) v 29).keep (bel_alloc (Below.refl _ _) (.cells #[.int .i64 0, .slice none 0 0] 29)))
  have hbw0 := Lib.hid (BoxW.new (w.alloc (.cells #[.int .i64 o, v] 29)) (.int .i64 0) (.slice none 0 0) 29)
  have H := Lib.hid (h.below bl.out hB)
  have H0 := Lib.hid h
  obtain ⟨A, cap, rfl, hl, hm⟩ := h.form
  unfold maxLen at hm
  clear h
  cases hg : pzG o ts
  · have hd : drG o ts k = false := by unfold drG; rw [hg]; rfl
    obtain ⟨e1, e2⟩ := drL_no hd
    rw [e1, e2, hd]
    go_enter Try.func46, Try.ntmps46
    go_wp2_with fail
    refine (pzGood_any o ts _ B _ H.out (by simp; omega)).mono ?_
    rintro e w2 ⟨rfl, b2⟩
    rw [hg]
    obtain ⟨hc, hf⟩ := bcell b2
    have hz : w.heap.size + 2 ≤ w2.heap.size := by have := b2.size; simp at this; omega
    have hb2 := bel_trans bl.out b2
    go_wp2
    refine bodyPost_ret (v := .tuple #[pz 0 (.slice none 0 0), .bool false]) (by simp [results, Try.results46, go_sem, hc, hz]) rfl ⟨_, rfl, TRow.nil _ _ _, ?_⟩
    repeat (first | exact hb2 | refine Below.setCell ?_ (by first | (dsimp only; omega) | simp) _)
  · obtain ⟨o1, o8, h6, hcl⟩ := pzG_in hg
    have hsub : IntKind.i64.wrap ((ts.length : Int) - 1) = (ts.length : Int) - 1 := IntWalk.i64_in _ (by omega)
    cases hi : inB k 0 ((ts.length : Int) - 1)
    · have hd : drG o ts k = false := by unfold drG; rw [hg, hi]; rfl
      obtain ⟨e1, e2⟩ := drL_no hd
      rw [e1, e2, hd]
      go_enter Try.func46, Try.ntmps46
      go_wp2_with fail
      refine (pzGood_any o ts _ B _ H.out (by simp; omega)).mono ?_
      rintro e w2 ⟨rfl, b2⟩
      rw [hg]
      obtain ⟨hc, hf⟩ := bcell b2
      have hz : w.heap.size + 2 ≤ w2.heap.size := by have := b2.size; simp at this; omega
      have hb2 := bel_trans bl.out b2
      obtain ⟨c0, c1, ck⟩ := bx.out.keep b2
      go_wp2_with fail
      refine (l1In_any _ _ _ _).mono ?_
      rintro e w3 ⟨rfl, rfl⟩
      rw [hi]
      go_wp2
      refine bodyPost_ret (v := .tuple #[pz 0 (.slice none 0 0), .bool false]) (by simp [results, Try.results46, go_sem, hc, hz]) rfl ⟨_, rfl, TRow.nil _ _ _, ?_⟩
      repeat (first | exact hb2 | refine Below.setCell ?_ (by first | (dsimp only; omega) | simp) _)
    · have hd : drG o ts k = true := by unfold drG; rw [hg, hi]; rfl
      obtain ⟨e1, e2⟩ := drL_yes hd
      obtain ⟨_, _, n, rfl, hn, hnn⟩ := drG_yes hd
      rw [e1, e2, hd, hnn]
      clear e1 e2
      go_enter Try.func46, Try.ntmps46
      go_wp2_with fail
      refine (pzGood_any o ts _ B _ H.out (by simp; omega)).mono ?_
      rintro e w2 ⟨rfl, b2⟩
      rw [hg]
      have hz : w.heap.size + 2 ≤ w2.heap.size := by have := b2.size; simp at this; omega
      have hb2 := bel_trans bl.out b2
      have H2 := Lib.hid (H.out.below b2 (by simp; omega))
      have bx2 := Lib.hid (bx.out.keep b2)
      have bw2 := Lib.hid (show BoxW w2 (w.heap.size + 1) (.int .i64 0) (.slice none 0 0) from by simpa using hbw0.out.keep b2)
      obtain ⟨c0, c1, ck⟩ := bx2.out
      go_wp2_with fail
      refine (l1In_any _ _ _ _).mono ?_
      rintro e w3 ⟨rfl, rfl⟩
      rw [hi]
      clear c0 c1 ck
      have hcall : ∀ W : World, Below w.heap.size w W → Calls Try.prog 73 #[.slice A ts.length cap, .int .i64 n] W (TriOne 39 (ts.eraseIdx n) W) := fun W hb => pzWithout_any ts _ B n W (H0.out.below hb hB) (by have := hb.size; omega) hn h6
      go_wp2_with fail
      go_region_held3 (fun w' => w'.cell? ⟨w.heap.size, 0, none⟩ = some (.int .i64 o) ∧ w'.cell? ⟨w.heap.size, 1, none⟩ = some (.slice A ts.length cap) ∧ w.heap.size < w'.heap.size ∧ Below w.heap.size w w')
        (first | exact held2_start bx2.out hb2 | exact held2_keep (by assumption) hb5 | exact held2_res (by assumption) _ (by simp) _ _ | assumption | go_keep)
        (first | (go_at_call 73; refine (hcall _ (held2_below (by assumption)).2).mono ?_; rintro e w5 ⟨v5, rfl, r5, hb5⟩; obtain ⟨A5, cap5, rfl, _, _⟩ := r5.rd.form; have R5 := Lib.hid (TRow.mono (b' := w2.heap.size) r5 (by simp)); clear r5; have hbw5 : BoxW w5 (w.heap.size + 1) (.int .i64 0) (.slice none 0 0) := bw2.out.keep (bel_undrew hb5); obtain ⟨⟨d0, d1, d2⟩, d3, d4⟩ := hbw5))
      all_goals
        obtain ⟨hbx9, hbl9⟩ := held2_below (by assumption)
        clear hbx9
        go_wp2
        refine bodyPost_ret (v := .tuple #[pz o (.slice A5 (ts.eraseIdx n).length cap5), .bool true]) (by simp [results, Try.results46, go_sem, d0, d1, d2]) rfl ⟨_, rfl, ?_, hbl9⟩
        refine (TRow.setOther ?_ (by dsimp only; omega) _).mono (b := w2.heap.size) (by omega)
        refine TRow.setOther ?_ (by dsimp only; omega) _
        exact R5.out
end Go.Proofs.Ytggflgmjncjmbaa
