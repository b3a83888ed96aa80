/- A clue more: contracts of the program and of its model. -/
import Derived.Test.YtggflgmjncjmbaaPzAc
namespace Go.Proofs.Ytggflgmjncjmbaa
set_option linter.unusedSimpArgs false
open Go.ChangeShapes Go.WideShapes Go.ChangeAt Go.RowKit
set_option linter.unusedVariables false

def adG (o : Int) (ts : List Tri) (k a b : Int) : Bool := pzG o (ts ++ [(k, a, b)])
def adL (o : Int) (ts : List Tri) (k a b : Int) : List Tri := if adG o ts k a b then ts ++ [(k, a, b)] else []
def adO (o : Int) (ts : List Tri) (k a b : Int) : Int := if adG o ts k a b then o else 0
theorem adL_no {o : Int} {ts : List Tri} {k a b : Int} (h : adG o ts k a b = false) : adL o ts k a b = [] ∧ adO o ts k a b = 0 := by unfold adL adO; rw [h]; exact ⟨rfl, rfl⟩
theorem adL_yes {o : Int} {ts : List Tri} {k a b : Int} (h : adG o ts k a b = true) : adL o ts k a b = ts ++ [(k, a, b)] ∧ adO o ts k a b = o := by unfold adL adO; rw [h]; exact ⟨rfl, rfl⟩
theorem adL_len (o : Int) (ts : List Tri) (k a b : Int) : (adL o ts k a b).length ≤ 1000 := by
  unfold adL
  split
  · rename_i h
    have := (pzG_in h).2.2.1
    omega
  · simp
theorem adG_eq (o : Int) (ts : List Tri) (k a b : Int) : adG o ts k a b = (pzG o ts && (clG (k, a, b) && !decide ((ts.length : Int) = 6))) := by
  have e : clsG (ts ++ [(k, a, b)]) = (clsG ts && clG (k, a, b)) := by
    unfold clsG
    rw [List.all_append]
    simp
  have el : decide ((ts ++ [(k, a, b)]).length ≤ 6) = (decide (ts.length ≤ 6) && !decide ((ts.length : Int) = 6)) := by
    rw [List.length_append, Bool.eq_iff_iff]
    simp
    omega
  unfold adG pzG
  rw [e, el]
  cases inB o 1 8 <;> cases decide (ts.length ≤ 6) <;> cases decide ((ts.length : Int) = 6) <;> cases clsG ts <;> cases clG (k, a, b) <;> rfl
set_option maxRecDepth 100000 in
set_option maxHeartbeats 6400000 in
theorem implAdd_any (o : Int) (ts : List Tri) (v : Value) (B : Nat) (k a b : Int) (w : World) (h : RdT w B v ts) (hB : B ≤ w.heap.size) (z : ts.length ≤ 1048576) :
    Calls Try.prog 50 #[pz o v, chn k a b] w (PzAns (adO o ts k a b) (adL o ts k a b) (adG o ts k a b) w) := by
  have H0 := Lib.hid h
  obtain ⟨A, cap, rfl, hl, hm⟩ := h.form
  have hR0 : RdT w B (.slice A ts.length ts.length) ts := by
    have := h.take (cap' := ts.length) (j := ts.length) (Nat.le_refl _) (Nat.le_refl _) (by omega)
    rwa [List.take_length] at this
  have HR0 := Lib.hid hR0
  clear h hR0
  have hU := fun W => upToP_any o A ts.length cap ts.length W hl
  generalize hn : ts.length = n at *
  have HN := Lib.hid hn
  clear hn
  have bl := bel_alloc (bel_alloc (bel_alloc (Below.refl _ w) (.cells #[.int .i64 o, .slice A n cap] 29)) (.cells #[.int .i64 k, .int .i64 a, .int .i64 b] 39)) (.cells #[.int .i64 0, .slice none 0 0] 29)
  have bc0 := Box3.new (w.alloc (.cells #[.int .i64 o, .slice A n cap] 29)) (.int .i64 k) (.int .i64 a) (.int .i64 b) 39
  have bc := Lib.hid (bc0.keep (bel_alloc (Below.refl _ _) (.cells #[.int .i64 0, .slice none 0 0] 29)))
  have bw := Lib.hid (BoxW.new ((w.alloc (.cells #[.int .i64 o, .slice A n cap] 29)).alloc (.cells #[.int .i64 k, .int .i64 a, .int .i64 b] 39)) (.int .i64 0) (.slice none 0 0) 29)
  clear bc0
  go_enter Try.func50, Try.ntmps50
  go_wp2_with fail
  refine (hU _).mono ?_
  rintro e w2 ⟨rfl, b2⟩
  have bl2 := bel_trans bl b2
  have bc2 := Lib.hid (show Box3 w2 (w.heap.size + 1) (.int .i64 k) (.int .i64 a) (.int .i64 b) from by simpa using bc.out.keep b2)
  have bw2 := Lib.hid (show BoxW w2 (w.heap.size + 1 + 1) (.int .i64 0) (.slice none 0 0) from by simpa using bw.out.keep b2)
  have bk := bel_alloc (Below.refl w2.heap.size w2) (.cells #[.int .i64 o, .slice A n n] 29)
  obtain ⟨e0, e1, e2, e3⟩ := bc2.out
  have bw3 := Lib.hid (bw2.out.keep bk)
  have bl3 := bel_alloc bl2 (.cells #[.int .i64 o, .slice A n n] 29)
  have hM := BoxW.new w2 (.int .i64 o) (.slice A n n) 29
  have hR3 := HR0.out.below bl3 hB
  have hz3 := bl3.size
  clear b2 bl bk
  go_wp2_with (at_builtin; refine wpList_fullT1 27 39 Try.underlying27 info_clue rfl (.tmp 13) (.tmp 15) rfl A n ts B hR3 (by omega) k a b (by first | (rw [size1]; done) | (rw [size1]; rfl) | (simp [go_sem]; done)) (by omega) rfl ?_)
  intro v5 w5 hI5 hb5
  obtain ⟨A5, cap5, rfl, hc5⟩ := hI5.formS
  have hM5 := Lib.hid (hM.keepB hb5 (by simp))
  have bw5 := Lib.hid (bw3.out.keepB hb5 (by have := bw2.out.1.2.2; simp; omega))
  have hI5' := Lib.hid hI5
  have bl5 := bl3.trans (hb5.mono (by omega))
  have hz5 := hM5.out.1.2.2
  generalize hn5 : (ts ++ [(k, a, b)]).length = n5 at *
  clear e0 e1 e2 e3 hM hR3 hI5 hb5 hn5
  obtain ⟨⟨d0, d1, d2⟩, d3, d4⟩ := hM5.out
  go_wp2_with fail
  have hk2 := bw2.out.1.2.2
  have hz2 := bl2.size
  have bl6 := bl5.setCell (p := ⟨w2.heap.size, 1, none⟩) (by dsimp only; omega) (.slice A5 n5 cap5)
  have hM6 := Lib.hid (hM5.out.set1 (.slice A5 n5 cap5))
  have bw6 := Lib.hid (bw5.out.grown (grown_one w5 w2.heap.size 1 (.slice A5 n5 cap5)) (by omega))
  have hI6 := Lib.hid (TRow.setOther (p := ⟨w2.heap.size, 1, none⟩) hI5'.out (by simp) (.slice A5 n5 cap5))
  generalize w5.setCell ⟨w2.heap.size, 1, none⟩ (.slice A5 n5 cap5) = w6 at *
  refine (implIsPz_any o _ _ _ w6 hI6.out.rd (Nat.le_refl _)).mono ?_
  rintro e w7 ⟨rfl, b7⟩
  have bl7 := bel_trans bl6 b7
  have hM7 := Lib.hid (hM6.out.keep b7)
  obtain ⟨⟨f0, f1, f2⟩, f3, f4⟩ := bw6.out.keep b7
  have hI7 := Lib.hid (hI6.out.below b7)
  clear d0 d1 d2 d3 d4 bl2 bl3 bl5 bl6 bc bc2 bw bw2 bw3 bw5 bw6 hM5 hM6 hI5' hI6 b7
  obtain ⟨⟨d0, d1, d2⟩, d3, d4⟩ := hM7.out
  cases hg : adG o ts k a b
  · obtain ⟨e1, e2⟩ := adL_no hg
    have E := Lib.hid (And.intro e1 (And.intro e2 hg))
    unfold adG at hg
    rw [hg]
    clear e1 e2
    go_wp2
    refine bodyPost_ret (v := .tuple #[pz 0 (.slice none 0 0), .bool false]) (by simp [results, Try.results50, go_sem, f0, f1, f2]) rfl ?_
    rw [E.out.1, E.out.2.1, E.out.2.2]
    exact ⟨_, rfl, TRow.nil _ _ _, (bl7.setCell (by dsimp only; omega) _).setCell (by dsimp only; omega) _⟩
  · obtain ⟨e1, e2⟩ := adL_yes hg
    have E := Lib.hid (And.intro e1 (And.intro e2 hg))
    unfold adG at hg
    rw [hg]
    clear e1 e2
    go_wp2
    refine bodyPost_ret (v := .tuple #[pz o (.slice A5 n5 cap5), .bool true]) (by simp [results, Try.results50, go_sem, f0, f1, f2]) rfl ?_
    rw [E.out.1, E.out.2.1, E.out.2.2]
    refine ⟨_, rfl, ?_, (bl7.setCell (by dsimp only; omega) _).setCell (by dsimp only; omega) _⟩
    refine (TRow.setOther ?_ (by first | (dsimp only; omega) | (simp; omega)) _).mono (b := w2.heap.size + 1) (by omega)
    refine TRow.setOther ?_ (by first | (dsimp only; omega) | (simp; omega)) _
    exact hI7.out
theorem Box3.drew1 {w : World} {k : Nat} {x y z : Value} (h : Box3 w k x y z) : Box3 w.drew k x y z := h
def BW (V : World) (R : Nat) : Prop := ∃ x y, BoxW V R x y
theorem h23_of {w V : World} {P C R : Nat} {x y a b c : Value} (hp : Box2 V P x y) (hc : Box3 V C a b c) (hr : BW V R) (hb : Below w.heap.size w V) :
    V.cell? ⟨P, 0, none⟩ = some x ∧ V.cell? ⟨P, 1, none⟩ = some y ∧ P < V.heap.size ∧ V.cell? ⟨C, 0, none⟩ = some a ∧ V.cell? ⟨C, 1, none⟩ = some b ∧ V.cell? ⟨C, 2, none⟩ = some c ∧ C < V.heap.size ∧ BW V R ∧ Below w.heap.size w V :=
  ⟨hp.1, hp.2.1, hp.2.2, hc.1, hc.2.1, hc.2.2.1, hc.2.2.2, hr, hb⟩
theorem h23_to {w V : World} {P C R : Nat} {x y a b c : Value} (h : V.cell? ⟨P, 0, none⟩ = some x ∧ V.cell? ⟨P, 1, none⟩ = some y ∧ P < V.heap.size ∧ V.cell? ⟨C, 0, none⟩ = some a ∧ V.cell? ⟨C, 1, none⟩ = some b ∧ V.cell? ⟨C, 2, none⟩ = some c ∧ C < V.heap.size ∧ BW V R ∧ Below w.heap.size w V) :
    Box2 V P x y ∧ Box3 V C a b c ∧ BW V R ∧ Below w.heap.size w V :=
  ⟨⟨h.1, h.2.1, h.2.2.1⟩, ⟨h.2.2.2.1, h.2.2.2.2.1, h.2.2.2.2.2.1, h.2.2.2.2.2.2.1⟩, h.2.2.2.2.2.2.2.1, h.2.2.2.2.2.2.2.2⟩
theorem h23_start {w V : World} {P C R : Nat} {x y a b c u v : Value} (hp : Box2 V P x y) (hc : Box3 V C a b c) (hr : BoxW V R u v) (hb : Below w.heap.size w V) : let V := V.drew
    V.cell? ⟨P, 0, none⟩ = some x ∧ V.cell? ⟨P, 1, none⟩ = some y ∧ P < V.heap.size ∧ V.cell? ⟨C, 0, none⟩ = some a ∧ V.cell? ⟨C, 1, none⟩ = some b ∧ V.cell? ⟨C, 2, none⟩ = some c ∧ C < V.heap.size ∧ BW V R ∧ Below w.heap.size w V :=
  h23_of hp hc ⟨u, v, hr⟩ hb.drew
theorem h23_keepB {w V V' : World} {P C R C0 : Nat} {x y a b c : Value} (h : V.cell? ⟨P, 0, none⟩ = some x ∧ V.cell? ⟨P, 1, none⟩ = some y ∧ P < V.heap.size ∧ V.cell? ⟨C, 0, none⟩ = some a ∧ V.cell? ⟨C, 1, none⟩ = some b ∧ V.cell? ⟨C, 2, none⟩ = some c ∧ C < V.heap.size ∧ BW V R ∧ Below w.heap.size w V)
    (hb : Below C0 V V') (h1 : P < C0) (h2 : C < C0) (h3 : R < C0) (h4 : w.heap.size ≤ C0) :
    V'.cell? ⟨P, 0, none⟩ = some x ∧ V'.cell? ⟨P, 1, none⟩ = some y ∧ P < V'.heap.size ∧ V'.cell? ⟨C, 0, none⟩ = some a ∧ V'.cell? ⟨C, 1, none⟩ = some b ∧ V'.cell? ⟨C, 2, none⟩ = some c ∧ C < V'.heap.size ∧ BW V' R ∧ Below w.heap.size w V' := by
  obtain ⟨hp, hc, ⟨u, v, hr⟩, hl⟩ := h23_to h
  refine h23_of (hp.keepB hb h1) ⟨(hb.cell (p := ⟨C, 0, none⟩) h2).trans hc.1, (hb.cell (p := ⟨C, 1, none⟩) h2).trans hc.2.1, (hb.cell (p := ⟨C, 2, none⟩) h2).trans hc.2.2.1, Nat.lt_of_lt_of_le hc.2.2.2 hb.size⟩ ⟨u, v, hr.keepB hb h3⟩ (hl.trans (hb.mono h4))
theorem h23_alloc {w V : World} {P C R : Nat} {x y a b c : Value} (h : V.cell? ⟨P, 0, none⟩ = some x ∧ V.cell? ⟨P, 1, none⟩ = some y ∧ P < V.heap.size ∧ V.cell? ⟨C, 0, none⟩ = some a ∧ V.cell? ⟨C, 1, none⟩ = some b ∧ V.cell? ⟨C, 2, none⟩ = some c ∧ C < V.heap.size ∧ BW V R ∧ Below w.heap.size w V) (ob : Obj) : let V' := V.alloc ob
    V'.cell? ⟨P, 0, none⟩ = some x ∧ V'.cell? ⟨P, 1, none⟩ = some y ∧ P < V'.heap.size ∧ V'.cell? ⟨C, 0, none⟩ = some a ∧ V'.cell? ⟨C, 1, none⟩ = some b ∧ V'.cell? ⟨C, 2, none⟩ = some c ∧ C < V'.heap.size ∧ BW V' R ∧ Below w.heap.size w V' := by
  obtain ⟨hp, hc, ⟨u, v, hr⟩, hl⟩ := h23_to h
  have hk := bel_alloc (Below.refl V.heap.size V) ob
  exact h23_of (hp.keep hk) (hc.keep hk) ⟨u, v, hr.keep hk⟩ (bel_alloc hl ob)
theorem h23_res {w V : World} {P C R : Nat} {x y a b c : Value} (h : V.cell? ⟨P, 0, none⟩ = some x ∧ V.cell? ⟨P, 1, none⟩ = some y ∧ P < V.heap.size ∧ V.cell? ⟨C, 0, none⟩ = some a ∧ V.cell? ⟨C, 1, none⟩ = some b ∧ V.cell? ⟨C, 2, none⟩ = some c ∧ C < V.heap.size ∧ BW V R ∧ Below w.heap.size w V)
    (h1 : P ≠ R) (h2 : C ≠ R) (h3 : w.heap.size ≤ R) (u v : Value) : let V' := (V.setCell ⟨R, 0, none⟩ u).setCell ⟨R, 1, none⟩ v
    V'.cell? ⟨P, 0, none⟩ = some x ∧ V'.cell? ⟨P, 1, none⟩ = some y ∧ P < V'.heap.size ∧ V'.cell? ⟨C, 0, none⟩ = some a ∧ V'.cell? ⟨C, 1, none⟩ = some b ∧ V'.cell? ⟨C, 2, none⟩ = some c ∧ C < V'.heap.size ∧ BW V' R ∧ Below w.heap.size w V' := by
  obtain ⟨hp, hc, ⟨p, q, hr⟩, hl⟩ := h23_to h
  refine h23_of ((hp.off R h1 0 u).off R h1 1 v) ?_ ⟨u, v, hr.set u v⟩ ((hl.setCell (p := ⟨R, 0, none⟩) h3 u).setCell (p := ⟨R, 1, none⟩) h3 v)
  obtain ⟨c0, c1, c2, c3⟩ := hc
  refine ⟨?_, ?_, ?_, ?_⟩
  all_goals simp [go_sem, c0, c1, c2, c3, h2]
theorem rdT_box3 {V : World} {g : Nat} {k a b : Int} (h : Box3 V g (.int .i64 k) (.int .i64 a) (.int .i64 b)) : RdT V (g + 1) (.slice (some ⟨g, 0, none⟩) 1 1) [(k, a, b)] := by
  refine ⟨_, 1, rfl, by simp, by simp [maxLen], fun _ => ⟨_, rfl, by simp, fun j hj => ?_⟩⟩
  obtain rfl : j = 0 := by simpa using hj
  exact ⟨h.1, h.2.1, h.2.2.1⟩
set_option maxRecDepth 100000 in
set_option maxHeartbeats 6400000 in
theorem specAdd_any (o : Int) (ts : List Tri) (v : Value) (B : Nat) (k a b : Int) (w : World) (h : RdT w B v ts) (hB : B ≤ w.heap.size) (z : ts.length ≤ 1048576) :
    Calls Try.prog 49 #[pz o v, chn k a b] w (PzAns (adO o ts k a b) (adL o ts k a b) (adG o ts k a b) w) := by
  have H0 := Lib.hid h
  obtain ⟨A, cap, rfl, hl, hm⟩ := h.form
  clear h
  have bl := bel_alloc (bel_alloc (bel_alloc (Below.refl _ w) (.cells #[.int .i64 o, .slice A ts.length cap] 29)) (.cells #[.int .i64 k, .int .i64 a, .int .i64 b] 39)) (.cells #[.int .i64 0, .slice none 0 0] 29)
  have bp := Lib.hid (((Box2.new w (.int .i64 o) (.slice A ts.length cap) 29).keep (bel_alloc (Below.refl _ _) (.cells #[.int .i64 k, .int .i64 a, .int .i64 b] 39))).keep (bel_alloc (Below.refl _ _) (.cells #[.int .i64 0, .slice none 0 0] 29)))
  have bc := Lib.hid ((Box3.new (w.alloc (.cells #[.int .i64 o, .slice A ts.length cap] 29)) (.int .i64 k) (.int .i64 a) (.int .i64 b) 39).keep (bel_alloc (Below.refl _ _) (.cells #[.int .i64 0, .slice none 0 0] 29)))
  have bw := Lib.hid (BoxW.new ((w.alloc (.cells #[.int .i64 o, .slice A ts.length cap] 29)).alloc (.cells #[.int .i64 k, .int .i64 a, .int .i64 b] 39)) (.int .i64 0) (.slice none 0 0) 29)
  have hG := fun W (hR : RdT W B (.slice A ts.length cap) ts) (hz : B ≤ W.heap.size) => pzGood_any o ts _ B W hR hz
  have hC := fun W => pzClue_any k a b W
  have hq := adG_eq o ts k a b
  cases hg : pzG o ts
  · rw [hg] at hG hq
    have hd : adG o ts k a b = false := hq
    obtain ⟨e1, e2⟩ := adL_no hd
    rw [e1, e2, hd]
    clear e1 e2 hq hd
    go_enter Try.func49, Try.ntmps49
    go_wp2_with fail
    refine (hG _ (H0.out.below bl hB) (by simp; omega)).mono ?_
    rintro e w9 ⟨rfl, b9⟩
    have bl9 := bel_trans bl b9
    obtain ⟨⟨f0, f1, f2⟩, f3, f4⟩ := show BoxW w9 (w.heap.size + 1 + 1) (.int .i64 0) (.slice none 0 0) from by simpa using bw.out.keep b9
    go_wp2
    refine bodyPost_ret (v := .tuple #[pz 0 (.slice none 0 0), .bool false]) (by simp [results, Try.results49, go_sem, f0, f1, f2]) rfl ⟨_, rfl, TRow.nil _ _ _, (bl9.setCell (by dsimp only; omega) _).setCell (by dsimp only; omega) _⟩
  · rw [hg] at hG hq
    cases hc : clG (k, a, b)
    · rw [hc] at hC hq
      have hd : adG o ts k a b = false := hq
      obtain ⟨e1, e2⟩ := adL_no hd
      rw [e1, e2, hd]
      clear e1 e2 hq hd
      go_enter Try.func49, Try.ntmps49
      go_wp2_with fail
      refine (hG _ (H0.out.below bl hB) (by simp; omega)).mono ?_
      rintro e w2 ⟨rfl, b2⟩
      have bl2 := bel_trans bl b2
      have bw2 := Lib.hid (show BoxW w2 (w.heap.size + 1 + 1) (.int .i64 0) (.slice none 0 0) from by simpa using bw.out.keep b2)
      obtain ⟨e0, e1, e2, e3⟩ := show Box3 w2 (w.heap.size + 1) (.int .i64 k) (.int .i64 a) (.int .i64 b) from by simpa using bc.out.keep b2
      go_wp2_with fail
      refine (hC _).mono ?_
      rintro e w9 ⟨rfl, b9⟩
      have bl9 := bel_trans bl2 b9
      obtain ⟨⟨f0, f1, f2⟩, f3, f4⟩ := bw2.out.keep b9
      clear e0 e1 e2
      go_wp2
      refine bodyPost_ret (v := .tuple #[pz 0 (.slice none 0 0), .bool false]) (by simp [results, Try.results49, go_sem, f0, f1, f2]) rfl ⟨_, rfl, TRow.nil _ _ _, (bl9.setCell (by dsimp only; omega) _).setCell (by dsimp only; omega) _⟩
    · rw [hc] at hC hq
      cases h6 : decide ((ts.length : Int) = 6)
      · rw [h6] at hq
        have hd : adG o ts k a b = true := hq
        obtain ⟨e1, e2⟩ := adL_yes hd
        rw [e1, e2, hd]
        clear e1 e2 hq hd
        have h6' : ¬ (ts.length : Int) = 6 := by simpa using h6
        have h6'' : ((ts.length : Int) == 6) = false := by simpa using h6
        have hlen := (pzG_in hg).2.2.1
        go_enter Try.func49, Try.ntmps49
        go_wp2_with fail
        refine (hG _ (H0.out.below bl hB) (by simp; omega)).mono ?_
        rintro e w2 ⟨rfl, b2⟩
        have bl2 := bel_trans bl b2
        have bw2 := Lib.hid (show BoxW w2 (w.heap.size + 1 + 1) (.int .i64 0) (.slice none 0 0) from by simpa using bw.out.keep b2)
        have bc2 := Lib.hid (show Box3 w2 (w.heap.size + 1) (.int .i64 k) (.int .i64 a) (.int .i64 b) from by simpa using bc.out.keep b2)
        have bp2 := Lib.hid (show Box2 w2 w.heap.size (.int .i64 o) (.slice A ts.length cap) from by simpa using bp.out.keep b2)
        obtain ⟨e0, e1, e2, e3⟩ := bc2.out
        go_wp2_with fail
        refine (hC _).mono ?_
        rintro e w9 ⟨rfl, b9⟩
        have bl9 := bel_trans bl2 b9
        have bw9 := Lib.hid (bw2.out.keep b9)
        have bc9 := Lib.hid (bc2.out.keep b9)
        have bp9 := Lib.hid (bp2.out.keep b9)
        clear e0 e1 e2
        obtain ⟨c0, c1, c2⟩ := bp9.out
        go_wp2_with fail
        have hk9 := bw9.out.1.2.2
        go_region_held3 (fun w' => w'.cell? ⟨w.heap.size, 0, none⟩ = some (.int .i64 o) ∧ w'.cell? ⟨w.heap.size, 1, none⟩ = some (.slice A ts.length cap) ∧ w.heap.size < w'.heap.size ∧ w'.cell? ⟨w.heap.size + 1, 0, none⟩ = some (.int .i64 k) ∧ w'.cell? ⟨w.heap.size + 1, 1, none⟩ = some (.int .i64 a) ∧ w'.cell? ⟨w.heap.size + 1, 2, none⟩ = some (.int .i64 b) ∧ w.heap.size + 1 < w'.heap.size ∧ BW w' (w.heap.size + 1 + 1) ∧ Below w.heap.size w w')
          (first | exact h23_start bp9.out bc9.out bw9.out bl9 | exact h23_keepB (by assumption) hb11 (by omega) (by omega) (by omega) (by omega) | exact h23_keepB (by assumption) hb8 (by omega) (by omega) (by omega) (by omega) | exact h23_alloc (by assumption) _ | exact h23_res (by assumption) (by omega) (by omega) (by omega) _ _ | assumption | go_keep)
          (first
            | (have _g := hI8; clear _g; first
              | (refine step_pushR 27 39 Try.underlying27 info_clue (by rfl) (.tmp 26) (.tmp 28) (by rfl) _ v8 ([] ++ ts) (by first | exact hI8 | exact hI8.drew1) [(k, a, b)] _ (some ⟨w9.heap.size, 0, none⟩) 1 1 (by rfl) (rdT_box3 hx8) (by simp; omega) (by have := hb8.size; simp at this ⊢; omega) (by rfl) ?_; intro v11 w11 hI11 hb11 hg11; obtain ⟨A11, cap11, rfl, hc11⟩ := hI11.formS; obtain ⟨p11, q11, ⟨d0, d1, d2⟩, d3, d4⟩ := (h23_to (w := w) (P := w.heap.size) (C := w.heap.size + 1) (R := w.heap.size + 1 + 1) (h23_keepB (by assumption) hb11 (by omega) (by omega) (by omega) (by omega))).2.2.1)
              | (refine step_pushR 27 39 Try.underlying27 info_clue (by rfl) (.tmp 26) (.tmp 28) (by rfl) _ v8 ([] ++ ts) (by first | exact hI8 | exact hI8.drew1) [(k, a, b)] _ (some ⟨w9.heap.size + 1, 0, none⟩) 1 1 (by rfl) (rdT_box3 hx8) (by simp; omega) (by have := hb8.size; simp at this ⊢; omega) (by rfl) ?_; intro v11 w11 hI11 hb11 hg11; obtain ⟨A11, cap11, rfl, hc11⟩ := hI11.formS; obtain ⟨p11, q11, ⟨d0, d1, d2⟩, d3, d4⟩ := (h23_to (w := w) (P := w.heap.size) (C := w.heap.size + 1) (R := w.heap.size + 1 + 1) (h23_keepB (by assumption) hb11 (by omega) (by omega) (by omega) (by omega))).2.2.1)
              | (refine step_pushR 27 39 Try.underlying27 info_clue (by rfl) (.tmp 26) (.tmp 28) (by rfl) _ v8 ([] ++ ts) (by first | exact hI8.below (bel_alloc (Below.refl _ _) _) | exact (hI8.below (bel_alloc (Below.refl _ _) _)).drew1) [(k, a, b)] _ (some ⟨w8.heap.size, 0, none⟩) 1 1 (by rfl) (rdT_box3 (Box3.new w8 _ _ _ _)) (by simp; omega) (by have := hb8.size; simp at this ⊢; omega) (by rfl) ?_; intro v11 w11 hI11 hb11 hg11; obtain ⟨A11, cap11, rfl, hc11⟩ := hI11.formS; obtain ⟨p11, q11, ⟨d0, d1, d2⟩, d3, d4⟩ := (h23_to (w := w) (P := w.heap.size) (C := w.heap.size + 1) (R := w.heap.size + 1 + 1) (h23_keepB (by assumption) hb11 (by omega) (by omega) (by omega) (by omega))).2.2.1))
            | (refine step_pushR 27 39 Try.underlying27 info_clue (by rfl) (.tmp 23) (.tmp 25) (by rfl) (w9.heap.size) (.slice (some ⟨w9.heap.size, 0, none⟩) 0 0) [] (by first | exact TRow.lit0 _ w9 | exact (TRow.lit0 _ w9).drew1 | exact TRow.lit0 _ w9.drew | exact (TRow.lit0 _ w9.drew).drew1 | exact (TRow.lit0 _ w9).below (bel_alloc (Below.refl _ _) _) | exact ((TRow.lit0 _ w9).below (bel_alloc (Below.refl _ _) _)).drew1 | exact (TRow.lit0 _ w9.drew).below (bel_alloc (Below.refl _ _) _) | exact ((TRow.lit0 _ w9.drew).below (bel_alloc (Below.refl _ _) _)).drew1) ts B A ts.length cap (by rfl) (H0.out.below (h23_to (by assumption)).2.2.2 hB) (by simp; omega) (by first | (simp; done) | (simp; omega)) (by rfl) ?_; intro v8 w8 hI8 hb8 hg8; (first | (have hx8 := ((show Box3 _ (w9.heap.size + 1) _ _ _ from by simpa using Box3.new (w9.alloc (.cells #[] 39)) (.int .i64 k) (.int .i64 a) (.int .i64 b) 39)).grownN hg8 (fun j hj => by simp [Value.ownBlock] at hj; omega)) | (have hx8 := ((show Box3 _ (w9.heap.size + 1) _ _ _ from by simpa using Box3.new (w9.alloc (.cells #[] 39)) (.int .i64 k) (.int .i64 a) (.int .i64 b) 39).drew1).grownN hg8 (fun j hj => by simp [Value.ownBlock] at hj; omega)) | (have hx8 := ((show Box3 _ (w9.heap.size + 1) _ _ _ from by simpa using Box3.new (w9.drew.alloc (.cells #[] 39)) (.int .i64 k) (.int .i64 a) (.int .i64 b) 39)).grownN hg8 (fun j hj => by simp [Value.ownBlock] at hj; omega)) | (have hx8 := ((show Box3 _ (w9.heap.size + 1) _ _ _ from by simpa using Box3.new (w9.drew.alloc (.cells #[] 39)) (.int .i64 k) (.int .i64 a) (.int .i64 b) 39).drew1).grownN hg8 (fun j hj => by simp [Value.ownBlock] at hj; omega)) | skip))
            | (refine step_pushR 27 39 Try.underlying27 info_clue (by rfl) (.tmp 23) (.tmp 25) (by rfl) (w9.heap.size + 1) (.slice (some ⟨w9.heap.size + 1, 0, none⟩) 0 0) [] (by first | (simpa using TRow.lit0 _ (w9.alloc (.cells #[.int .i64 k, .int .i64 a, .int .i64 b] 39))) | (simpa using (TRow.lit0 _ (w9.alloc (.cells #[.int .i64 k, .int .i64 a, .int .i64 b] 39))).drew1) | (simpa using TRow.lit0 _ (w9.drew.alloc (.cells #[.int .i64 k, .int .i64 a, .int .i64 b] 39))) | (simpa using (TRow.lit0 _ (w9.drew.alloc (.cells #[.int .i64 k, .int .i64 a, .int .i64 b] 39))).drew1)) ts B A ts.length cap (by rfl) (H0.out.below (h23_to (by assumption)).2.2.2 hB) (by simp; omega) (by first | (simp; done) | (simp; omega)) (by rfl) ?_; intro v8 w8 hI8 hb8 hg8; (first | (have hx8 := ((show Box3 _ w9.heap.size _ _ _ from (Box3.new w9 (.int .i64 k) (.int .i64 a) (.int .i64 b) 39).keep (bel_alloc (Below.refl _ _) (.cells #[] 39)))).grownN hg8 (fun j hj => by simp [Value.ownBlock] at hj; omega)) | (have hx8 := ((show Box3 _ w9.heap.size _ _ _ from (Box3.new w9 (.int .i64 k) (.int .i64 a) (.int .i64 b) 39).keep (bel_alloc (Below.refl _ _) (.cells #[] 39))).drew1).grownN hg8 (fun j hj => by simp [Value.ownBlock] at hj; omega)) | (have hx8 := ((show Box3 _ w9.heap.size _ _ _ from (Box3.new w9.drew (.int .i64 k) (.int .i64 a) (.int .i64 b) 39).keep (bel_alloc (Below.refl _ _) (.cells #[] 39)))).grownN hg8 (fun j hj => by simp [Value.ownBlock] at hj; omega)) | (have hx8 := ((show Box3 _ w9.heap.size _ _ _ from (Box3.new w9.drew (.int .i64 k) (.int .i64 a) (.int .i64 b) 39).keep (bel_alloc (Below.refl _ _) (.cells #[] 39))).drew1).grownN hg8 (fun j hj => by simp [Value.ownBlock] at hj; omega)) | skip)))
        all_goals
          have hbl9 := (h23_to (by assumption)).2.2.2
          go_wp2
          refine bodyPost_ret (v := .tuple #[pz o (.slice A11 (ts.length + 1) cap11), .bool true]) (by simp [results, Try.results49, go_sem, d0, d1, d2]) rfl ⟨_, rfl, ?_, hbl9⟩
          refine (TRow.setOther ?_ (by first | (dsimp only; omega) | (simp; omega)) _).mono (b := w9.heap.size) (by omega)
          refine TRow.setOther ?_ (by first | (dsimp only; omega) | (simp; omega)) _
          exact TRow.mono (by simpa using hI11) (by first | omega | (simp; done))
      · rw [h6] at hq
        have hd : adG o ts k a b = false := hq
        obtain ⟨e1, e2⟩ := adL_no hd
        rw [e1, e2, hd]
        clear e1 e2 hq hd
        have h6' : (ts.length : Int) = 6 := by simpa using h6
        have h6'' : ((ts.length : Int) == 6) = true := by simpa using h6
        go_enter Try.func49, Try.ntmps49
        go_wp2_with fail
        refine (hG _ (H0.out.below bl hB) (by simp; omega)).mono ?_
        rintro e w2 ⟨rfl, b2⟩
        have bl2 := bel_trans bl b2
        have bw2 := Lib.hid (show BoxW w2 (w.heap.size + 1 + 1) (.int .i64 0) (.slice none 0 0) from by simpa using bw.out.keep b2)
        have bc2 := Lib.hid (show Box3 w2 (w.heap.size + 1) (.int .i64 k) (.int .i64 a) (.int .i64 b) from by simpa using bc.out.keep b2)
        have bp2 := Lib.hid (show Box2 w2 w.heap.size (.int .i64 o) (.slice A ts.length cap) from by simpa using bp.out.keep b2)
        obtain ⟨e0, e1, e2, e3⟩ := bc2.out
        go_wp2_with fail
        refine (hC _).mono ?_
        rintro e w9 ⟨rfl, b9⟩
        have bl9 := bel_trans bl2 b9
        obtain ⟨⟨f0, f1, f2⟩, f3, f4⟩ := bw2.out.keep b9
        obtain ⟨c0, c1, c2⟩ := bp2.out.keep b9
        clear e0 e1 e2
        go_wp2
        refine bodyPost_ret (v := .tuple #[pz 0 (.slice none 0 0), .bool false]) (by simp [results, Try.results49, go_sem, f0, f1, f2]) rfl ⟨_, rfl, TRow.nil _ _ _, (bl9.setCell (by dsimp only; omega) _).setCell (by dsimp only; omega) _⟩
end Go.Proofs.Ytggflgmjncjmbaa
