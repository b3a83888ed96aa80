/- ParsePuzzle: the model's contract. -/
import Derived.Test.YthmdkbeccohjkaaDoorPpI
import Derived.Test.YthmdkbeccohjkaaDoorRdC
namespace Go.Proofs.YthmdkbeccohjkaaDoor
open Go.ChangeShapes Go.WideShapes Go.ChangeAt Go.RowKit
set_option linter.unusedVariables false
set_option linter.unusedSimpArgs false

/-- What the model's reading answers. -/
def MzAns (s : ByteArray) (w : World) (e : Ending) (w' : World) : Prop :=
  ∃ (o : Int) (ts : List Tri) (v : Value), e = .returned (.tuple #[pz o v, .bool (okY s)]) ∧ TRow 83 w' w.heap.size v ts ∧ (okY s = true → o = oM s.data.toList ∧ ts = tsM s.data.toList) ∧ Below w.heap.size w w'
theorem prtL_pos (l : List UInt8) (b : UInt8) : 0 < (prtL l b).length := by unfold prtL; simp
theorem splL_part (l : List UInt8) (b : UInt8) : ∀ k, ∀ z ∈ splL l b k, z.length ≤ k
  | 0, z, h => by simp [splL] at h
  | k + 1, z, h => by
    rw [splL_succ] at h
    split at h
    · rw [List.mem_append] at h
      rcases h with h | h
      · have := splL_part l b k z h
        omega
      · rw [List.mem_singleton] at h
        rw [h]
        simp
        omega
    · have := splL_part l b k z h
      omega
theorem prtL_part {l : List UInt8} {b : UInt8} {z : List UInt8} (h : z ∈ prtL l b) : z.length ≤ l.length := by
  unfold prtL at h
  rw [List.mem_append] at h
  rcases h with h | h
  · exact splL_part l b _ z h
  · rw [List.mem_singleton] at h
    rw [h]
    simp
theorem prtL_len (l : List UInt8) (b : UInt8) : (prtL l b).length ≤ l.length + 1 := by
  have := splL_len l b l.length
  unfold prtL
  simp
  omega
theorem okY_no1 {s : ByteArray} (h : ¬ s.size ≤ 100) : okY s = false := by unfold okY preM; simp [h]
theorem okY_no2 {s : ByteArray} (h : ¬ (prtL s.data.toList 58).length = 2) : okY s = false := by unfold okY preM; simp [h]
theorem okY_no3 {s : ByteArray} (h : threeM s.data.toList = false) : okY s = false := by unfold okY; rw [h]; simp
theorem okY_yes {s : ByteArray} (h1 : s.size ≤ 100) (h2 : (prtL s.data.toList 58).length = 2) (h3 : threeM s.data.toList = true) : okY s = okW s := by unfold okY preM; simp [h1, h2, h3]

/-- Texts lie in the cells of a block. -/
def RdC (W : World) (g : Nat) (cs : List (List UInt8)) : Prop := ∀ j, (h : j < cs.length) → W.cell? ⟨g, j, none⟩ = some (.string (baL cs[j]))
theorem RdC.of {W : World} {b g n cap : Nat} {cs : List (List UInt8)} (h : SRow W b (.slice (some ⟨g, 0, none⟩) n cap) (cs.map baL)) (hn : n = cs.length) : RdC W g cs := by
  subst hn
  intro j hj
  have hl : (cs.map baL).length = cs.length := List.length_map _
  have h2 : SRow W b (.slice (some ⟨g, 0, none⟩) (cs.map baL).length cap) (cs.map baL) := by rw [hl]; exact h
  have := h2.at_ j (by rw [hl]; exact hj)
  rw [this, List.getD_eq_getElem?_getD, List.getElem?_eq_getElem (by rw [hl]; exact hj)]
  simp
theorem cell_ltC {w : World} {b o : Nat} {v : Value} (h : w.cell? ⟨b, o, none⟩ = some v) : b < w.heap.size := by
  rcases Nat.lt_or_ge b w.heap.size with hlt | hge
  · exact hlt
  · exfalso
    have : w.heap[b]? = none := Array.getElem?_eq_none hge
    simp [World.cell?, this] at h
theorem RdC.below {W W' : World} {g : Nat} {cs : List (List UInt8)} (h : RdC W g cs) (hb : Below W.heap.size W W') : RdC W' g cs := fun j hj =>
  (hb.cell (p := ⟨g, j, none⟩) (cell_ltC (h j hj))).trans (h j hj)
/-- A round's worlds: a clue is laid, appended and stored. -/
theorem rnd_step2 {w w5 W w6 w11 : World} {G g2 : Nat} {o : Int} {y v11 : Value} {ts : List Tri} {cs : List (List UInt8)} {y0 y1 y2 : Int} (h1 : w.heap.size < G) (h5 : G < w5.heap.size) (h2 : g2 < w5.heap.size) (hne : g2 ≠ G) (hz : w5.heap.size ≤ W.heap.size)
    (hR : TRow 83 W w5.heap.size y ts) (hG : BoxW W G (.int .i64 o) y) (hA : BoxW W w.heap.size (.int .i64 0) (.slice none 0 0)) (hB : Below w.heap.size w W) (hC : RdC W g2 cs) (h6 : Below W.heap.size W w6)
    (hI : TRow 83 w11 w5.heap.size v11 (ts ++ [(y0, y1, y2)])) (hg : (w6.alloc (.cells #[.int .i64 y0, .int .i64 y1, .int .i64 y2] 83)).grownBy w11 y.ownBlock) :
    RndI w w5 G o (ts ++ [(y0, y1, y2)]) (w11.setCell ⟨G, 1, none⟩ v11) ∧ RdC (w11.setCell ⟨G, 1, none⟩ v11) g2 cs := by
  have hs6 := h6.size
  have k7 := bel_alloc h6 (.cells #[.int .i64 y0, .int .i64 y1, .int .i64 y2] 83)
  generalize w6.alloc (.cells #[.int .i64 y0, .int .i64 y1, .int .i64 y2] 83) = w7 at *
  have hR7 := hR.below k7
  have hG7 := boxW_grownT (hG.keep k7) hg hR7 h5
  have hA7 := boxW_grownT (hA.keep k7) hg hR7 (by omega)
  have hs7 := k7.size
  refine ⟨⟨⟨v11, TRow.setOther hI (by exact h5) _, ?_⟩, ?_, ?_, ?_⟩, ?_⟩
  · obtain ⟨⟨a0, a1, a2⟩, a3, a4⟩ := hG7
    refine ⟨⟨?_, ?_, ?_⟩, ?_, ?_⟩
    all_goals simp [go_sem, a0, a1, a2, a3, a4]
  · obtain ⟨⟨a0, a1, a2⟩, a3, a4⟩ := hA7
    have hne : ¬ G = w.heap.size := by omega
    refine ⟨⟨?_, ?_, ?_⟩, ?_, ?_⟩
    all_goals simp [go_sem, a0, a1, a2, a3, a4, hne]
  · refine Below.setCell ?_ (by show w.heap.size ≤ G; omega) _
    exact (bel_trans hB k7).grown hg (Nat.le_trans hB.size hs7) fun k e => by have := (hR7.own_cells k e).1; omega
  · have := hg.size
    rw [World.size_setCell]
    omega
  · intro j hj
    rw [World.cell?_setCell_other _ _ _ _ (fun e => by have := congrArg Addr.block e; dsimp only at this; omega)]
    have hb := hg.block g2 (Nat.lt_of_lt_of_le h2 (by omega)) (fun e => by have := (hR7.own_cells g2 e.symm).1; omega)
    have := (hC.below k7) j hj
    rw [← this]
    unfold World.cell?
    dsimp only
    rw [hb]

theorem s3_start {V : World} {g : Nat} {a b c : Value} (h : V.cell? ⟨g, 0, none⟩ = some a ∧ V.cell? ⟨g, 1, none⟩ = some b ∧ V.cell? ⟨g, 2, none⟩ = some c) : V.drew.cell? ⟨g, 0, none⟩ = some a ∧ V.drew.cell? ⟨g, 1, none⟩ = some b ∧ V.drew.cell? ⟨g, 2, none⟩ = some c := h
theorem s3_alloc {V : World} {g : Nat} {a b c : Value} (h : V.cell? ⟨g, 0, none⟩ = some a ∧ V.cell? ⟨g, 1, none⟩ = some b ∧ V.cell? ⟨g, 2, none⟩ = some c) (ob : Obj) : (V.alloc ob).cell? ⟨g, 0, none⟩ = some a ∧ (V.alloc ob).cell? ⟨g, 1, none⟩ = some b ∧ (V.alloc ob).cell? ⟨g, 2, none⟩ = some c := by
  have hb := bel_alloc (Below.refl V.heap.size V) ob
  have hl := cell_ltC h.1
  exact ⟨(hb.cell (p := ⟨g, 0, none⟩) hl).trans h.1, (hb.cell (p := ⟨g, 1, none⟩) hl).trans h.2.1, (hb.cell (p := ⟨g, 2, none⟩) hl).trans h.2.2⟩
theorem s3_own {V V' : World} {g : Nat} {a b c y : Value} (h : V.cell? ⟨g, 0, none⟩ = some a ∧ V.cell? ⟨g, 1, none⟩ = some b ∧ V.cell? ⟨g, 2, none⟩ = some c) (hg : V.grownBy V' y.ownBlock) (hn : ∀ r, y.ownBlock = some r → r ≠ g) : V'.cell? ⟨g, 0, none⟩ = some a ∧ V'.cell? ⟨g, 1, none⟩ = some b ∧ V'.cell? ⟨g, 2, none⟩ = some c := by
  have hb := hg.block g (cell_ltC h.1) (fun e => hn g e.symm rfl)
  obtain ⟨h0, h1, h2⟩ := h
  refine ⟨?_, ?_, ?_⟩
  · rw [← h0]; unfold World.cell?; dsimp only; rw [hb]
  · rw [← h1]; unfold World.cell?; dsimp only; rw [hb]
  · rw [← h2]; unfold World.cell?; dsimp only; rw [hb]
theorem s3_set {V : World} {g G : Nat} {a b c : Value} (h : V.cell? ⟨g, 0, none⟩ = some a ∧ V.cell? ⟨g, 1, none⟩ = some b ∧ V.cell? ⟨g, 2, none⟩ = some c) (hG : G ≠ g) (v : Value) : (V.setCell ⟨G, 1, none⟩ v).cell? ⟨g, 0, none⟩ = some a ∧ (V.setCell ⟨G, 1, none⟩ v).cell? ⟨g, 1, none⟩ = some b ∧ (V.setCell ⟨G, 1, none⟩ v).cell? ⟨g, 2, none⟩ = some c :=
  ⟨(World.cell?_setCell_far _ ⟨G, 1, none⟩ ⟨g, 0, none⟩ _ hG).trans h.1, (World.cell?_setCell_far _ ⟨G, 1, none⟩ ⟨g, 1, none⟩ _ hG).trans h.2.1, (World.cell?_setCell_far _ ⟨G, 1, none⟩ ⟨g, 2, none⟩ _ hG).trans h.2.2⟩

def BWx (V : World) (R : Nat) : Prop := ∃ x y, BoxW V R x y
section
variable {w V V' : World} {G A base : Nat} {o : Int} {v : Value} {ts : List Tri}
abbrev T14 (w V : World) (G A base : Nat) (o : Int) (v : Value) (ts : List Tri) : Prop := V.cell? ⟨G, 0, none⟩ = some (.int .i64 o) ∧ V.cell? ⟨G, 1, none⟩ = some v ∧ G < V.heap.size ∧ TRow 83 V base v ts ∧ BWx V A ∧ Below w.heap.size w V
theorem t14_of {x y : Value} (hG : BoxW V G (.int .i64 o) v) (hR : TRow 83 V base v ts) (hA : BoxW V A x y) (hB : Below w.heap.size w V) : T14 w V G A base o v ts :=
  ⟨hG.1.1, hG.1.2.1, hG.1.2.2, hR, ⟨x, y, hA⟩, hB⟩
theorem t14_drew (h : T14 w V G A base o v ts) : T14 w V.drew G A base o v ts := ⟨h.1, h.2.1, h.2.2.1, h.2.2.2.1, h.2.2.2.2.1, h.2.2.2.2.2.drew⟩
theorem t14_rd (h : T14 w V G A base o v ts) : RdT V V.heap.size v ts := h.2.2.2.1.rd
theorem t14_bw (h : T14 w V G A base o v ts) : BWx V A := h.2.2.2.2.1
theorem t14_keep (h : T14 w V G A base o v ts) (hb : Below V.heap.size V V') : T14 w V' G A base o v ts := by
  obtain ⟨h0, h1, h2, h3, ⟨x, y, h4⟩, h5⟩ := h
  exact ⟨(hb.cell (p := ⟨G, 0, none⟩) h2).trans h0, (hb.cell (p := ⟨G, 1, none⟩) h2).trans h1, Nat.lt_of_lt_of_le h2 hb.size, h3.below hb, ⟨x, y, h4.keep hb⟩, bel_trans h5 hb⟩
theorem t14_store (h : T14 w V G w.heap.size base o v ts) (h1 : w.heap.size ≠ G) (h2 : w.heap.size < base) (a b : Value) : T14 w ((V.setCell ⟨w.heap.size, 0, none⟩ a).setCell ⟨w.heap.size, 1, none⟩ b) G w.heap.size base o v ts := by
  obtain ⟨g0, g1, g2, h3, ⟨x, y, h4⟩, h5⟩ := h
  refine ⟨?_, ?_, ?_, (h3.setOther (p := ⟨w.heap.size, 0, none⟩) h2 a).setOther (p := ⟨w.heap.size, 1, none⟩) h2 b, ⟨a, b, h4.set a b⟩, bel_set h5 (Nat.le_refl _) a b⟩
  · exact (World.cell?_setCell_far _ ⟨w.heap.size, 1, none⟩ ⟨G, 0, none⟩ _ h1).trans ((World.cell?_setCell_far _ ⟨w.heap.size, 0, none⟩ ⟨G, 0, none⟩ _ h1).trans g0)
  · exact (World.cell?_setCell_far _ ⟨w.heap.size, 1, none⟩ ⟨G, 1, none⟩ _ h1).trans ((World.cell?_setCell_far _ ⟨w.heap.size, 0, none⟩ ⟨G, 1, none⟩ _ h1).trans g1)
  · rw [World.size_setCell, World.size_setCell]; exact g2
theorem t14_end (h : T14 w V G w.heap.size base o v ts) (h1 : w.heap.size ≠ G) (h2 : w.heap.size < base) (a b : Value) : BoxW ((V.setCell ⟨w.heap.size, 0, none⟩ a).setCell ⟨w.heap.size, 1, none⟩ b) w.heap.size a b ∧ TRow 83 ((V.setCell ⟨w.heap.size, 0, none⟩ a).setCell ⟨w.heap.size, 1, none⟩ b) w.heap.size v ts ∧ Below w.heap.size w ((V.setCell ⟨w.heap.size, 0, none⟩ a).setCell ⟨w.heap.size, 1, none⟩ b) := by
  have hs := t14_store h h1 h2 a b
  obtain ⟨g0, g1, g2, h3, ⟨x, y, h4⟩, h5⟩ := h
  exact ⟨h4.set a b, hs.2.2.2.1.mono (Nat.le_of_lt h2), hs.2.2.2.2.2⟩
end

set_option maxRecDepth 100000 in
set_option maxHeartbeats 6400000 in
theorem pzParse_any (s : ByteArray) (w : World) (hs : s.size ≤ 1048576) :
    Calls Tryd.prog 63 #[.string s] w (MzAns s w) := by
  have bl0 := bel_alloc (Below.refl _ w) (.cells #[.int .i64 0, .slice none 0 0] 48)
  have bx0 := Lib.hid (BoxW.new w (.int .i64 0) (.slice none 0 0) 48)
  go_enter Tryd.func63, Tryd.ntmps63
  go_wp2_with fail
  refine (l1Split_any s 58 _ hs).mono ?_
  rintro e w1 ⟨v1, rfl, hr1, hb1⟩
  have bx1 := Lib.hid (bx0.out.keep hb1)
  have bl1 := Lib.hid (bel_trans bl0 hb1)
  have HR1 := Lib.hid hr1
  have hlen1 : ((prtL s.data.toList 58).map baL).length = (prtL s.data.toList 58).length := List.length_map _
  have hpos1 := prtL_pos s.data.toList 58
  clear hb1 bl0
  rcases hr1.form with ⟨e0, _⟩ | ⟨_, g1, cap1, rfl, hg1, hg2, hc1, hc2⟩
  · exfalso
    have := congrArg List.length e0
    rw [hlen1] at this
    simp only [List.length_nil] at this
    omega
  rw [hlen1] at hr1 HR1 hc1 ⊢
  by_cases z1 : s.size ≤ 100
  · have z1' : ¬ 100 < (s.size : Int) := by omega
    by_cases z2 : (prtL s.data.toList 58).length = 2
    · obtain ⟨x, y, hxy⟩ : ∃ x y, prtL s.data.toList 58 = [x, y] := by
        match hm : prtL s.data.toList 58 with
        | [] => rw [hm] at z2; cases z2
        | [a] => rw [hm] at z2; cases z2
        | [a, b] => exact ⟨a, b, rfl⟩
        | a :: b :: c :: r => rw [hm] at z2; simp at z2
      have hM : Hid (okY s = (threeM s.data.toList && okW s)) := Lib.hid (by unfold okY preM; simp [z1, z2])
      have hyl : y.length ≤ 100 := by
        have := prtL_part (l := s.data.toList) (b := 58) (z := y) (by rw [hxy]; simp)
        rw [len_list] at this
        omega
      have hxl : x.length ≤ 100 := by
        have := prtL_part (l := s.data.toList) (b := 58) (z := x) (by rw [hxy]; simp)
        rw [len_list] at this
        omega
      have hoM : Hid (oM s.data.toList = rdN x) := Lib.hid (by unfold oM; rw [hxy]; rfl)
      have hr2 : Hid (rest2 s.data.toList = y) := Lib.hid (by unfold rest2; rw [hxy]; rfl)
      have hC1 : RdC w1 g1 [x, y] := RdC.of (by rw [← hxy]; exact HR1.out) (by rw [z2]; rfl)
      have hc0 : w1.cell? ⟨g1, 0, none⟩ = some (.string (baL x)) := hC1 0 (by simp)
      have hc1' : w1.cell? ⟨g1, 1, none⟩ = some (.string (baL y)) := hC1 1 (by simp)
      have z2' : (((prtL s.data.toList 58).length : Nat) : Int) = 2 := by omega
      rw [z2] at *
      obtain ⟨o, ho⟩ : ∃ o, rdN x = o := ⟨_, rfl⟩
      have hoR : Hid (∀ W, Calls Tryd.prog 80 #[.string (baL x)] W fun e w' => e = .returned (.int .i64 o) ∧ W = w') := Lib.hid fun W => by
        have := l1Read_any (baL x) W (by rw [baL_size]; unfold maxLen; omega)
        rw [baL_toList, ho] at this
        exact this
      rw [ho] at hoM
      have hys : (baL y).size = y.length := baL_size y
      clear hC1 ho
      have bh2 := Lib.hid (BoxW.new w1 (.int .i64 o) (.slice none 0 0) 48)
      have bk := bel_alloc (Below.refl _ w1) (.cells #[.int .i64 o, .slice none 0 0] 48)
      have bx2 := Lib.hid (bx1.out.keep bk)
      have bl2 := Lib.hid (bel_trans bl1.out bk)
      have hAG : Hid (w.heap.size < w1.heap.size) := Lib.hid bx1.out.1.2.2
      have hsz2 : Hid ((w1.alloc (.cells #[.int .i64 o, .slice none 0 0] 48)).heap.size = w1.heap.size + 1) := Lib.hid (World.size_alloc _ _)
      clear bk
      by_cases hy : y = []
      · subst hy
        have hys0 : ¬ 0 < ((baL []).size : Int) := by rw [hys]; simp
        go_wp2_with fail
        refine (hoR.out _).mono ?_
        rintro e w2 ⟨rfl, rfl⟩
        obtain ⟨⟨b0, b1, b2⟩, b3, b4⟩ := bh2.out
        obtain ⟨⟨c0, c1, c2⟩, c3, c4⟩ := bx2.out
        go_wp2_with fail
        have hthree : threeM s.data.toList = true := by unfold threeM prtM; rw [hr2.out]; rfl
        have htsM : Hid (tsM s.data.toList = []) := Lib.hid (by unfold tsM prtM; rw [hr2.out]; rfl)
        have T0 := Lib.hid (t14_of (A := w.heap.size) bh2.out (TRow.nil 83 _ (w1.heap.size + 1)) bx2.out bl2.out)
        clear b0 b1 b2 b3 b4 c0 c1 c2 c3 c4
        have hM2 : Hid (okY s = (pzG o ([] : List Tri) && decide (textP o ([] : List Tri) = s))) := Lib.hid (by rw [hM.out, hthree]; unfold okW; rw [hoM.out, htsM.out]; rfl)
        have hAb : w.heap.size < (w1.heap.size + 1) := by have := hAG.out; omega
        have hAGn : w.heap.size ≠ w1.heap.size := by have := hAG.out; omega
        clear hM hthree
        cases hg : pzG o ([] : List Tri)
        · have hok : Hid (okY s = false) := Lib.hid (by rw [hM2.out, hg]; rfl)
          replace hg := Lib.hid hg
          refine wp_region_held_drew (S := (fun w' => w'.cell? ⟨w1.heap.size, 0, none⟩ = some (.int .i64 o) ∧ w'.cell? ⟨w1.heap.size, 1, none⟩ = some (.slice none 0 0) ∧ w1.heap.size < w'.heap.size ∧ TRow 83 w' (w1.heap.size + 1) (.slice none 0 0) ([] : List Tri) ∧ BWx w' w.heap.size ∧ Below w.heap.size w w')) (by kernel_rfl) (by ((try dsimp only); first | with_reducible exact t14_drew T0.out | with_reducible exact t14_keep (by assumption) hb6 | with_reducible exact t14_keep (by assumption) hb5 | with_reducible exact t14_store (by assumption) hAGn hAb _ _ | with_reducible assumption)) (fun hHeld => ?_)
          refine wpAnyH_take (i := 0) (oi := _) (v := ?vpq_0_23) rfl (by kernel_rfl) (by kernel_rfl) (by kernel_rfl) (fun _ _ _ h => h) (Or.inl ⟨by rfl, ?ypq_0_23⟩) (by assumption) ?rpq_0_23
          case ypq_0_23 => (intro w hSw; (try dsimp only at hSw); (obtain ⟨hsw0, hsw1, hsw2, hsw3, hsw4, hsw5⟩ := hSw); go_simp; try with_reducible rfl)
          try simp only [Act.put, List.setIfInBounds_toArray, List.set_cons_zero, List.set_cons_succ]
          refine wpAnyH_take (i := 1) (oi := _) (v := ?vpq_1_24) rfl (by kernel_rfl) (by kernel_rfl) (by kernel_rfl) (fun _ _ _ h => h) (Or.inl ⟨by rfl, ?ypq_1_24⟩) (by assumption) ?rpq_1_24
          case ypq_1_24 => (intro w hSw; (try dsimp only at hSw); (obtain ⟨hsw0, hsw1, hsw2, hsw3, hsw4, hsw5⟩ := hSw); go_simp; try with_reducible rfl)
          try simp only [Act.put, List.setIfInBounds_toArray, List.set_cons_zero, List.set_cons_succ]
          refine wpAnyH_ready (rs := [2]) (by kernel_rfl) (by simp) ?_
          refine AllReadyH.cons (o := _) rfl (fun K hK => ?_) AllReadyH.nil
          (go_simp; go_at_call 81; refine (pzGood_any _ ([] : List Tri) _ _ _ (t14_rd (by assumption)) (Nat.le_refl _)).mono ?_; rw [hg.out]; rintro e w5 ⟨rfl, hb5⟩)
          refine hK.out _ _ ?_ (fun hHeld => ?_)
          · ((try dsimp only); first | with_reducible exact t14_drew T0.out | with_reducible exact t14_keep (by assumption) hb6 | with_reducible exact t14_keep (by assumption) hb5 | with_reducible exact t14_store (by assumption) hAGn hAb _ _ | with_reducible assumption)
          clear hK K
          try simp only [Act.put, List.setIfInBounds_toArray, List.set_cons_zero, List.set_cons_succ]
          refine wpAnyH_take (i := 3) (oi := _) (v := ?vpq_3_25) rfl (by kernel_rfl) (by kernel_rfl) (by kernel_rfl) (fun _ _ _ h => h) (Or.inl ⟨by rfl, ?ypq_3_25⟩) (by assumption) ?rpq_3_25
          case ypq_3_25 => (intro w hSw; (try dsimp only at hSw); (obtain ⟨hsw0, hsw1, hsw2, hsw3, hsw4, hsw5⟩ := hSw); go_simp; try with_reducible rfl)
          try simp only [Act.put, List.setIfInBounds_toArray, List.set_cons_zero, List.set_cons_succ]
          refine wpAnyH_take (i := 4) (oi := _) (v := undef) rfl (by kernel_rfl) (by kernel_rfl) (by kernel_rfl) (fun _ _ _ h => h) (Or.inr ⟨by kernel_rfl, rfl⟩) (by assumption) ?_
          try simp only [Act.put, List.setIfInBounds_toArray, List.set_cons_zero, List.set_cons_succ]
          refine wpAnyH_take (i := 5) (oi := _) (v := undef) rfl (by kernel_rfl) (by kernel_rfl) (by kernel_rfl) (fun _ _ _ h => h) (Or.inr ⟨by kernel_rfl, rfl⟩) (by assumption) ?_
          try simp only [Act.put, List.setIfInBounds_toArray, List.set_cons_zero, List.set_cons_succ]
          refine wpAnyH_take (i := 6) (oi := _) (v := undef) rfl (by kernel_rfl) (by kernel_rfl) (by kernel_rfl) (fun _ _ _ h => h) (Or.inr ⟨by kernel_rfl, rfl⟩) (by assumption) ?_
          try simp only [Act.put, List.setIfInBounds_toArray, List.set_cons_zero, List.set_cons_succ]
          refine wpAnyH_take (i := 7) (oi := _) (v := undef) rfl (by kernel_rfl) (by kernel_rfl) (by kernel_rfl) (fun _ _ _ h => h) (Or.inr ⟨by kernel_rfl, rfl⟩) (by assumption) ?_
          try simp only [Act.put, List.setIfInBounds_toArray, List.set_cons_zero, List.set_cons_succ]
          refine wpAnyH_take (i := 8) (oi := _) (v := ?vpq_8_30) rfl (by kernel_rfl) (by kernel_rfl) (by kernel_rfl) (fun _ _ _ h => h) (Or.inl ⟨by rfl, ?ypq_8_30⟩) (by assumption) ?rpq_8_30
          case ypq_8_30 => (intro w hSw; (try dsimp only at hSw); (obtain ⟨hsw0, hsw1, hsw2, hsw3, hsw4, hsw5⟩ := hSw); go_simp; try with_reducible rfl)
          try simp only [Act.put, List.setIfInBounds_toArray, List.set_cons_zero, List.set_cons_succ]
          have hbw9 : BWx w5 w.heap.size := hHeld.2.2.2.2.1
          obtain ⟨x9, y9, h9⟩ := hbw9
          have e0 := h9.1.1
          have e1 := h9.1.2.1
          have e2 := h9.1.2.2
          have e3 := h9.2.1
          have e4 := h9.2.2
          refine wpAnyH_ready (rs := [9]) (by kernel_rfl) (by simp) ?_
          refine AllReadyH.cons (o := _) rfl (fun K hK => ?_) AllReadyH.nil
          go_simp
          refine hK.out _ _ ?_ (fun hHeld => ?_)
          · ((try dsimp only); first | with_reducible exact t14_drew T0.out | with_reducible exact t14_keep (by assumption) hb6 | with_reducible exact t14_keep (by assumption) hb5 | with_reducible exact t14_store (by assumption) hAGn hAb _ _ | with_reducible assumption)
          clear hK K
          try simp only [Act.put, List.setIfInBounds_toArray, List.set_cons_zero, List.set_cons_succ]
          refine wpAnyH_ready (rs := [10]) (by kernel_rfl) (by simp) ?_
          refine AllReadyH.cons (o := _) rfl (fun K hK => ?_) AllReadyH.nil
          go_simp
          refine hK.out _ _ ?_ (fun hHeld => ?_)
          · ((try dsimp only); first | with_reducible exact t14_drew T0.out | with_reducible exact t14_keep (by assumption) hb6 | with_reducible exact t14_keep (by assumption) hb5 | with_reducible exact t14_store (by assumption) hAGn hAb _ _ | with_reducible assumption)
          clear hK K
          try simp only [Act.put, List.setIfInBounds_toArray, List.set_cons_zero, List.set_cons_succ]
          refine wpAnyH_done (by kernel_rfl) ?_ _
          go_wp2_with fail
          have HH := t14_end (t14_keep (by assumption) hb5) hAGn hAb (.int .i64 o) (.slice none 0 0)
          obtain ⟨⟨⟨n0, n1, n2⟩, n3, n4⟩, hTe, hBe⟩ := HH
          refine bodyPost_ret (v := .tuple #[pz o (.slice none 0 0), .bool false]) (by simp [results, Tryd.results63, go_sem, n0, n1]) rfl ?_
          exact ⟨o, ([] : List Tri), _, by rw [hok.out], hTe, (fun _ => ⟨hoM.out.symm, htsM.out.symm⟩), hBe⟩
        · obtain ⟨r1, r2, r3, r4⟩ := pzG_in hg
          obtain ⟨q, rfl⟩ : ∃ q : Nat, o = q := ⟨o.toNat, by omega⟩
          have hq8 : q ≤ 8 := by omega
          have hr3 := Lib.hid r3
          have hr4 := Lib.hid r4
          clear r1 r2 r3 r4
          obtain ⟨T8, hT8⟩ : ∃ T, textP (q : Int) ([] : List Tri) = T := ⟨_, rfl⟩
          rw [hT8] at hM2
          replace hT8 := Lib.hid hT8
          by_cases hq : T8 = s
          · have hok : Hid (okY s = true) := Lib.hid (by rw [hM2.out, hg]; simp [hq])
            replace hg := Lib.hid hg
            subst hq
            have hd : (T8.toList == T8.toList) = true := by simp
            refine wp_region_held_drew (S := (fun w' => w'.cell? ⟨w1.heap.size, 0, none⟩ = some (.int .i64 (q : Int)) ∧ w'.cell? ⟨w1.heap.size, 1, none⟩ = some (.slice none 0 0) ∧ w1.heap.size < w'.heap.size ∧ TRow 83 w' (w1.heap.size + 1) (.slice none 0 0) ([] : List Tri) ∧ BWx w' w.heap.size ∧ Below w.heap.size w w')) (by kernel_rfl) (by ((try dsimp only); first | with_reducible exact t14_drew T0.out | with_reducible exact t14_keep (by assumption) hb6 | with_reducible exact t14_keep (by assumption) hb5 | with_reducible exact t14_store (by assumption) hAGn hAb _ _ | with_reducible assumption)) (fun hHeld => ?_)
            refine wpAnyH_take (i := 0) (oi := _) (v := ?vpq_0_31) rfl (by kernel_rfl) (by kernel_rfl) (by kernel_rfl) (fun _ _ _ h => h) (Or.inl ⟨by rfl, ?ypq_0_31⟩) (by assumption) ?rpq_0_31
            case ypq_0_31 => (intro w hSw; (try dsimp only at hSw); (obtain ⟨hsw0, hsw1, hsw2, hsw3, hsw4, hsw5⟩ := hSw); go_simp; try with_reducible rfl)
            try simp only [Act.put, List.setIfInBounds_toArray, List.set_cons_zero, List.set_cons_succ]
            refine wpAnyH_take (i := 1) (oi := _) (v := ?vpq_1_32) rfl (by kernel_rfl) (by kernel_rfl) (by kernel_rfl) (fun _ _ _ h => h) (Or.inl ⟨by rfl, ?ypq_1_32⟩) (by assumption) ?rpq_1_32
            case ypq_1_32 => (intro w hSw; (try dsimp only at hSw); (obtain ⟨hsw0, hsw1, hsw2, hsw3, hsw4, hsw5⟩ := hSw); go_simp; try with_reducible rfl)
            try simp only [Act.put, List.setIfInBounds_toArray, List.set_cons_zero, List.set_cons_succ]
            refine wpAnyH_ready (rs := [2]) (by kernel_rfl) (by simp) ?_
            refine AllReadyH.cons (o := _) rfl (fun K hK => ?_) AllReadyH.nil
            (go_simp; go_at_call 81; refine (pzGood_any _ ([] : List Tri) _ _ _ (t14_rd (by assumption)) (Nat.le_refl _)).mono ?_; rw [hg.out]; rintro e w5 ⟨rfl, hb5⟩)
            refine hK.out _ _ ?_ (fun hHeld => ?_)
            · ((try dsimp only); first | with_reducible exact t14_drew T0.out | with_reducible exact t14_keep (by assumption) hb6 | with_reducible exact t14_keep (by assumption) hb5 | with_reducible exact t14_store (by assumption) hAGn hAb _ _ | with_reducible assumption)
            clear hK K
            try simp only [Act.put, List.setIfInBounds_toArray, List.set_cons_zero, List.set_cons_succ]
            refine wpAnyH_take (i := 3) (oi := _) (v := ?vpq_3_33) rfl (by kernel_rfl) (by kernel_rfl) (by kernel_rfl) (fun _ _ _ h => h) (Or.inl ⟨by rfl, ?ypq_3_33⟩) (by assumption) ?rpq_3_33
            case ypq_3_33 => (intro w hSw; (try dsimp only at hSw); (obtain ⟨hsw0, hsw1, hsw2, hsw3, hsw4, hsw5⟩ := hSw); go_simp; try with_reducible rfl)
            try simp only [Act.put, List.setIfInBounds_toArray, List.set_cons_zero, List.set_cons_succ]
            refine wpAnyH_take (i := 4) (oi := _) (v := ?vpq_4_34) rfl (by kernel_rfl) (by kernel_rfl) (by kernel_rfl) (fun _ _ _ h => h) (Or.inl ⟨by kernel_rfl, ?ypq_4_34⟩) (by assumption) ?rpq_4_34
            case ypq_4_34 => (intro w hSw; (try dsimp only at hSw); (obtain ⟨hsw0, hsw1, hsw2, hsw3, hsw4, hsw5⟩ := hSw); go_simp; try with_reducible rfl)
            try simp only [Act.put, List.setIfInBounds_toArray, List.set_cons_zero, List.set_cons_succ]
            refine wpAnyH_take (i := 6) (oi := _) (v := ?vpq_6_35) rfl (by kernel_rfl) (by kernel_rfl) (by kernel_rfl) (fun _ _ _ h => h) (Or.inl ⟨by kernel_rfl, ?ypq_6_35⟩) (by assumption) ?rpq_6_35
            case ypq_6_35 => (intro w hSw; (try dsimp only at hSw); (obtain ⟨hsw0, hsw1, hsw2, hsw3, hsw4, hsw5⟩ := hSw); go_simp; try with_reducible rfl)
            try simp only [Act.put, List.setIfInBounds_toArray, List.set_cons_zero, List.set_cons_succ]
            refine wpAnyH_ready (rs := [5]) (by kernel_rfl) (by simp) ?_
            refine AllReadyH.cons (o := _) rfl (fun K hK => ?_) AllReadyH.nil
            (go_simp; go_at_call 82; refine (pzText_any _ ([] : List Tri) _ _ _ (t14_rd (by assumption)) (Nat.le_refl _) hq8 hr3.out hr4.out).mono ?_; rw [hT8.out]; rintro e w6 ⟨rfl, hb6⟩)
            refine hK.out _ _ ?_ (fun hHeld => ?_)
            · ((try dsimp only); first | with_reducible exact t14_drew T0.out | with_reducible exact t14_keep (by assumption) hb6 | with_reducible exact t14_keep (by assumption) hb5 | with_reducible exact t14_store (by assumption) hAGn hAb _ _ | with_reducible assumption)
            clear hK K
            try simp only [Act.put, List.setIfInBounds_toArray, List.set_cons_zero, List.set_cons_succ]
            refine wpAnyH_take (i := 7) (oi := _) (v := ?vpq_7_36) rfl (by kernel_rfl) (by kernel_rfl) (by kernel_rfl) (fun _ _ _ h => h) (Or.inl ⟨by kernel_rfl, ?ypq_7_36⟩) (by assumption) ?rpq_7_36
            case ypq_7_36 => (intro w hSw; (try dsimp only at hSw); (obtain ⟨hsw0, hsw1, hsw2, hsw3, hsw4, hsw5⟩ := hSw); go_simp; try with_reducible rfl)
            try simp only [Act.put, List.setIfInBounds_toArray, List.set_cons_zero, List.set_cons_succ]
            refine wpAnyH_take (i := 8) (oi := _) (v := ?vpq_8_37) rfl (by kernel_rfl) (by kernel_rfl) (by kernel_rfl) (fun _ _ _ h => h) (Or.inl ⟨by rfl, ?ypq_8_37⟩) (by assumption) ?rpq_8_37
            case ypq_8_37 => (intro w hSw; (try dsimp only at hSw); (obtain ⟨hsw0, hsw1, hsw2, hsw3, hsw4, hsw5⟩ := hSw); go_simp; try with_reducible rfl)
            try simp only [Act.put, List.setIfInBounds_toArray, List.set_cons_zero, List.set_cons_succ]
            have hbw9 : BWx w6 w.heap.size := hHeld.2.2.2.2.1
            obtain ⟨x9, y9, h9⟩ := hbw9
            have e0 := h9.1.1
            have e1 := h9.1.2.1
            have e2 := h9.1.2.2
            have e3 := h9.2.1
            have e4 := h9.2.2
            refine wpAnyH_ready (rs := [9]) (by kernel_rfl) (by simp) ?_
            refine AllReadyH.cons (o := _) rfl (fun K hK => ?_) AllReadyH.nil
            go_simp
            refine hK.out _ _ ?_ (fun hHeld => ?_)
            · ((try dsimp only); first | with_reducible exact t14_drew T0.out | with_reducible exact t14_keep (by assumption) hb6 | with_reducible exact t14_keep (by assumption) hb5 | with_reducible exact t14_store (by assumption) hAGn hAb _ _ | with_reducible assumption)
            clear hK K
            try simp only [Act.put, List.setIfInBounds_toArray, List.set_cons_zero, List.set_cons_succ]
            refine wpAnyH_ready (rs := [10]) (by kernel_rfl) (by simp) ?_
            refine AllReadyH.cons (o := _) rfl (fun K hK => ?_) AllReadyH.nil
            go_simp
            refine hK.out _ _ ?_ (fun hHeld => ?_)
            · ((try dsimp only); first | with_reducible exact t14_drew T0.out | with_reducible exact t14_keep (by assumption) hb6 | with_reducible exact t14_keep (by assumption) hb5 | with_reducible exact t14_store (by assumption) hAGn hAb _ _ | with_reducible assumption)
            clear hK K
            try simp only [Act.put, List.setIfInBounds_toArray, List.set_cons_zero, List.set_cons_succ]
            refine wpAnyH_done (by kernel_rfl) ?_ _
            go_wp2_with fail
            have HH := t14_end (t14_keep (by assumption) hb6) hAGn hAb (.int .i64 (q : Int)) (.slice none 0 0)
            obtain ⟨⟨⟨n0, n1, n2⟩, n3, n4⟩, hTe, hBe⟩ := HH
            refine bodyPost_ret (v := .tuple #[pz (q : Int) (.slice none 0 0), .bool true]) (by simp [results, Tryd.results63, go_sem, n0, n1]) rfl ?_
            exact ⟨(q : Int), ([] : List Tri), _, by rw [hok.out], hTe, (fun _ => ⟨hoM.out.symm, htsM.out.symm⟩), hBe⟩
          · have hok : Hid (okY s = false) := Lib.hid (by rw [hM2.out, hg]; simp [hq])
            replace hg := Lib.hid hg
            have hd : (T8.toList == s.toList) = false := by
              simp only [beq_eq_false_iff_ne, ne_eq]
              intro e
              apply hq
              rw [ByteArray.toList_eq, ByteArray.toList_eq] at e
              exact ba_eq.2 e
            refine wp_region_held_drew (S := (fun w' => w'.cell? ⟨w1.heap.size, 0, none⟩ = some (.int .i64 (q : Int)) ∧ w'.cell? ⟨w1.heap.size, 1, none⟩ = some (.slice none 0 0) ∧ w1.heap.size < w'.heap.size ∧ TRow 83 w' (w1.heap.size + 1) (.slice none 0 0) ([] : List Tri) ∧ BWx w' w.heap.size ∧ Below w.heap.size w w')) (by kernel_rfl) (by ((try dsimp only); first | with_reducible exact t14_drew T0.out | with_reducible exact t14_keep (by assumption) hb6 | with_reducible exact t14_keep (by assumption) hb5 | with_reducible exact t14_store (by assumption) hAGn hAb _ _ | with_reducible assumption)) (fun hHeld => ?_)
            refine wpAnyH_take (i := 0) (oi := _) (v := ?vpq_0_38) rfl (by kernel_rfl) (by kernel_rfl) (by kernel_rfl) (fun _ _ _ h => h) (Or.inl ⟨by rfl, ?ypq_0_38⟩) (by assumption) ?rpq_0_38
            case ypq_0_38 => (intro w hSw; (try dsimp only at hSw); (obtain ⟨hsw0, hsw1, hsw2, hsw3, hsw4, hsw5⟩ := hSw); go_simp; try with_reducible rfl)
            try simp only [Act.put, List.setIfInBounds_toArray, List.set_cons_zero, List.set_cons_succ]
            refine wpAnyH_take (i := 1) (oi := _) (v := ?vpq_1_39) rfl (by kernel_rfl) (by kernel_rfl) (by kernel_rfl) (fun _ _ _ h => h) (Or.inl ⟨by rfl, ?ypq_1_39⟩) (by assumption) ?rpq_1_39
            case ypq_1_39 => (intro w hSw; (try dsimp only at hSw); (obtain ⟨hsw0, hsw1, hsw2, hsw3, hsw4, hsw5⟩ := hSw); go_simp; try with_reducible rfl)
            try simp only [Act.put, List.setIfInBounds_toArray, List.set_cons_zero, List.set_cons_succ]
            refine wpAnyH_ready (rs := [2]) (by kernel_rfl) (by simp) ?_
            refine AllReadyH.cons (o := _) rfl (fun K hK => ?_) AllReadyH.nil
            (go_simp; go_at_call 81; refine (pzGood_any _ ([] : List Tri) _ _ _ (t14_rd (by assumption)) (Nat.le_refl _)).mono ?_; rw [hg.out]; rintro e w5 ⟨rfl, hb5⟩)
            refine hK.out _ _ ?_ (fun hHeld => ?_)
            · ((try dsimp only); first | with_reducible exact t14_drew T0.out | with_reducible exact t14_keep (by assumption) hb6 | with_reducible exact t14_keep (by assumption) hb5 | with_reducible exact t14_store (by assumption) hAGn hAb _ _ | with_reducible assumption)
            clear hK K
            try simp only [Act.put, List.setIfInBounds_toArray, List.set_cons_zero, List.set_cons_succ]
            refine wpAnyH_take (i := 3) (oi := _) (v := ?vpq_3_40) rfl (by kernel_rfl) (by kernel_rfl) (by kernel_rfl) (fun _ _ _ h => h) (Or.inl ⟨by rfl, ?ypq_3_40⟩) (by assumption) ?rpq_3_40
            case ypq_3_40 => (intro w hSw; (try dsimp only at hSw); (obtain ⟨hsw0, hsw1, hsw2, hsw3, hsw4, hsw5⟩ := hSw); go_simp; try with_reducible rfl)
            try simp only [Act.put, List.setIfInBounds_toArray, List.set_cons_zero, List.set_cons_succ]
            refine wpAnyH_take (i := 4) (oi := _) (v := ?vpq_4_41) rfl (by kernel_rfl) (by kernel_rfl) (by kernel_rfl) (fun _ _ _ h => h) (Or.inl ⟨by kernel_rfl, ?ypq_4_41⟩) (by assumption) ?rpq_4_41
            case ypq_4_41 => (intro w hSw; (try dsimp only at hSw); (obtain ⟨hsw0, hsw1, hsw2, hsw3, hsw4, hsw5⟩ := hSw); go_simp; try with_reducible rfl)
            try simp only [Act.put, List.setIfInBounds_toArray, List.set_cons_zero, List.set_cons_succ]
            refine wpAnyH_take (i := 6) (oi := _) (v := ?vpq_6_42) rfl (by kernel_rfl) (by kernel_rfl) (by kernel_rfl) (fun _ _ _ h => h) (Or.inl ⟨by kernel_rfl, ?ypq_6_42⟩) (by assumption) ?rpq_6_42
            case ypq_6_42 => (intro w hSw; (try dsimp only at hSw); (obtain ⟨hsw0, hsw1, hsw2, hsw3, hsw4, hsw5⟩ := hSw); go_simp; try with_reducible rfl)
            try simp only [Act.put, List.setIfInBounds_toArray, List.set_cons_zero, List.set_cons_succ]
            refine wpAnyH_ready (rs := [5]) (by kernel_rfl) (by simp) ?_
            refine AllReadyH.cons (o := _) rfl (fun K hK => ?_) AllReadyH.nil
            (go_simp; go_at_call 82; refine (pzText_any _ ([] : List Tri) _ _ _ (t14_rd (by assumption)) (Nat.le_refl _) hq8 hr3.out hr4.out).mono ?_; rw [hT8.out]; rintro e w6 ⟨rfl, hb6⟩)
            refine hK.out _ _ ?_ (fun hHeld => ?_)
            · ((try dsimp only); first | with_reducible exact t14_drew T0.out | with_reducible exact t14_keep (by assumption) hb6 | with_reducible exact t14_keep (by assumption) hb5 | with_reducible exact t14_store (by assumption) hAGn hAb _ _ | with_reducible assumption)
            clear hK K
            try simp only [Act.put, List.setIfInBounds_toArray, List.set_cons_zero, List.set_cons_succ]
            refine wpAnyH_take (i := 7) (oi := _) (v := ?vpq_7_43) rfl (by kernel_rfl) (by kernel_rfl) (by kernel_rfl) (fun _ _ _ h => h) (Or.inl ⟨by kernel_rfl, ?ypq_7_43⟩) (by assumption) ?rpq_7_43
            case ypq_7_43 => (intro w hSw; (try dsimp only at hSw); (obtain ⟨hsw0, hsw1, hsw2, hsw3, hsw4, hsw5⟩ := hSw); go_simp; try with_reducible rfl)
            try simp only [Act.put, List.setIfInBounds_toArray, List.set_cons_zero, List.set_cons_succ]
            refine wpAnyH_take (i := 8) (oi := _) (v := ?vpq_8_44) rfl (by kernel_rfl) (by kernel_rfl) (by kernel_rfl) (fun _ _ _ h => h) (Or.inl ⟨by rfl, ?ypq_8_44⟩) (by assumption) ?rpq_8_44
            case ypq_8_44 => (intro w hSw; (try dsimp only at hSw); (obtain ⟨hsw0, hsw1, hsw2, hsw3, hsw4, hsw5⟩ := hSw); go_simp; try with_reducible rfl)
            try simp only [Act.put, List.setIfInBounds_toArray, List.set_cons_zero, List.set_cons_succ]
            have hbw9 : BWx w6 w.heap.size := hHeld.2.2.2.2.1
            obtain ⟨x9, y9, h9⟩ := hbw9
            have e0 := h9.1.1
            have e1 := h9.1.2.1
            have e2 := h9.1.2.2
            have e3 := h9.2.1
            have e4 := h9.2.2
            refine wpAnyH_ready (rs := [9]) (by kernel_rfl) (by simp) ?_
            refine AllReadyH.cons (o := _) rfl (fun K hK => ?_) AllReadyH.nil
            go_simp
            refine hK.out _ _ ?_ (fun hHeld => ?_)
            · ((try dsimp only); first | with_reducible exact t14_drew T0.out | with_reducible exact t14_keep (by assumption) hb6 | with_reducible exact t14_keep (by assumption) hb5 | with_reducible exact t14_store (by assumption) hAGn hAb _ _ | with_reducible assumption)
            clear hK K
            try simp only [Act.put, List.setIfInBounds_toArray, List.set_cons_zero, List.set_cons_succ]
            refine wpAnyH_ready (rs := [10]) (by kernel_rfl) (by simp) ?_
            refine AllReadyH.cons (o := _) rfl (fun K hK => ?_) AllReadyH.nil
            go_simp
            refine hK.out _ _ ?_ (fun hHeld => ?_)
            · ((try dsimp only); first | with_reducible exact t14_drew T0.out | with_reducible exact t14_keep (by assumption) hb6 | with_reducible exact t14_keep (by assumption) hb5 | with_reducible exact t14_store (by assumption) hAGn hAb _ _ | with_reducible assumption)
            clear hK K
            try simp only [Act.put, List.setIfInBounds_toArray, List.set_cons_zero, List.set_cons_succ]
            refine wpAnyH_done (by kernel_rfl) ?_ _
            go_wp2_with fail
            have HH := t14_end (t14_keep (by assumption) hb6) hAGn hAb (.int .i64 (q : Int)) (.slice none 0 0)
            obtain ⟨⟨⟨n0, n1, n2⟩, n3, n4⟩, hTe, hBe⟩ := HH
            refine bodyPost_ret (v := .tuple #[pz (q : Int) (.slice none 0 0), .bool false]) (by simp [results, Tryd.results63, go_sem, n0, n1]) rfl ?_
            exact ⟨(q : Int), ([] : List Tri), _, by rw [hok.out], hTe, (fun _ => ⟨hoM.out.symm, htsM.out.symm⟩), hBe⟩
      · have hys1 : 0 < ((baL y).size : Int) := by
          rw [hys]
          have := List.length_pos_iff.2 hy
          omega
        go_wp2_with fail
        refine (hoR.out _).mono ?_
        rintro e w2 ⟨rfl, rfl⟩
        obtain ⟨⟨b0, b1, b2⟩, b3, b4⟩ := bh2.out
        obtain ⟨⟨c0, c1, c2⟩, c3, c4⟩ := bx2.out
        go_wp2_with fail
        refine (l1Split_any (baL y) 44 _ (by omega)).mono ?_
        rintro e w3 ⟨v3, rfl, hr3, hb3⟩
        rw [baL_toList] at hr3
        have bx3 := Lib.hid (bx2.out.keep hb3)
        have bh3 := Lib.hid (bh2.out.keep hb3)
        have bl3 := Lib.hid (bel_trans bl2.out hb3)
        have hlen3 : ((prtL y 44).map baL).length = (prtL y 44).length := List.length_map _
        have hpos3 := prtL_pos y 44
        have hlenB := prtL_len y 44
        clear b0 b1 b2 b3 b4 c0 c1 c2 c3 c4
        rcases hr3.form with ⟨e0, _⟩ | ⟨_, g3, cap3, rfl, hg3, hg4, hc3, hc4⟩
        · exfalso
          have := congrArg List.length e0
          rw [hlen3] at this
          simp only [List.length_nil] at this
          omega
        rw [hlen3] at hr3 hc3 ⊢
        have hC3 := Lib.hid (RdC.of hr3 rfl)
        have hcsl : Hid (∀ z ∈ prtL y 44, z.length ≤ 100) := Lib.hid fun z hz => Nat.le_trans (prtL_part hz) hyl
        have htM : Hid (tsM s.data.toList = (prtL y 44).map clM ∧ threeM s.data.toList = (prtL y 44).all fun c => decide ((prtL c 46).length = 3)) := Lib.hid (by unfold tsM threeM prtM; rw [hr2.out, if_neg hy]; exact ⟨rfl, rfl⟩)
        generalize prtL y 44 = cs at *
        generalize hnc : cs.length = nc at *
        have HNC := Lib.hid hnc
        rw [hsz2.out] at hg3
        clear hnc hlen3 hr3 hb3
        go_wp2_with fail
        have hlt5 : w1.heap.size < w3.heap.size := by have := bh3.out.1.2.2; omega
        have hg3l : g3 < w3.heap.size := hg4
        have hg3G : g3 ≠ w1.heap.size := by omega
        go_loopw [7, 8, 35] (fun _ _ iv wr => ∃ k : Nat, k ≤ nc ∧ iv = .int .i64 k ∧ Hid (((cs.take k).all fun c => decide ((prtL c 46).length = 3)) = true) ∧ Hid (RndI w w3 w1.heap.size o ((cs.take k).map clM) wr) ∧ Hid (RdC wr g3 cs)) (fun _ _ iv _ => nc - (intOf iv).toNat)
        case atStart => exact ⟨0, by omega, rfl, Lib.hid rfl, Lib.hid ⟨⟨_, TRow.nil _ _ _, bh3.out⟩, bx3.out, bl3.out, Nat.le_refl _⟩, hC3⟩
        case round =>
          obtain ⟨k, hk, rfl, hall, hRI, hCC⟩ := hrel
          by_cases hlt : k < nc
          · have hki : (k : Int) < (nc : Int) := by omega
            have hkl : k < cs.length := by rw [HNC.out]; exact hlt
            have hck := hCC.out k hkl
            have hcl := hcsl.out cs[k] (List.getElem_mem _)
            have hmap1 : Hid ((cs.take (k + 1)).map clM = (cs.take k).map clM ++ [clM cs[k]]) := Lib.hid (by rw [List.take_succ_eq_append_getElem hkl, List.map_append]; rfl)
            have hallT : ((cs.take (k + 1)).all fun c => decide ((prtL c 46).length = 3)) = (((cs.take k).all fun c => decide ((prtL c 46).length = 3)) && decide ((prtL cs[k] 46).length = 3)) := by rw [List.take_succ_eq_append_getElem hkl, List.all_append]; simp
            have hnoT : ¬ (prtL cs[k] 46).length = 3 → okY s = false := fun hn => okY_no3 (by
              rw [htM.out.2, List.all_eq_false]
              exact ⟨cs[k], List.getElem_mem _, by simpa using hn⟩)
            generalize cs[k] = c at *
            have HAT := Lib.hid hallT
            have HNT := Lib.hid hnoT
            clear hallT hnoT
            have hlc := prtL_pos c 46
            have hlcB := prtL_len c 46
            obtain ⟨⟨yv, hR, hG⟩, hA, hB, hz⟩ := hRI.out
            go_wp2_with fail
            refine (l1Split_any (baL c) 46 _ (by rw [baL_size]; omega)).mono ?_
            rintro e w4 ⟨v4, rfl, hr4, hb4⟩
            rw [baL_toList] at hr4
            have hlen4 : ((prtL c 46).map baL).length = (prtL c 46).length := List.length_map _
            rcases hr4.form with ⟨e0, _⟩ | ⟨_, g4, cap4, rfl, hg5, hg6, hc5, hc6⟩
            · exfalso
              have := congrArg List.length e0
              rw [hlen4] at this
              simp only [List.length_nil] at this
              omega
            rw [hlen4] at hr4 hc5 ⊢
            by_cases z3 : (prtL c 46).length = 3
            · have hC4 := RdC.of hr4 rfl
              obtain ⟨p0, p1, p2, hp⟩ : ∃ p0 p1 p2, prtL c 46 = [p0, p1, p2] := by
                match hm : prtL c 46 with
                | [] => rw [hm] at z3; cases z3
                | [a] => rw [hm] at z3; cases z3
                | [a, b] => rw [hm] at z3; cases z3
                | [a, b, d] => exact ⟨a, b, d, rfl⟩
                | a :: b :: d :: f :: r => rw [hm] at z3; simp at z3
              have hpl : ∀ z, z ∈ prtL c 46 → z.length ≤ 100 := fun z hz => Nat.le_trans (prtL_part hz) hcl
              rw [hp] at hC4 hpl
              have hcm : clM c = (rdN p0, rdN p1, rdN p2) := by unfold clM; rw [hp]; rfl
              have hall1 : Hid (((cs.take (k + 1)).all fun c => decide ((prtL c 46).length = 3)) = true) := Lib.hid (by rw [HAT.out, hall.out, z3]; rfl)
              rw [hcm] at hmap1
              have rdg : ∀ p, p ∈ [p0, p1, p2] → ∀ W, Calls Tryd.prog 80 #[.string (baL p)] W fun e w' => e = .returned (.int .i64 (rdN p)) ∧ W = w' := fun p hp W => by
                have := l1Read_any (baL p) W (by rw [baL_size]; have := hpl p hp; unfold maxLen; omega)
                rw [baL_toList] at this
                exact this
              have hrd0 := Lib.hid (rdg p0 (by simp))
              have hrd1 := Lib.hid (rdg p1 (by simp))
              have hrd2 := Lib.hid (rdg p2 (by simp))
              have hS3 : w4.cell? ⟨g4, 0, none⟩ = some (.string (baL p0)) ∧ w4.cell? ⟨g4, 1, none⟩ = some (.string (baL p1)) ∧ w4.cell? ⟨g4, 2, none⟩ = some (.string (baL p2)) := ⟨hC4 0 (by simp), hC4 1 (by simp), hC4 2 (by simp)⟩
              clear hC4 rdg hpl hcm hp HAT HNT
              rw [z3] at *
              clear z3 hlen4 hr4 hck
              generalize rdN p0 = y0 at *
              generalize rdN p1 = y1 at *
              generalize rdN p2 = y2 at *
              generalize baL p0 = q0 at *
              generalize baL p1 = q1 at *
              generalize baL p2 = q2 at *
              have hI0 := Lib.hid hR
              have hH0 := Lib.hid hG
              have hA0 := Lib.hid hA
              have hB0 := Lib.hid hB
              have hC0 := Lib.hid hCC.out
              have h4d : Below wr.heap.size wr w4.drew := hb4.drew
              have hG4 : w1.heap.size ≠ g4 := by have := hG.1.2.2; omega
              have hne4' : ∀ r, yv.ownBlock = some r → r ≠ g4 := fun r e => by have := (World.ownsRow.lt hR r e).2; omega
              obtain ⟨AH, capH, rfl, hcH⟩ := hR.formS
              generalize hts : (cs.take k).map clM = ts at *
              have hlts : ts.length ≤ 101 := by rw [← hts, List.length_map, List.length_take]; omega
              have hI4 := Lib.hid ((hI0.out.below hb4).drewN 1)
              have hH4 := Lib.hid ((hH0.out.keep hb4).drewN 1)
              have hne4 := hne4'
              generalize hnn : ts.length = nn at *
              have HNN := Lib.hid hnn
              change Hid (TRow 83 w4.drew w3.heap.size _ ts) at hI4
              change Hid (BoxW w4.drew w1.heap.size _ _) at hH4
              obtain ⟨b0, b1, b2⟩ := hH4.out.1
              have b2' : w1.heap.size < w4.heap.size := b2
              have b1w : w4.cell? ⟨w1.heap.size, 1, none⟩ = some (.slice AH nn capH) := b1
              have b1' := hH4.out.keep (bel_alloc (Below.refl _ _) (.cells #[.int .i64 y0, .int .i64 y1, .int .i64 y2] 83))
              obtain ⟨⟨b3, b4, b5⟩, b6, b7⟩ := b1'
              have hsz4 : wr.heap.size ≤ w4.heap.size := hb4.size
              clear hnn hts hR hG hA hB hRI hCC hne4' hb4
              go_wp2_with fail
              refine wp_region_held_drew (S := fun w' => w'.cell? ⟨g4, 0, none⟩ = some (.string q0) ∧ w'.cell? ⟨g4, 1, none⟩ = some (.string q1) ∧ w'.cell? ⟨g4, 2, none⟩ = some (.string q2)) (by kernel_rfl) (by (try dsimp only); first | assumption | exact s3_start hS3 | exact s3_alloc (by assumption) _ | exact s3_own (by assumption) hg11 hne4 | exact s3_set (by assumption) hG4 _) (fun hHeld => ?_)
              refine wpAnyH_take (i := 0) (oi := _) (v := ?vpw_0_1) rfl (by kernel_rfl) (by kernel_rfl) (by kernel_rfl) (fun _ _ _ h => h) (Or.inl ⟨by rfl, ?ypw_0_1⟩) (by assumption) ?rpw_0_1
              case ypw_0_1 => (intro w hSw; (try dsimp only at hSw); (obtain ⟨hsw0, hsw1, hsw2⟩ := hSw); go_simp; try with_reducible rfl)
              try simp only [Act.put, List.setIfInBounds_toArray, List.set_cons_zero, List.set_cons_succ]
              refine wpAnyH_take (i := 2) (oi := _) (v := ?vpw_2_2) rfl (by kernel_rfl) (by kernel_rfl) (by kernel_rfl) (fun _ _ _ h => h) (Or.inl ⟨by rfl, ?ypw_2_2⟩) (by assumption) ?rpw_2_2
              case ypw_2_2 => (intro w hSw; (try dsimp only at hSw); (obtain ⟨hsw0, hsw1, hsw2⟩ := hSw); go_simp; try with_reducible rfl)
              try simp only [Act.put, List.setIfInBounds_toArray, List.set_cons_zero, List.set_cons_succ]
              refine wpAnyH_take (i := 3) (oi := _) (v := ?vpw_3_3) rfl (by kernel_rfl) (by kernel_rfl) (by kernel_rfl) (fun _ _ _ h => h) (Or.inl ⟨by rfl, ?ypw_3_3⟩) (by assumption) ?rpw_3_3
              case ypw_3_3 => (intro w hSw; (try dsimp only at hSw); (obtain ⟨hsw0, hsw1, hsw2⟩ := hSw); go_simp; try with_reducible rfl)
              try simp only [Act.put, List.setIfInBounds_toArray, List.set_cons_zero, List.set_cons_succ]
              refine wpAnyH_take (i := 4) (oi := _) (v := ?vpw_4_4) rfl (by kernel_rfl) (by kernel_rfl) (by kernel_rfl) (fun _ _ _ h => h) (Or.inl ⟨by rfl, ?ypw_4_4⟩) (by assumption) ?rpw_4_4
              case ypw_4_4 => (intro w hSw; (try dsimp only at hSw); (obtain ⟨hsw0, hsw1, hsw2⟩ := hSw); go_simp; try with_reducible rfl)
              try simp only [Act.put, List.setIfInBounds_toArray, List.set_cons_zero, List.set_cons_succ]
              refine wpAnyH_take (i := 6) (oi := _) (v := ?vpw_6_5) rfl (by kernel_rfl) (by kernel_rfl) (by kernel_rfl) (fun _ _ _ h => h) (Or.inl ⟨by rfl, ?ypw_6_5⟩) (by assumption) ?rpw_6_5
              case ypw_6_5 => (intro w hSw; (try dsimp only at hSw); (obtain ⟨hsw0, hsw1, hsw2⟩ := hSw); go_simp; try with_reducible rfl)
              try simp only [Act.put, List.setIfInBounds_toArray, List.set_cons_zero, List.set_cons_succ]
              refine wpAnyH_take (i := 7) (oi := _) (v := ?vpw_7_6) rfl (by kernel_rfl) (by kernel_rfl) (by kernel_rfl) (fun _ _ _ h => h) (Or.inl ⟨by rfl, ?ypw_7_6⟩) (by assumption) ?rpw_7_6
              case ypw_7_6 => (intro w hSw; (try dsimp only at hSw); (obtain ⟨hsw0, hsw1, hsw2⟩ := hSw); go_simp; try with_reducible rfl)
              try simp only [Act.put, List.setIfInBounds_toArray, List.set_cons_zero, List.set_cons_succ]
              refine wpAnyH_take (i := 8) (oi := _) (v := ?vpw_8_7) rfl (by kernel_rfl) (by kernel_rfl) (by kernel_rfl) (fun _ _ _ h => h) (Or.inl ⟨by rfl, ?ypw_8_7⟩) (by assumption) ?rpw_8_7
              case ypw_8_7 => (intro w hSw; (try dsimp only at hSw); (obtain ⟨hsw0, hsw1, hsw2⟩ := hSw); go_simp; try with_reducible rfl)
              try simp only [Act.put, List.setIfInBounds_toArray, List.set_cons_zero, List.set_cons_succ]
              refine wpAnyH_take (i := 10) (oi := _) (v := ?vpw_10_8) rfl (by kernel_rfl) (by kernel_rfl) (by kernel_rfl) (fun _ _ _ h => h) (Or.inl ⟨by rfl, ?ypw_10_8⟩) (by assumption) ?rpw_10_8
              case ypw_10_8 => (intro w hSw; (try dsimp only at hSw); (obtain ⟨hsw0, hsw1, hsw2⟩ := hSw); go_simp; try with_reducible rfl)
              try simp only [Act.put, List.setIfInBounds_toArray, List.set_cons_zero, List.set_cons_succ]
              refine wpAnyH_take (i := 11) (oi := _) (v := ?vpw_11_9) rfl (by kernel_rfl) (by kernel_rfl) (by kernel_rfl) (fun _ _ _ h => h) (Or.inl ⟨by rfl, ?ypw_11_9⟩) (by assumption) ?rpw_11_9
              case ypw_11_9 => (intro w hSw; (try dsimp only at hSw); (obtain ⟨hsw0, hsw1, hsw2⟩ := hSw); go_simp; try with_reducible rfl)
              try simp only [Act.put, List.setIfInBounds_toArray, List.set_cons_zero, List.set_cons_succ]
              refine wpAnyH_take (i := 12) (oi := _) (v := ?vpw_12_10) rfl (by kernel_rfl) (by kernel_rfl) (by kernel_rfl) (fun _ _ _ h => h) (Or.inl ⟨by rfl, ?ypw_12_10⟩) (by assumption) ?rpw_12_10
              case ypw_12_10 => (intro w hSw; (try dsimp only at hSw); (obtain ⟨hsw0, hsw1, hsw2⟩ := hSw); go_simp; try with_reducible rfl)
              try simp only [Act.put, List.setIfInBounds_toArray, List.set_cons_zero, List.set_cons_succ]
              refine wpAnyH_ready (rs := [1, 5]) (by kernel_rfl) (by simp) ?_
              refine AllReadyH.cons (o := _) rfl (fun K hK => ?_) ?_
              · (go_simp)
                refine hK.out _ _ ?_ (fun hHeld => ?_)
                · (try dsimp only); first | assumption | exact s3_start hS3 | exact s3_alloc (by assumption) _ | exact s3_own (by assumption) hg11 hne4 | exact s3_set (by assumption) hG4 _
                clear hK K
                try simp only [Act.put, List.setIfInBounds_toArray, List.set_cons_zero, List.set_cons_succ]
                refine wpAnyH_ready (rs := [5]) (by kernel_rfl) (by simp) ?_
                refine AllReadyH.cons (o := _) rfl (fun K hK => ?_) ?_
                · (go_simp; go_at_call 80; refine (hrd0.out _).mono ?_; rintro e wz ⟨rfl, rfl⟩)
                  refine hK.out _ _ ?_ (fun hHeld => ?_)
                  · (try dsimp only); first | assumption | exact s3_start hS3 | exact s3_alloc (by assumption) _ | exact s3_own (by assumption) hg11 hne4 | exact s3_set (by assumption) hG4 _
                  clear hK K
                  try simp only [Act.put, List.setIfInBounds_toArray, List.set_cons_zero, List.set_cons_succ]
                  refine wpAnyH_ready (rs := [9]) (by kernel_rfl) (by simp) ?_
                  refine AllReadyH.cons (o := _) rfl (fun K hK => ?_) ?_
                  · (go_simp; go_at_call 80; refine (hrd1.out _).mono ?_; rintro e wz ⟨rfl, rfl⟩)
                    refine hK.out _ _ ?_ (fun hHeld => ?_)
                    · (try dsimp only); first | assumption | exact s3_start hS3 | exact s3_alloc (by assumption) _ | exact s3_own (by assumption) hg11 hne4 | exact s3_set (by assumption) hG4 _
                    clear hK K
                    try simp only [Act.put, List.setIfInBounds_toArray, List.set_cons_zero, List.set_cons_succ]
                    refine wpAnyH_ready (rs := [13]) (by kernel_rfl) (by simp) ?_
                    refine AllReadyH.cons (o := _) rfl (fun K hK => ?_) ?_
                    · (go_simp; go_at_call 80; refine (hrd2.out _).mono ?_; rintro e wz ⟨rfl, rfl⟩)
                      refine hK.out _ _ ?_ (fun hHeld => ?_)
                      · (try dsimp only); first | assumption | exact s3_start hS3 | exact s3_alloc (by assumption) _ | exact s3_own (by assumption) hg11 hne4 | exact s3_set (by assumption) hG4 _
                      clear hK K
                      try simp only [Act.put, List.setIfInBounds_toArray, List.set_cons_zero, List.set_cons_succ]
                      refine wpAnyH_take (i := 14) (oi := _) (v := ?vpw_14_11) rfl (by kernel_rfl) (by kernel_rfl) (by kernel_rfl) (fun _ _ _ h => h) (Or.inl ⟨by rfl, ?ypw_14_11⟩) (by assumption) ?rpw_14_11
                      case ypw_14_11 => (intro w hSw; (try dsimp only at hSw); (obtain ⟨hsw0, hsw1, hsw2⟩ := hSw); go_simp; try with_reducible rfl)
                      try simp only [Act.put, List.setIfInBounds_toArray, List.set_cons_zero, List.set_cons_succ]
                      refine wpAnyH_ready (rs := [15]) (by kernel_rfl) (by simp) ?_
                      refine AllReadyH.cons (o := _) rfl (fun K hK => ?_) ?_
                      · (go_simp)
                        refine hK.out _ _ ?_ (fun hHeld => ?_)
                        · (try dsimp only); first | assumption | exact s3_start hS3 | exact s3_alloc (by assumption) _ | exact s3_own (by assumption) hg11 hne4 | exact s3_set (by assumption) hG4 _
                        clear hK K
                        try simp only [Act.put, List.setIfInBounds_toArray, List.set_cons_zero, List.set_cons_succ]
                        refine wpAnyH_ready (rs := [16]) (by kernel_rfl) (by simp) ?_
                        refine AllReadyH.cons (o := _) rfl (fun K hK => ?_) ?_
                        · (refine step_pushR 46 83 Tryd.underlying46 info_clue (by rfl) (.tmp 46) (.tmp 60) (by rfl) w3.heap.size (.slice AH nn capH) ts (by exact hI4.out.below (bel_alloc (Below.refl _ _) _)) [(y0, y1, y2)] _ (some ⟨w4.heap.size, 0, none⟩) 1 1 (by rfl) (rdT_one (TRow.one _ w4.drew (y0, y1, y2))) (by rw [HNN.out]; simp; omega) (by simp; omega) (by rfl) ?_; intro v11 w11 hI11 hb11 hg11; obtain ⟨A11, cap11, hv11, hc11⟩ := hI11.formS; generalize (ts ++ [(y0, y1, y2)]).length = m11 at hv11; subst hv11; clear hc11)
                          refine hK.out _ _ ?_ (fun hHeld => ?_)
                          · (try dsimp only); first | assumption | exact s3_start hS3 | exact s3_alloc (by assumption) _ | exact s3_own (by assumption) hg11 hne4 | exact s3_set (by assumption) hG4 _
                          clear hK K
                          try simp only [Act.put, List.setIfInBounds_toArray, List.set_cons_zero, List.set_cons_succ]
                          refine wpAnyH_take (i := 17) (oi := _) (v := ?vpw_17_12) rfl (by kernel_rfl) (by kernel_rfl) (by kernel_rfl) (fun _ _ _ h => h) (Or.inl ⟨by rfl, ?ypw_17_12⟩) (by assumption) ?rpw_17_12
                          case ypw_17_12 => (intro w hSw; (try dsimp only at hSw); (obtain ⟨hsw0, hsw1, hsw2⟩ := hSw); go_simp; try with_reducible rfl)
                          try simp only [Act.put, List.setIfInBounds_toArray, List.set_cons_zero, List.set_cons_succ]
                          obtain ⟨⟨d0, d1, d2⟩, d3, d4⟩ := boxW_grownT (hH4.out.keep (bel_alloc (Below.refl _ _) (.cells #[.int .i64 y0, .int .i64 y1, .int .i64 y2] 83))) hg11 (hI4.out.below (bel_alloc (Below.refl _ _) _)) hlt5
                          refine wpAnyH_ready (rs := [18]) (by kernel_rfl) (by simp) ?_
                          refine AllReadyH.cons (o := _) rfl (fun K hK => ?_) ?_
                          · (go_simp)
                            refine hK.out _ _ ?_ (fun hHeld => ?_)
                            · (try dsimp only); first | assumption | exact s3_start hS3 | exact s3_alloc (by assumption) _ | exact s3_own (by assumption) hg11 hne4 | exact s3_set (by assumption) hG4 _
                            clear hK K
                            try simp only [Act.put, List.setIfInBounds_toArray, List.set_cons_zero, List.set_cons_succ]
                            refine wpAnyH_done (by kernel_rfl) ?_ _
                            have hst := rnd_step2 (o := o) hAG.out hlt5 hg3l hg3G hz hI0.out hH0.out hA0.out hB0.out hC0.out h4d hI11 hg11
                            generalize w11.setCell ⟨w1.heap.size, 1, none⟩ (.slice A11 m11 cap11) = w12 at *
                            have hst1 := Lib.hid hst.1
                            have hst2 := Lib.hid hst.2
                            clear hst d0 d1 d2 d3 d4 hI11 hb11 hg11 hHeld hne4
                            go_wp2_with fail
                            exact ⟨⟨k + 1, by omega, by go_num, hall1, by rw [hmap1.out]; exact hst1, hst2⟩, by simp [intOf]; omega⟩
                          exact AllReadyH.nil
                        exact AllReadyH.nil
                      exact AllReadyH.nil
                    exact AllReadyH.nil
                  exact AllReadyH.nil
                exact AllReadyH.nil
              refine AllReadyH.cons (o := _) rfl (fun K hK => ?_) ?_
              · (go_simp; go_at_call 80; refine (hrd0.out _).mono ?_; rintro e wz ⟨rfl, rfl⟩)
                refine hK.out _ _ ?_ (fun hHeld => ?_)
                · (try dsimp only); first | assumption | exact s3_start hS3 | exact s3_alloc (by assumption) _ | exact s3_own (by assumption) hg11 hne4 | exact s3_set (by assumption) hG4 _
                clear hK K
                try simp only [Act.put, List.setIfInBounds_toArray, List.set_cons_zero, List.set_cons_succ]
                refine wpAnyH_ready (rs := [1, 9]) (by kernel_rfl) (by simp) ?_
                refine AllReadyH.cons (o := _) rfl (fun K hK => ?_) ?_
                · (go_simp)
                  refine hK.out _ _ ?_ (fun hHeld => ?_)
                  · (try dsimp only); first | assumption | exact s3_start hS3 | exact s3_alloc (by assumption) _ | exact s3_own (by assumption) hg11 hne4 | exact s3_set (by assumption) hG4 _
                  clear hK K
                  try simp only [Act.put, List.setIfInBounds_toArray, List.set_cons_zero, List.set_cons_succ]
                  refine wpAnyH_ready (rs := [9]) (by kernel_rfl) (by simp) ?_
                  refine AllReadyH.cons (o := _) rfl (fun K hK => ?_) ?_
                  · (go_simp; go_at_call 80; refine (hrd1.out _).mono ?_; rintro e wz ⟨rfl, rfl⟩)
                    refine hK.out _ _ ?_ (fun hHeld => ?_)
                    · (try dsimp only); first | assumption | exact s3_start hS3 | exact s3_alloc (by assumption) _ | exact s3_own (by assumption) hg11 hne4 | exact s3_set (by assumption) hG4 _
                    clear hK K
                    try simp only [Act.put, List.setIfInBounds_toArray, List.set_cons_zero, List.set_cons_succ]
                    refine wpAnyH_ready (rs := [13]) (by kernel_rfl) (by simp) ?_
                    refine AllReadyH.cons (o := _) rfl (fun K hK => ?_) ?_
                    · (go_simp; go_at_call 80; refine (hrd2.out _).mono ?_; rintro e wz ⟨rfl, rfl⟩)
                      refine hK.out _ _ ?_ (fun hHeld => ?_)
                      · (try dsimp only); first | assumption | exact s3_start hS3 | exact s3_alloc (by assumption) _ | exact s3_own (by assumption) hg11 hne4 | exact s3_set (by assumption) hG4 _
                      clear hK K
                      try simp only [Act.put, List.setIfInBounds_toArray, List.set_cons_zero, List.set_cons_succ]
                      refine wpAnyH_take (i := 14) (oi := _) (v := ?vpw_14_13) rfl (by kernel_rfl) (by kernel_rfl) (by kernel_rfl) (fun _ _ _ h => h) (Or.inl ⟨by rfl, ?ypw_14_13⟩) (by assumption) ?rpw_14_13
                      case ypw_14_13 => (intro w hSw; (try dsimp only at hSw); (obtain ⟨hsw0, hsw1, hsw2⟩ := hSw); go_simp; try with_reducible rfl)
                      try simp only [Act.put, List.setIfInBounds_toArray, List.set_cons_zero, List.set_cons_succ]
                      refine wpAnyH_ready (rs := [15]) (by kernel_rfl) (by simp) ?_
                      refine AllReadyH.cons (o := _) rfl (fun K hK => ?_) ?_
                      · (go_simp)
                        refine hK.out _ _ ?_ (fun hHeld => ?_)
                        · (try dsimp only); first | assumption | exact s3_start hS3 | exact s3_alloc (by assumption) _ | exact s3_own (by assumption) hg11 hne4 | exact s3_set (by assumption) hG4 _
                        clear hK K
                        try simp only [Act.put, List.setIfInBounds_toArray, List.set_cons_zero, List.set_cons_succ]
                        refine wpAnyH_ready (rs := [16]) (by kernel_rfl) (by simp) ?_
                        refine AllReadyH.cons (o := _) rfl (fun K hK => ?_) ?_
                        · (refine step_pushR 46 83 Tryd.underlying46 info_clue (by rfl) (.tmp 46) (.tmp 60) (by rfl) w3.heap.size (.slice AH nn capH) ts (by exact hI4.out.below (bel_alloc (Below.refl _ _) _)) [(y0, y1, y2)] _ (some ⟨w4.heap.size, 0, none⟩) 1 1 (by rfl) (rdT_one (TRow.one _ w4.drew (y0, y1, y2))) (by rw [HNN.out]; simp; omega) (by simp; omega) (by rfl) ?_; intro v11 w11 hI11 hb11 hg11; obtain ⟨A11, cap11, hv11, hc11⟩ := hI11.formS; generalize (ts ++ [(y0, y1, y2)]).length = m11 at hv11; subst hv11; clear hc11)
                          refine hK.out _ _ ?_ (fun hHeld => ?_)
                          · (try dsimp only); first | assumption | exact s3_start hS3 | exact s3_alloc (by assumption) _ | exact s3_own (by assumption) hg11 hne4 | exact s3_set (by assumption) hG4 _
                          clear hK K
                          try simp only [Act.put, List.setIfInBounds_toArray, List.set_cons_zero, List.set_cons_succ]
                          refine wpAnyH_take (i := 17) (oi := _) (v := ?vpw_17_14) rfl (by kernel_rfl) (by kernel_rfl) (by kernel_rfl) (fun _ _ _ h => h) (Or.inl ⟨by rfl, ?ypw_17_14⟩) (by assumption) ?rpw_17_14
                          case ypw_17_14 => (intro w hSw; (try dsimp only at hSw); (obtain ⟨hsw0, hsw1, hsw2⟩ := hSw); go_simp; try with_reducible rfl)
                          try simp only [Act.put, List.setIfInBounds_toArray, List.set_cons_zero, List.set_cons_succ]
                          obtain ⟨⟨d0, d1, d2⟩, d3, d4⟩ := boxW_grownT (hH4.out.keep (bel_alloc (Below.refl _ _) (.cells #[.int .i64 y0, .int .i64 y1, .int .i64 y2] 83))) hg11 (hI4.out.below (bel_alloc (Below.refl _ _) _)) hlt5
                          refine wpAnyH_ready (rs := [18]) (by kernel_rfl) (by simp) ?_
                          refine AllReadyH.cons (o := _) rfl (fun K hK => ?_) ?_
                          · (go_simp)
                            refine hK.out _ _ ?_ (fun hHeld => ?_)
                            · (try dsimp only); first | assumption | exact s3_start hS3 | exact s3_alloc (by assumption) _ | exact s3_own (by assumption) hg11 hne4 | exact s3_set (by assumption) hG4 _
                            clear hK K
                            try simp only [Act.put, List.setIfInBounds_toArray, List.set_cons_zero, List.set_cons_succ]
                            refine wpAnyH_done (by kernel_rfl) ?_ _
                            have hst := rnd_step2 (o := o) hAG.out hlt5 hg3l hg3G hz hI0.out hH0.out hA0.out hB0.out hC0.out h4d hI11 hg11
                            generalize w11.setCell ⟨w1.heap.size, 1, none⟩ (.slice A11 m11 cap11) = w12 at *
                            have hst1 := Lib.hid hst.1
                            have hst2 := Lib.hid hst.2
                            clear hst d0 d1 d2 d3 d4 hI11 hb11 hg11 hHeld hne4
                            go_wp2_with fail
                            exact ⟨⟨k + 1, by omega, by go_num, hall1, by rw [hmap1.out]; exact hst1, hst2⟩, by simp [intOf]; omega⟩
                          exact AllReadyH.nil
                        exact AllReadyH.nil
                      exact AllReadyH.nil
                    exact AllReadyH.nil
                  exact AllReadyH.nil
                refine AllReadyH.cons (o := _) rfl (fun K hK => ?_) ?_
                · (go_simp; go_at_call 80; refine (hrd1.out _).mono ?_; rintro e wz ⟨rfl, rfl⟩)
                  refine hK.out _ _ ?_ (fun hHeld => ?_)
                  · (try dsimp only); first | assumption | exact s3_start hS3 | exact s3_alloc (by assumption) _ | exact s3_own (by assumption) hg11 hne4 | exact s3_set (by assumption) hG4 _
                  clear hK K
                  try simp only [Act.put, List.setIfInBounds_toArray, List.set_cons_zero, List.set_cons_succ]
                  refine wpAnyH_ready (rs := [1, 13]) (by kernel_rfl) (by simp) ?_
                  refine AllReadyH.cons (o := _) rfl (fun K hK => ?_) ?_
                  · (go_simp)
                    refine hK.out _ _ ?_ (fun hHeld => ?_)
                    · (try dsimp only); first | assumption | exact s3_start hS3 | exact s3_alloc (by assumption) _ | exact s3_own (by assumption) hg11 hne4 | exact s3_set (by assumption) hG4 _
                    clear hK K
                    try simp only [Act.put, List.setIfInBounds_toArray, List.set_cons_zero, List.set_cons_succ]
                    refine wpAnyH_ready (rs := [13]) (by kernel_rfl) (by simp) ?_
                    refine AllReadyH.cons (o := _) rfl (fun K hK => ?_) ?_
                    · (go_simp; go_at_call 80; refine (hrd2.out _).mono ?_; rintro e wz ⟨rfl, rfl⟩)
                      refine hK.out _ _ ?_ (fun hHeld => ?_)
                      · (try dsimp only); first | assumption | exact s3_start hS3 | exact s3_alloc (by assumption) _ | exact s3_own (by assumption) hg11 hne4 | exact s3_set (by assumption) hG4 _
                      clear hK K
                      try simp only [Act.put, List.setIfInBounds_toArray, List.set_cons_zero, List.set_cons_succ]
                      refine wpAnyH_take (i := 14) (oi := _) (v := ?vpw_14_15) rfl (by kernel_rfl) (by kernel_rfl) (by kernel_rfl) (fun _ _ _ h => h) (Or.inl ⟨by rfl, ?ypw_14_15⟩) (by assumption) ?rpw_14_15
                      case ypw_14_15 => (intro w hSw; (try dsimp only at hSw); (obtain ⟨hsw0, hsw1, hsw2⟩ := hSw); go_simp; try with_reducible rfl)
                      try simp only [Act.put, List.setIfInBounds_toArray, List.set_cons_zero, List.set_cons_succ]
                      refine wpAnyH_ready (rs := [15]) (by kernel_rfl) (by simp) ?_
                      refine AllReadyH.cons (o := _) rfl (fun K hK => ?_) ?_
                      · (go_simp)
                        refine hK.out _ _ ?_ (fun hHeld => ?_)
                        · (try dsimp only); first | assumption | exact s3_start hS3 | exact s3_alloc (by assumption) _ | exact s3_own (by assumption) hg11 hne4 | exact s3_set (by assumption) hG4 _
                        clear hK K
                        try simp only [Act.put, List.setIfInBounds_toArray, List.set_cons_zero, List.set_cons_succ]
                        refine wpAnyH_ready (rs := [16]) (by kernel_rfl) (by simp) ?_
                        refine AllReadyH.cons (o := _) rfl (fun K hK => ?_) ?_
                        · (refine step_pushR 46 83 Tryd.underlying46 info_clue (by rfl) (.tmp 46) (.tmp 60) (by rfl) w3.heap.size (.slice AH nn capH) ts (by exact hI4.out.below (bel_alloc (Below.refl _ _) _)) [(y0, y1, y2)] _ (some ⟨w4.heap.size, 0, none⟩) 1 1 (by rfl) (rdT_one (TRow.one _ w4.drew (y0, y1, y2))) (by rw [HNN.out]; simp; omega) (by simp; omega) (by rfl) ?_; intro v11 w11 hI11 hb11 hg11; obtain ⟨A11, cap11, hv11, hc11⟩ := hI11.formS; generalize (ts ++ [(y0, y1, y2)]).length = m11 at hv11; subst hv11; clear hc11)
                          refine hK.out _ _ ?_ (fun hHeld => ?_)
                          · (try dsimp only); first | assumption | exact s3_start hS3 | exact s3_alloc (by assumption) _ | exact s3_own (by assumption) hg11 hne4 | exact s3_set (by assumption) hG4 _
                          clear hK K
                          try simp only [Act.put, List.setIfInBounds_toArray, List.set_cons_zero, List.set_cons_succ]
                          refine wpAnyH_take (i := 17) (oi := _) (v := ?vpw_17_16) rfl (by kernel_rfl) (by kernel_rfl) (by kernel_rfl) (fun _ _ _ h => h) (Or.inl ⟨by rfl, ?ypw_17_16⟩) (by assumption) ?rpw_17_16
                          case ypw_17_16 => (intro w hSw; (try dsimp only at hSw); (obtain ⟨hsw0, hsw1, hsw2⟩ := hSw); go_simp; try with_reducible rfl)
                          try simp only [Act.put, List.setIfInBounds_toArray, List.set_cons_zero, List.set_cons_succ]
                          obtain ⟨⟨d0, d1, d2⟩, d3, d4⟩ := boxW_grownT (hH4.out.keep (bel_alloc (Below.refl _ _) (.cells #[.int .i64 y0, .int .i64 y1, .int .i64 y2] 83))) hg11 (hI4.out.below (bel_alloc (Below.refl _ _) _)) hlt5
                          refine wpAnyH_ready (rs := [18]) (by kernel_rfl) (by simp) ?_
                          refine AllReadyH.cons (o := _) rfl (fun K hK => ?_) ?_
                          · (go_simp)
                            refine hK.out _ _ ?_ (fun hHeld => ?_)
                            · (try dsimp only); first | assumption | exact s3_start hS3 | exact s3_alloc (by assumption) _ | exact s3_own (by assumption) hg11 hne4 | exact s3_set (by assumption) hG4 _
                            clear hK K
                            try simp only [Act.put, List.setIfInBounds_toArray, List.set_cons_zero, List.set_cons_succ]
                            refine wpAnyH_done (by kernel_rfl) ?_ _
                            have hst := rnd_step2 (o := o) hAG.out hlt5 hg3l hg3G hz hI0.out hH0.out hA0.out hB0.out hC0.out h4d hI11 hg11
                            generalize w11.setCell ⟨w1.heap.size, 1, none⟩ (.slice A11 m11 cap11) = w12 at *
                            have hst1 := Lib.hid hst.1
                            have hst2 := Lib.hid hst.2
                            clear hst d0 d1 d2 d3 d4 hI11 hb11 hg11 hHeld hne4
                            go_wp2_with fail
                            exact ⟨⟨k + 1, by omega, by go_num, hall1, by rw [hmap1.out]; exact hst1, hst2⟩, by simp [intOf]; omega⟩
                          exact AllReadyH.nil
                        exact AllReadyH.nil
                      exact AllReadyH.nil
                    exact AllReadyH.nil
                  refine AllReadyH.cons (o := _) rfl (fun K hK => ?_) ?_
                  · (go_simp; go_at_call 80; refine (hrd2.out _).mono ?_; rintro e wz ⟨rfl, rfl⟩)
                    refine hK.out _ _ ?_ (fun hHeld => ?_)
                    · (try dsimp only); first | assumption | exact s3_start hS3 | exact s3_alloc (by assumption) _ | exact s3_own (by assumption) hg11 hne4 | exact s3_set (by assumption) hG4 _
                    clear hK K
                    try simp only [Act.put, List.setIfInBounds_toArray, List.set_cons_zero, List.set_cons_succ]
                    refine wpAnyH_take (i := 14) (oi := _) (v := ?vpw_14_17) rfl (by kernel_rfl) (by kernel_rfl) (by kernel_rfl) (fun _ _ _ h => h) (Or.inl ⟨by rfl, ?ypw_14_17⟩) (by assumption) ?rpw_14_17
                    case ypw_14_17 => (intro w hSw; (try dsimp only at hSw); (obtain ⟨hsw0, hsw1, hsw2⟩ := hSw); go_simp; try with_reducible rfl)
                    try simp only [Act.put, List.setIfInBounds_toArray, List.set_cons_zero, List.set_cons_succ]
                    refine wpAnyH_ready (rs := [1, 15]) (by kernel_rfl) (by simp) ?_
                    refine AllReadyH.cons (o := _) rfl (fun K hK => ?_) ?_
                    · (go_simp)
                      refine hK.out _ _ ?_ (fun hHeld => ?_)
                      · (try dsimp only); first | assumption | exact s3_start hS3 | exact s3_alloc (by assumption) _ | exact s3_own (by assumption) hg11 hne4 | exact s3_set (by assumption) hG4 _
                      clear hK K
                      try simp only [Act.put, List.setIfInBounds_toArray, List.set_cons_zero, List.set_cons_succ]
                      refine wpAnyH_ready (rs := [15]) (by kernel_rfl) (by simp) ?_
                      refine AllReadyH.cons (o := _) rfl (fun K hK => ?_) ?_
                      · (go_simp)
                        refine hK.out _ _ ?_ (fun hHeld => ?_)
                        · (try dsimp only); first | assumption | exact s3_start hS3 | exact s3_alloc (by assumption) _ | exact s3_own (by assumption) hg11 hne4 | exact s3_set (by assumption) hG4 _
                        clear hK K
                        try simp only [Act.put, List.setIfInBounds_toArray, List.set_cons_zero, List.set_cons_succ]
                        refine wpAnyH_ready (rs := [16]) (by kernel_rfl) (by simp) ?_
                        refine AllReadyH.cons (o := _) rfl (fun K hK => ?_) ?_
                        · (refine step_pushR 46 83 Tryd.underlying46 info_clue (by rfl) (.tmp 46) (.tmp 60) (by rfl) w3.heap.size (.slice AH nn capH) ts (by exact hI4.out.below (bel_alloc (Below.refl _ _) _)) [(y0, y1, y2)] _ (some ⟨w4.heap.size, 0, none⟩) 1 1 (by rfl) (rdT_one (TRow.one _ w4.drew (y0, y1, y2))) (by rw [HNN.out]; simp; omega) (by simp; omega) (by rfl) ?_; intro v11 w11 hI11 hb11 hg11; obtain ⟨A11, cap11, hv11, hc11⟩ := hI11.formS; generalize (ts ++ [(y0, y1, y2)]).length = m11 at hv11; subst hv11; clear hc11)
                          refine hK.out _ _ ?_ (fun hHeld => ?_)
                          · (try dsimp only); first | assumption | exact s3_start hS3 | exact s3_alloc (by assumption) _ | exact s3_own (by assumption) hg11 hne4 | exact s3_set (by assumption) hG4 _
                          clear hK K
                          try simp only [Act.put, List.setIfInBounds_toArray, List.set_cons_zero, List.set_cons_succ]
                          refine wpAnyH_take (i := 17) (oi := _) (v := ?vpw_17_18) rfl (by kernel_rfl) (by kernel_rfl) (by kernel_rfl) (fun _ _ _ h => h) (Or.inl ⟨by rfl, ?ypw_17_18⟩) (by assumption) ?rpw_17_18
                          case ypw_17_18 => (intro w hSw; (try dsimp only at hSw); (obtain ⟨hsw0, hsw1, hsw2⟩ := hSw); go_simp; try with_reducible rfl)
                          try simp only [Act.put, List.setIfInBounds_toArray, List.set_cons_zero, List.set_cons_succ]
                          obtain ⟨⟨d0, d1, d2⟩, d3, d4⟩ := boxW_grownT (hH4.out.keep (bel_alloc (Below.refl _ _) (.cells #[.int .i64 y0, .int .i64 y1, .int .i64 y2] 83))) hg11 (hI4.out.below (bel_alloc (Below.refl _ _) _)) hlt5
                          refine wpAnyH_ready (rs := [18]) (by kernel_rfl) (by simp) ?_
                          refine AllReadyH.cons (o := _) rfl (fun K hK => ?_) ?_
                          · (go_simp)
                            refine hK.out _ _ ?_ (fun hHeld => ?_)
                            · (try dsimp only); first | assumption | exact s3_start hS3 | exact s3_alloc (by assumption) _ | exact s3_own (by assumption) hg11 hne4 | exact s3_set (by assumption) hG4 _
                            clear hK K
                            try simp only [Act.put, List.setIfInBounds_toArray, List.set_cons_zero, List.set_cons_succ]
                            refine wpAnyH_done (by kernel_rfl) ?_ _
                            have hst := rnd_step2 (o := o) hAG.out hlt5 hg3l hg3G hz hI0.out hH0.out hA0.out hB0.out hC0.out h4d hI11 hg11
                            generalize w11.setCell ⟨w1.heap.size, 1, none⟩ (.slice A11 m11 cap11) = w12 at *
                            have hst1 := Lib.hid hst.1
                            have hst2 := Lib.hid hst.2
                            clear hst d0 d1 d2 d3 d4 hI11 hb11 hg11 hHeld hne4
                            go_wp2_with fail
                            exact ⟨⟨k + 1, by omega, by go_num, hall1, by rw [hmap1.out]; exact hst1, hst2⟩, by simp [intOf]; omega⟩
                          exact AllReadyH.nil
                        exact AllReadyH.nil
                      exact AllReadyH.nil
                    refine AllReadyH.cons (o := _) rfl (fun K hK => ?_) ?_
                    · (go_simp)
                      refine hK.out _ _ ?_ (fun hHeld => ?_)
                      · (try dsimp only); first | assumption | exact s3_start hS3 | exact s3_alloc (by assumption) _ | exact s3_own (by assumption) hg11 hne4 | exact s3_set (by assumption) hG4 _
                      clear hK K
                      try simp only [Act.put, List.setIfInBounds_toArray, List.set_cons_zero, List.set_cons_succ]
                      refine wpAnyH_ready (rs := [1]) (by kernel_rfl) (by simp) ?_
                      refine AllReadyH.cons (o := _) rfl (fun K hK => ?_) ?_
                      · (go_simp)
                        refine hK.out _ _ ?_ (fun hHeld => ?_)
                        · (try dsimp only); first | assumption | exact s3_start hS3 | exact s3_alloc (by assumption) _ | exact s3_own (by assumption) hg11 hne4 | exact s3_set (by assumption) hG4 _
                        clear hK K
                        try simp only [Act.put, List.setIfInBounds_toArray, List.set_cons_zero, List.set_cons_succ]
                        refine wpAnyH_ready (rs := [16]) (by kernel_rfl) (by simp) ?_
                        refine AllReadyH.cons (o := _) rfl (fun K hK => ?_) ?_
                        · (refine step_pushR 46 83 Tryd.underlying46 info_clue (by rfl) (.tmp 46) (.tmp 60) (by rfl) w3.heap.size (.slice AH nn capH) ts (by exact hI4.out.below (bel_alloc (Below.refl _ _) _)) [(y0, y1, y2)] _ (some ⟨w4.heap.size, 0, none⟩) 1 1 (by rfl) (rdT_one (TRow.one _ w4.drew (y0, y1, y2))) (by rw [HNN.out]; simp; omega) (by simp; omega) (by rfl) ?_; intro v11 w11 hI11 hb11 hg11; obtain ⟨A11, cap11, hv11, hc11⟩ := hI11.formS; generalize (ts ++ [(y0, y1, y2)]).length = m11 at hv11; subst hv11; clear hc11)
                          refine hK.out _ _ ?_ (fun hHeld => ?_)
                          · (try dsimp only); first | assumption | exact s3_start hS3 | exact s3_alloc (by assumption) _ | exact s3_own (by assumption) hg11 hne4 | exact s3_set (by assumption) hG4 _
                          clear hK K
                          try simp only [Act.put, List.setIfInBounds_toArray, List.set_cons_zero, List.set_cons_succ]
                          refine wpAnyH_take (i := 17) (oi := _) (v := ?vpw_17_19) rfl (by kernel_rfl) (by kernel_rfl) (by kernel_rfl) (fun _ _ _ h => h) (Or.inl ⟨by rfl, ?ypw_17_19⟩) (by assumption) ?rpw_17_19
                          case ypw_17_19 => (intro w hSw; (try dsimp only at hSw); (obtain ⟨hsw0, hsw1, hsw2⟩ := hSw); go_simp; try with_reducible rfl)
                          try simp only [Act.put, List.setIfInBounds_toArray, List.set_cons_zero, List.set_cons_succ]
                          obtain ⟨⟨d0, d1, d2⟩, d3, d4⟩ := boxW_grownT (hH4.out.keep (bel_alloc (Below.refl _ _) (.cells #[.int .i64 y0, .int .i64 y1, .int .i64 y2] 83))) hg11 (hI4.out.below (bel_alloc (Below.refl _ _) _)) hlt5
                          refine wpAnyH_ready (rs := [18]) (by kernel_rfl) (by simp) ?_
                          refine AllReadyH.cons (o := _) rfl (fun K hK => ?_) ?_
                          · (go_simp)
                            refine hK.out _ _ ?_ (fun hHeld => ?_)
                            · (try dsimp only); first | assumption | exact s3_start hS3 | exact s3_alloc (by assumption) _ | exact s3_own (by assumption) hg11 hne4 | exact s3_set (by assumption) hG4 _
                            clear hK K
                            try simp only [Act.put, List.setIfInBounds_toArray, List.set_cons_zero, List.set_cons_succ]
                            refine wpAnyH_done (by kernel_rfl) ?_ _
                            have hst := rnd_step2 (o := o) hAG.out hlt5 hg3l hg3G hz hI0.out hH0.out hA0.out hB0.out hC0.out h4d hI11 hg11
                            generalize w11.setCell ⟨w1.heap.size, 1, none⟩ (.slice A11 m11 cap11) = w12 at *
                            have hst1 := Lib.hid hst.1
                            have hst2 := Lib.hid hst.2
                            clear hst d0 d1 d2 d3 d4 hI11 hb11 hg11 hHeld hne4
                            go_wp2_with fail
                            exact ⟨⟨k + 1, by omega, by go_num, hall1, by rw [hmap1.out]; exact hst1, hst2⟩, by simp [intOf]; omega⟩
                          exact AllReadyH.nil
                        exact AllReadyH.nil
                      exact AllReadyH.nil
                    exact AllReadyH.nil
                  exact AllReadyH.nil
                exact AllReadyH.nil
              exact AllReadyH.nil
            · have hno := Lib.hid (HNT.out z3)
              have z3' : ((((prtL c 46).length : Nat) : Int) == 3) = false := by simp; omega
              have hA4 := Lib.hid (hA.keep hb4)
              have hB4 := Lib.hid (bel_trans hB hb4)
              obtain ⟨⟨b0, b1, b2⟩, b3, b4⟩ := hA4.out
              go_wp2_with fail
              have hset := Lib.hid (hA4.out.set (.int .i64 0) (.slice none 0 0))
              obtain ⟨⟨n0, n1, n2⟩, n3, n4⟩ := hset.out
              refine bodyPost_ret (v := .tuple #[pz 0 (.slice none 0 0), .bool false]) (by simp [results, Tryd.results63, go_sem, n0, n1]) rfl ?_
              exact ⟨0, [], _, by rw [hno.out], TRow.nil _ _ _, (fun h => by rw [hno.out] at h; cases h), bel_set hB4.out (Nat.le_refl _) _ _⟩
          · obtain rfl : k = nc := by omega
            go_wp2_with fail
            obtain ⟨⟨yv, hR, hG⟩, hA, hB, hz⟩ := hRI.out
            have hfull : cs.take k = cs := List.take_of_length_le (by rw [HNC.out]; exact Nat.le_refl _)
            rw [hfull] at hR hall
            have hthree : threeM s.data.toList = true := htM.out.2.trans hall.out
            have htsM : Hid (tsM s.data.toList = cs.map clM) := Lib.hid htM.out.1
            obtain ⟨AH, capH, rfl, hcH⟩ := hR.formS
            generalize cs.map clM = ts at *
            have T0 := Lib.hid (t14_of (A := w.heap.size) hG hR hA hB)
            generalize hnn : ts.length = nn at *
            clear hnn hR hG hA hB hRI hCC hall hfull hcH
            have hM2 : Hid (okY s = (pzG o ts && decide (textP o ts = s))) := Lib.hid (by rw [hM.out, hthree]; unfold okW; rw [hoM.out, htsM.out]; rfl)
            have hAb : w.heap.size < w3.heap.size := by have := hAG.out; omega
            have hAGn : w.heap.size ≠ w1.heap.size := by have := hAG.out; omega
            clear hM hthree
            cases hg : pzG o ts
            · have hok : Hid (okY s = false) := Lib.hid (by rw [hM2.out, hg]; rfl)
              replace hg := Lib.hid hg
              refine wp_region_held_drew (S := (fun w' => w'.cell? ⟨w1.heap.size, 0, none⟩ = some (.int .i64 o) ∧ w'.cell? ⟨w1.heap.size, 1, none⟩ = some (.slice AH nn capH) ∧ w1.heap.size < w'.heap.size ∧ TRow 83 w' w3.heap.size (.slice AH nn capH) ts ∧ BWx w' w.heap.size ∧ Below w.heap.size w w')) (by kernel_rfl) (by ((try dsimp only); first | with_reducible exact t14_drew T0.out | with_reducible exact t14_keep (by assumption) hb6 | with_reducible exact t14_keep (by assumption) hb5 | with_reducible exact t14_store (by assumption) hAGn hAb _ _ | with_reducible assumption)) (fun hHeld => ?_)
              refine wpAnyH_take (i := 0) (oi := _) (v := ?vpq_0_1) rfl (by kernel_rfl) (by kernel_rfl) (by kernel_rfl) (fun _ _ _ h => h) (Or.inl ⟨by rfl, ?ypq_0_1⟩) (by assumption) ?rpq_0_1
              case ypq_0_1 => (intro w hSw; (try dsimp only at hSw); (obtain ⟨hsw0, hsw1, hsw2, hsw3, hsw4, hsw5⟩ := hSw); go_simp; try with_reducible rfl)
              try simp only [Act.put, List.setIfInBounds_toArray, List.set_cons_zero, List.set_cons_succ]
              refine wpAnyH_take (i := 1) (oi := _) (v := ?vpq_1_2) rfl (by kernel_rfl) (by kernel_rfl) (by kernel_rfl) (fun _ _ _ h => h) (Or.inl ⟨by rfl, ?ypq_1_2⟩) (by assumption) ?rpq_1_2
              case ypq_1_2 => (intro w hSw; (try dsimp only at hSw); (obtain ⟨hsw0, hsw1, hsw2, hsw3, hsw4, hsw5⟩ := hSw); go_simp; try with_reducible rfl)
              try simp only [Act.put, List.setIfInBounds_toArray, List.set_cons_zero, List.set_cons_succ]
              refine wpAnyH_ready (rs := [2]) (by kernel_rfl) (by simp) ?_
              refine AllReadyH.cons (o := _) rfl (fun K hK => ?_) AllReadyH.nil
              (go_simp; go_at_call 81; refine (pzGood_any _ ts _ _ _ (t14_rd (by assumption)) (Nat.le_refl _)).mono ?_; rw [hg.out]; rintro e w5 ⟨rfl, hb5⟩)
              refine hK.out _ _ ?_ (fun hHeld => ?_)
              · ((try dsimp only); first | with_reducible exact t14_drew T0.out | with_reducible exact t14_keep (by assumption) hb6 | with_reducible exact t14_keep (by assumption) hb5 | with_reducible exact t14_store (by assumption) hAGn hAb _ _ | with_reducible assumption)
              clear hK K
              try simp only [Act.put, List.setIfInBounds_toArray, List.set_cons_zero, List.set_cons_succ]
              refine wpAnyH_take (i := 3) (oi := _) (v := ?vpq_3_3) rfl (by kernel_rfl) (by kernel_rfl) (by kernel_rfl) (fun _ _ _ h => h) (Or.inl ⟨by rfl, ?ypq_3_3⟩) (by assumption) ?rpq_3_3
              case ypq_3_3 => (intro w hSw; (try dsimp only at hSw); (obtain ⟨hsw0, hsw1, hsw2, hsw3, hsw4, hsw5⟩ := hSw); go_simp; try with_reducible rfl)
              try simp only [Act.put, List.setIfInBounds_toArray, List.set_cons_zero, List.set_cons_succ]
              refine wpAnyH_take (i := 4) (oi := _) (v := undef) rfl (by kernel_rfl) (by kernel_rfl) (by kernel_rfl) (fun _ _ _ h => h) (Or.inr ⟨by kernel_rfl, rfl⟩) (by assumption) ?_
              try simp only [Act.put, List.setIfInBounds_toArray, List.set_cons_zero, List.set_cons_succ]
              refine wpAnyH_take (i := 5) (oi := _) (v := undef) rfl (by kernel_rfl) (by kernel_rfl) (by kernel_rfl) (fun _ _ _ h => h) (Or.inr ⟨by kernel_rfl, rfl⟩) (by assumption) ?_
              try simp only [Act.put, List.setIfInBounds_toArray, List.set_cons_zero, List.set_cons_succ]
              refine wpAnyH_take (i := 6) (oi := _) (v := undef) rfl (by kernel_rfl) (by kernel_rfl) (by kernel_rfl) (fun _ _ _ h => h) (Or.inr ⟨by kernel_rfl, rfl⟩) (by assumption) ?_
              try simp only [Act.put, List.setIfInBounds_toArray, List.set_cons_zero, List.set_cons_succ]
              refine wpAnyH_take (i := 7) (oi := _) (v := undef) rfl (by kernel_rfl) (by kernel_rfl) (by kernel_rfl) (fun _ _ _ h => h) (Or.inr ⟨by kernel_rfl, rfl⟩) (by assumption) ?_
              try simp only [Act.put, List.setIfInBounds_toArray, List.set_cons_zero, List.set_cons_succ]
              refine wpAnyH_take (i := 8) (oi := _) (v := ?vpq_8_8) rfl (by kernel_rfl) (by kernel_rfl) (by kernel_rfl) (fun _ _ _ h => h) (Or.inl ⟨by rfl, ?ypq_8_8⟩) (by assumption) ?rpq_8_8
              case ypq_8_8 => (intro w hSw; (try dsimp only at hSw); (obtain ⟨hsw0, hsw1, hsw2, hsw3, hsw4, hsw5⟩ := hSw); go_simp; try with_reducible rfl)
              try simp only [Act.put, List.setIfInBounds_toArray, List.set_cons_zero, List.set_cons_succ]
              have hbw9 : BWx w5 w.heap.size := hHeld.2.2.2.2.1
              obtain ⟨x9, y9, h9⟩ := hbw9
              have e0 := h9.1.1
              have e1 := h9.1.2.1
              have e2 := h9.1.2.2
              have e3 := h9.2.1
              have e4 := h9.2.2
              refine wpAnyH_ready (rs := [9]) (by kernel_rfl) (by simp) ?_
              refine AllReadyH.cons (o := _) rfl (fun K hK => ?_) AllReadyH.nil
              go_simp
              refine hK.out _ _ ?_ (fun hHeld => ?_)
              · ((try dsimp only); first | with_reducible exact t14_drew T0.out | with_reducible exact t14_keep (by assumption) hb6 | with_reducible exact t14_keep (by assumption) hb5 | with_reducible exact t14_store (by assumption) hAGn hAb _ _ | with_reducible assumption)
              clear hK K
              try simp only [Act.put, List.setIfInBounds_toArray, List.set_cons_zero, List.set_cons_succ]
              refine wpAnyH_ready (rs := [10]) (by kernel_rfl) (by simp) ?_
              refine AllReadyH.cons (o := _) rfl (fun K hK => ?_) AllReadyH.nil
              go_simp
              refine hK.out _ _ ?_ (fun hHeld => ?_)
              · ((try dsimp only); first | with_reducible exact t14_drew T0.out | with_reducible exact t14_keep (by assumption) hb6 | with_reducible exact t14_keep (by assumption) hb5 | with_reducible exact t14_store (by assumption) hAGn hAb _ _ | with_reducible assumption)
              clear hK K
              try simp only [Act.put, List.setIfInBounds_toArray, List.set_cons_zero, List.set_cons_succ]
              refine wpAnyH_done (by kernel_rfl) ?_ _
              go_wp2_with fail
              have HH := t14_end (t14_keep (by assumption) hb5) hAGn hAb (.int .i64 o) (.slice AH nn capH)
              obtain ⟨⟨⟨n0, n1, n2⟩, n3, n4⟩, hTe, hBe⟩ := HH
              refine bodyPost_ret (v := .tuple #[pz o (.slice AH nn capH), .bool false]) (by simp [results, Tryd.results63, go_sem, n0, n1]) rfl ?_
              exact ⟨o, ts, _, by rw [hok.out], hTe, (fun _ => ⟨hoM.out.symm, htsM.out.symm⟩), hBe⟩
            · obtain ⟨r1, r2, r3, r4⟩ := pzG_in hg
              obtain ⟨q, rfl⟩ : ∃ q : Nat, o = q := ⟨o.toNat, by omega⟩
              have hq8 : q ≤ 8 := by omega
              have hr3 := Lib.hid r3
              have hr4 := Lib.hid r4
              clear r1 r2 r3 r4
              obtain ⟨T8, hT8⟩ : ∃ T, textP (q : Int) ts = T := ⟨_, rfl⟩
              rw [hT8] at hM2
              replace hT8 := Lib.hid hT8
              by_cases hq : T8 = s
              · have hok : Hid (okY s = true) := Lib.hid (by rw [hM2.out, hg]; simp [hq])
                replace hg := Lib.hid hg
                subst hq
                have hd : (T8.toList == T8.toList) = true := by simp
                refine wp_region_held_drew (S := (fun w' => w'.cell? ⟨w1.heap.size, 0, none⟩ = some (.int .i64 (q : Int)) ∧ w'.cell? ⟨w1.heap.size, 1, none⟩ = some (.slice AH nn capH) ∧ w1.heap.size < w'.heap.size ∧ TRow 83 w' w3.heap.size (.slice AH nn capH) ts ∧ BWx w' w.heap.size ∧ Below w.heap.size w w')) (by kernel_rfl) (by ((try dsimp only); first | with_reducible exact t14_drew T0.out | with_reducible exact t14_keep (by assumption) hb6 | with_reducible exact t14_keep (by assumption) hb5 | with_reducible exact t14_store (by assumption) hAGn hAb _ _ | with_reducible assumption)) (fun hHeld => ?_)
                refine wpAnyH_take (i := 0) (oi := _) (v := ?vpq_0_9) rfl (by kernel_rfl) (by kernel_rfl) (by kernel_rfl) (fun _ _ _ h => h) (Or.inl ⟨by rfl, ?ypq_0_9⟩) (by assumption) ?rpq_0_9
                case ypq_0_9 => (intro w hSw; (try dsimp only at hSw); (obtain ⟨hsw0, hsw1, hsw2, hsw3, hsw4, hsw5⟩ := hSw); go_simp; try with_reducible rfl)
                try simp only [Act.put, List.setIfInBounds_toArray, List.set_cons_zero, List.set_cons_succ]
                refine wpAnyH_take (i := 1) (oi := _) (v := ?vpq_1_10) rfl (by kernel_rfl) (by kernel_rfl) (by kernel_rfl) (fun _ _ _ h => h) (Or.inl ⟨by rfl, ?ypq_1_10⟩) (by assumption) ?rpq_1_10
                case ypq_1_10 => (intro w hSw; (try dsimp only at hSw); (obtain ⟨hsw0, hsw1, hsw2, hsw3, hsw4, hsw5⟩ := hSw); go_simp; try with_reducible rfl)
                try simp only [Act.put, List.setIfInBounds_toArray, List.set_cons_zero, List.set_cons_succ]
                refine wpAnyH_ready (rs := [2]) (by kernel_rfl) (by simp) ?_
                refine AllReadyH.cons (o := _) rfl (fun K hK => ?_) AllReadyH.nil
                (go_simp; go_at_call 81; refine (pzGood_any _ ts _ _ _ (t14_rd (by assumption)) (Nat.le_refl _)).mono ?_; rw [hg.out]; rintro e w5 ⟨rfl, hb5⟩)
                refine hK.out _ _ ?_ (fun hHeld => ?_)
                · ((try dsimp only); first | with_reducible exact t14_drew T0.out | with_reducible exact t14_keep (by assumption) hb6 | with_reducible exact t14_keep (by assumption) hb5 | with_reducible exact t14_store (by assumption) hAGn hAb _ _ | with_reducible assumption)
                clear hK K
                try simp only [Act.put, List.setIfInBounds_toArray, List.set_cons_zero, List.set_cons_succ]
                refine wpAnyH_take (i := 3) (oi := _) (v := ?vpq_3_11) rfl (by kernel_rfl) (by kernel_rfl) (by kernel_rfl) (fun _ _ _ h => h) (Or.inl ⟨by rfl, ?ypq_3_11⟩) (by assumption) ?rpq_3_11
                case ypq_3_11 => (intro w hSw; (try dsimp only at hSw); (obtain ⟨hsw0, hsw1, hsw2, hsw3, hsw4, hsw5⟩ := hSw); go_simp; try with_reducible rfl)
                try simp only [Act.put, List.setIfInBounds_toArray, List.set_cons_zero, List.set_cons_succ]
                refine wpAnyH_take (i := 4) (oi := _) (v := ?vpq_4_12) rfl (by kernel_rfl) (by kernel_rfl) (by kernel_rfl) (fun _ _ _ h => h) (Or.inl ⟨by kernel_rfl, ?ypq_4_12⟩) (by assumption) ?rpq_4_12
                case ypq_4_12 => (intro w hSw; (try dsimp only at hSw); (obtain ⟨hsw0, hsw1, hsw2, hsw3, hsw4, hsw5⟩ := hSw); go_simp; try with_reducible rfl)
                try simp only [Act.put, List.setIfInBounds_toArray, List.set_cons_zero, List.set_cons_succ]
                refine wpAnyH_take (i := 6) (oi := _) (v := ?vpq_6_13) rfl (by kernel_rfl) (by kernel_rfl) (by kernel_rfl) (fun _ _ _ h => h) (Or.inl ⟨by kernel_rfl, ?ypq_6_13⟩) (by assumption) ?rpq_6_13
                case ypq_6_13 => (intro w hSw; (try dsimp only at hSw); (obtain ⟨hsw0, hsw1, hsw2, hsw3, hsw4, hsw5⟩ := hSw); go_simp; try with_reducible rfl)
                try simp only [Act.put, List.setIfInBounds_toArray, List.set_cons_zero, List.set_cons_succ]
                refine wpAnyH_ready (rs := [5]) (by kernel_rfl) (by simp) ?_
                refine AllReadyH.cons (o := _) rfl (fun K hK => ?_) AllReadyH.nil
                (go_simp; go_at_call 82; refine (pzText_any _ ts _ _ _ (t14_rd (by assumption)) (Nat.le_refl _) hq8 hr3.out hr4.out).mono ?_; rw [hT8.out]; rintro e w6 ⟨rfl, hb6⟩)
                refine hK.out _ _ ?_ (fun hHeld => ?_)
                · ((try dsimp only); first | with_reducible exact t14_drew T0.out | with_reducible exact t14_keep (by assumption) hb6 | with_reducible exact t14_keep (by assumption) hb5 | with_reducible exact t14_store (by assumption) hAGn hAb _ _ | with_reducible assumption)
                clear hK K
                try simp only [Act.put, List.setIfInBounds_toArray, List.set_cons_zero, List.set_cons_succ]
                refine wpAnyH_take (i := 7) (oi := _) (v := ?vpq_7_14) rfl (by kernel_rfl) (by kernel_rfl) (by kernel_rfl) (fun _ _ _ h => h) (Or.inl ⟨by kernel_rfl, ?ypq_7_14⟩) (by assumption) ?rpq_7_14
                case ypq_7_14 => (intro w hSw; (try dsimp only at hSw); (obtain ⟨hsw0, hsw1, hsw2, hsw3, hsw4, hsw5⟩ := hSw); go_simp; try with_reducible rfl)
                try simp only [Act.put, List.setIfInBounds_toArray, List.set_cons_zero, List.set_cons_succ]
                refine wpAnyH_take (i := 8) (oi := _) (v := ?vpq_8_15) rfl (by kernel_rfl) (by kernel_rfl) (by kernel_rfl) (fun _ _ _ h => h) (Or.inl ⟨by rfl, ?ypq_8_15⟩) (by assumption) ?rpq_8_15
                case ypq_8_15 => (intro w hSw; (try dsimp only at hSw); (obtain ⟨hsw0, hsw1, hsw2, hsw3, hsw4, hsw5⟩ := hSw); go_simp; try with_reducible rfl)
                try simp only [Act.put, List.setIfInBounds_toArray, List.set_cons_zero, List.set_cons_succ]
                have hbw9 : BWx w6 w.heap.size := hHeld.2.2.2.2.1
                obtain ⟨x9, y9, h9⟩ := hbw9
                have e0 := h9.1.1
                have e1 := h9.1.2.1
                have e2 := h9.1.2.2
                have e3 := h9.2.1
                have e4 := h9.2.2
                refine wpAnyH_ready (rs := [9]) (by kernel_rfl) (by simp) ?_
                refine AllReadyH.cons (o := _) rfl (fun K hK => ?_) AllReadyH.nil
                go_simp
                refine hK.out _ _ ?_ (fun hHeld => ?_)
                · ((try dsimp only); first | with_reducible exact t14_drew T0.out | with_reducible exact t14_keep (by assumption) hb6 | with_reducible exact t14_keep (by assumption) hb5 | with_reducible exact t14_store (by assumption) hAGn hAb _ _ | with_reducible assumption)
                clear hK K
                try simp only [Act.put, List.setIfInBounds_toArray, List.set_cons_zero, List.set_cons_succ]
                refine wpAnyH_ready (rs := [10]) (by kernel_rfl) (by simp) ?_
                refine AllReadyH.cons (o := _) rfl (fun K hK => ?_) AllReadyH.nil
                go_simp
                refine hK.out _ _ ?_ (fun hHeld => ?_)
                · ((try dsimp only); first | with_reducible exact t14_drew T0.out | with_reducible exact t14_keep (by assumption) hb6 | with_reducible exact t14_keep (by assumption) hb5 | with_reducible exact t14_store (by assumption) hAGn hAb _ _ | with_reducible assumption)
                clear hK K
                try simp only [Act.put, List.setIfInBounds_toArray, List.set_cons_zero, List.set_cons_succ]
                refine wpAnyH_done (by kernel_rfl) ?_ _
                go_wp2_with fail
                have HH := t14_end (t14_keep (by assumption) hb6) hAGn hAb (.int .i64 (q : Int)) (.slice AH nn capH)
                obtain ⟨⟨⟨n0, n1, n2⟩, n3, n4⟩, hTe, hBe⟩ := HH
                refine bodyPost_ret (v := .tuple #[pz (q : Int) (.slice AH nn capH), .bool true]) (by simp [results, Tryd.results63, go_sem, n0, n1]) rfl ?_
                exact ⟨(q : Int), ts, _, by rw [hok.out], hTe, (fun _ => ⟨hoM.out.symm, htsM.out.symm⟩), hBe⟩
              · have hok : Hid (okY s = false) := Lib.hid (by rw [hM2.out, hg]; simp [hq])
                replace hg := Lib.hid hg
                have hd : (T8.toList == s.toList) = false := by
                  simp only [beq_eq_false_iff_ne, ne_eq]
                  intro e
                  apply hq
                  rw [ByteArray.toList_eq, ByteArray.toList_eq] at e
                  exact ba_eq.2 e
                refine wp_region_held_drew (S := (fun w' => w'.cell? ⟨w1.heap.size, 0, none⟩ = some (.int .i64 (q : Int)) ∧ w'.cell? ⟨w1.heap.size, 1, none⟩ = some (.slice AH nn capH) ∧ w1.heap.size < w'.heap.size ∧ TRow 83 w' w3.heap.size (.slice AH nn capH) ts ∧ BWx w' w.heap.size ∧ Below w.heap.size w w')) (by kernel_rfl) (by ((try dsimp only); first | with_reducible exact t14_drew T0.out | with_reducible exact t14_keep (by assumption) hb6 | with_reducible exact t14_keep (by assumption) hb5 | with_reducible exact t14_store (by assumption) hAGn hAb _ _ | with_reducible assumption)) (fun hHeld => ?_)
                refine wpAnyH_take (i := 0) (oi := _) (v := ?vpq_0_16) rfl (by kernel_rfl) (by kernel_rfl) (by kernel_rfl) (fun _ _ _ h => h) (Or.inl ⟨by rfl, ?ypq_0_16⟩) (by assumption) ?rpq_0_16
                case ypq_0_16 => (intro w hSw; (try dsimp only at hSw); (obtain ⟨hsw0, hsw1, hsw2, hsw3, hsw4, hsw5⟩ := hSw); go_simp; try with_reducible rfl)
                try simp only [Act.put, List.setIfInBounds_toArray, List.set_cons_zero, List.set_cons_succ]
                refine wpAnyH_take (i := 1) (oi := _) (v := ?vpq_1_17) rfl (by kernel_rfl) (by kernel_rfl) (by kernel_rfl) (fun _ _ _ h => h) (Or.inl ⟨by rfl, ?ypq_1_17⟩) (by assumption) ?rpq_1_17
                case ypq_1_17 => (intro w hSw; (try dsimp only at hSw); (obtain ⟨hsw0, hsw1, hsw2, hsw3, hsw4, hsw5⟩ := hSw); go_simp; try with_reducible rfl)
                try simp only [Act.put, List.setIfInBounds_toArray, List.set_cons_zero, List.set_cons_succ]
                refine wpAnyH_ready (rs := [2]) (by kernel_rfl) (by simp) ?_
                refine AllReadyH.cons (o := _) rfl (fun K hK => ?_) AllReadyH.nil
                (go_simp; go_at_call 81; refine (pzGood_any _ ts _ _ _ (t14_rd (by assumption)) (Nat.le_refl _)).mono ?_; rw [hg.out]; rintro e w5 ⟨rfl, hb5⟩)
                refine hK.out _ _ ?_ (fun hHeld => ?_)
                · ((try dsimp only); first | with_reducible exact t14_drew T0.out | with_reducible exact t14_keep (by assumption) hb6 | with_reducible exact t14_keep (by assumption) hb5 | with_reducible exact t14_store (by assumption) hAGn hAb _ _ | with_reducible assumption)
                clear hK K
                try simp only [Act.put, List.setIfInBounds_toArray, List.set_cons_zero, List.set_cons_succ]
                refine wpAnyH_take (i := 3) (oi := _) (v := ?vpq_3_18) rfl (by kernel_rfl) (by kernel_rfl) (by kernel_rfl) (fun _ _ _ h => h) (Or.inl ⟨by rfl, ?ypq_3_18⟩) (by assumption) ?rpq_3_18
                case ypq_3_18 => (intro w hSw; (try dsimp only at hSw); (obtain ⟨hsw0, hsw1, hsw2, hsw3, hsw4, hsw5⟩ := hSw); go_simp; try with_reducible rfl)
                try simp only [Act.put, List.setIfInBounds_toArray, List.set_cons_zero, List.set_cons_succ]
                refine wpAnyH_take (i := 4) (oi := _) (v := ?vpq_4_19) rfl (by kernel_rfl) (by kernel_rfl) (by kernel_rfl) (fun _ _ _ h => h) (Or.inl ⟨by kernel_rfl, ?ypq_4_19⟩) (by assumption) ?rpq_4_19
                case ypq_4_19 => (intro w hSw; (try dsimp only at hSw); (obtain ⟨hsw0, hsw1, hsw2, hsw3, hsw4, hsw5⟩ := hSw); go_simp; try with_reducible rfl)
                try simp only [Act.put, List.setIfInBounds_toArray, List.set_cons_zero, List.set_cons_succ]
                refine wpAnyH_take (i := 6) (oi := _) (v := ?vpq_6_20) rfl (by kernel_rfl) (by kernel_rfl) (by kernel_rfl) (fun _ _ _ h => h) (Or.inl ⟨by kernel_rfl, ?ypq_6_20⟩) (by assumption) ?rpq_6_20
                case ypq_6_20 => (intro w hSw; (try dsimp only at hSw); (obtain ⟨hsw0, hsw1, hsw2, hsw3, hsw4, hsw5⟩ := hSw); go_simp; try with_reducible rfl)
                try simp only [Act.put, List.setIfInBounds_toArray, List.set_cons_zero, List.set_cons_succ]
                refine wpAnyH_ready (rs := [5]) (by kernel_rfl) (by simp) ?_
                refine AllReadyH.cons (o := _) rfl (fun K hK => ?_) AllReadyH.nil
                (go_simp; go_at_call 82; refine (pzText_any _ ts _ _ _ (t14_rd (by assumption)) (Nat.le_refl _) hq8 hr3.out hr4.out).mono ?_; rw [hT8.out]; rintro e w6 ⟨rfl, hb6⟩)
                refine hK.out _ _ ?_ (fun hHeld => ?_)
                · ((try dsimp only); first | with_reducible exact t14_drew T0.out | with_reducible exact t14_keep (by assumption) hb6 | with_reducible exact t14_keep (by assumption) hb5 | with_reducible exact t14_store (by assumption) hAGn hAb _ _ | with_reducible assumption)
                clear hK K
                try simp only [Act.put, List.setIfInBounds_toArray, List.set_cons_zero, List.set_cons_succ]
                refine wpAnyH_take (i := 7) (oi := _) (v := ?vpq_7_21) rfl (by kernel_rfl) (by kernel_rfl) (by kernel_rfl) (fun _ _ _ h => h) (Or.inl ⟨by kernel_rfl, ?ypq_7_21⟩) (by assumption) ?rpq_7_21
                case ypq_7_21 => (intro w hSw; (try dsimp only at hSw); (obtain ⟨hsw0, hsw1, hsw2, hsw3, hsw4, hsw5⟩ := hSw); go_simp; try with_reducible rfl)
                try simp only [Act.put, List.setIfInBounds_toArray, List.set_cons_zero, List.set_cons_succ]
                refine wpAnyH_take (i := 8) (oi := _) (v := ?vpq_8_22) rfl (by kernel_rfl) (by kernel_rfl) (by kernel_rfl) (fun _ _ _ h => h) (Or.inl ⟨by rfl, ?ypq_8_22⟩) (by assumption) ?rpq_8_22
                case ypq_8_22 => (intro w hSw; (try dsimp only at hSw); (obtain ⟨hsw0, hsw1, hsw2, hsw3, hsw4, hsw5⟩ := hSw); go_simp; try with_reducible rfl)
                try simp only [Act.put, List.setIfInBounds_toArray, List.set_cons_zero, List.set_cons_succ]
                have hbw9 : BWx w6 w.heap.size := hHeld.2.2.2.2.1
                obtain ⟨x9, y9, h9⟩ := hbw9
                have e0 := h9.1.1
                have e1 := h9.1.2.1
                have e2 := h9.1.2.2
                have e3 := h9.2.1
                have e4 := h9.2.2
                refine wpAnyH_ready (rs := [9]) (by kernel_rfl) (by simp) ?_
                refine AllReadyH.cons (o := _) rfl (fun K hK => ?_) AllReadyH.nil
                go_simp
                refine hK.out _ _ ?_ (fun hHeld => ?_)
                · ((try dsimp only); first | with_reducible exact t14_drew T0.out | with_reducible exact t14_keep (by assumption) hb6 | with_reducible exact t14_keep (by assumption) hb5 | with_reducible exact t14_store (by assumption) hAGn hAb _ _ | with_reducible assumption)
                clear hK K
                try simp only [Act.put, List.setIfInBounds_toArray, List.set_cons_zero, List.set_cons_succ]
                refine wpAnyH_ready (rs := [10]) (by kernel_rfl) (by simp) ?_
                refine AllReadyH.cons (o := _) rfl (fun K hK => ?_) AllReadyH.nil
                go_simp
                refine hK.out _ _ ?_ (fun hHeld => ?_)
                · ((try dsimp only); first | with_reducible exact t14_drew T0.out | with_reducible exact t14_keep (by assumption) hb6 | with_reducible exact t14_keep (by assumption) hb5 | with_reducible exact t14_store (by assumption) hAGn hAb _ _ | with_reducible assumption)
                clear hK K
                try simp only [Act.put, List.setIfInBounds_toArray, List.set_cons_zero, List.set_cons_succ]
                refine wpAnyH_done (by kernel_rfl) ?_ _
                go_wp2_with fail
                have HH := t14_end (t14_keep (by assumption) hb6) hAGn hAb (.int .i64 (q : Int)) (.slice AH nn capH)
                obtain ⟨⟨⟨n0, n1, n2⟩, n3, n4⟩, hTe, hBe⟩ := HH
                refine bodyPost_ret (v := .tuple #[pz (q : Int) (.slice AH nn capH), .bool false]) (by simp [results, Tryd.results63, go_sem, n0, n1]) rfl ?_
                exact ⟨(q : Int), ts, _, by rw [hok.out], hTe, (fun _ => ⟨hoM.out.symm, htsM.out.symm⟩), hBe⟩
    · have z2' : ((((prtL s.data.toList 58).length : Nat) : Int) == 2) = false := by simp; omega
      have hno := Lib.hid (okY_no2 z2)
      obtain ⟨⟨b0, b1, b2⟩, b3, b4⟩ := bx1.out
      go_wp2_with fail
      have hset := Lib.hid (bx1.out.set (.int .i64 0) (.slice none 0 0))
      obtain ⟨⟨n0, n1, n2⟩, n3, n4⟩ := hset.out
      refine bodyPost_ret (v := .tuple #[pz 0 (.slice none 0 0), .bool false]) (by simp [results, Tryd.results63, go_sem, n0, n1]) rfl ?_
      exact ⟨0, [], _, by rw [hno.out], TRow.nil _ _ _, (fun h => by rw [hno.out] at h; cases h), bel_set bl1.out (Nat.le_refl _) _ _⟩
  · have z1' : 100 < (s.size : Int) := by omega
    have hno := Lib.hid (okY_no1 z1)
    obtain ⟨⟨b0, b1, b2⟩, b3, b4⟩ := bx1.out
    go_wp2_with fail
    have hset := Lib.hid (bx1.out.set (.int .i64 0) (.slice none 0 0))
    obtain ⟨⟨n0, n1, n2⟩, n3, n4⟩ := hset.out
    refine bodyPost_ret (v := .tuple #[pz 0 (.slice none 0 0), .bool false]) (by simp [results, Tryd.results63, go_sem, n0, n1]) rfl ?_
    exact ⟨0, [], _, by rw [hno.out], TRow.nil _ _ _, (fun h => by rw [hno.out] at h; cases h), bel_set bl1.out (Nat.le_refl _) _ _⟩
end Go.Proofs.YthmdkbeccohjkaaDoor
