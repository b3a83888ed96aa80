/- ParsePuzzle: the program's contract. -/
import Derived.Test.YthmdkbeccohjkaaDoorPpC
import Derived.Test.YthmdkbeccohjkaaDoorIh
import Derived.Test.YthmdkbeccohjkaaDoorPzVb
namespace Go.Proofs.YthmdkbeccohjkaaDoor
set_option linter.unusedSimpArgs false
open Go.ChangeShapes Go.WideShapes Go.ChangeAt Go.RowKit Go.Shelf
set_option linter.unusedVariables false
attribute [local go_sem] Oper.semAt_some

def seqW (W : World) (s : ByteArray) (c : UInt8) : World := ((W.alloc (.cells #[.string s] 9)).alloc (.cells #[.string ⟨#[c]⟩] 9)).alloc (.cells #[.int .i64 0] 3)
theorem splitSeq_any (s : ByteArray) (c : UInt8) (W : World) :
    Calls Tryd.prog 66 #[.string s, .string ⟨#[c]⟩] W fun e w' => e = .returned (.func (.func 109) #[] #[.pointer (some ⟨W.heap.size + 1, 0, none⟩), .pointer (some ⟨W.heap.size, 0, none⟩), .pointer (some ⟨W.heap.size + 2, 0, none⟩)]) ∧ w' = seqW W s c := by
  have key : Calls Tryd.prog 85 #[.string s, .string ⟨#[c]⟩, .int .i64 0] W fun e w' => e = .returned (.func (.func 109) #[] #[.pointer (some ⟨W.heap.size + 1, 0, none⟩), .pointer (some ⟨W.heap.size, 0, none⟩), .pointer (some ⟨W.heap.size + 2, 0, none⟩)]) ∧ w' = seqW W s c := by
    go_enter Tryd.func85, Tryd.ntmps85
    go_wp2_with fail
    go_ret
    exact ⟨rfl, rfl⟩
  go_enter Tryd.func66, Tryd.ntmps66
  go_wp2_with fail
  refine key.mono ?_
  rintro e w' ⟨rfl, rfl⟩
  go_wp2_with fail
  go_ret
  exact ⟨rfl, rfl⟩
theorem seqW_size (W : World) (s : ByteArray) (c : UInt8) : (seqW W s c).heap.size = W.heap.size + 3 := by unfold seqW; simp
theorem seqW_vars (W : World) (s : ByteArray) (c : UInt8) : Vars (seqW W s c) W.heap.size s c := by
  refine ⟨?_, ?_, ?_⟩
  · exact ((Boxed.new W 9 (.string s)).alloc _).alloc _
  · have := (Boxed.new (W.alloc (.cells #[.string s] 9)) 9 (.string ⟨#[c]⟩)).alloc (.cells #[.int .i64 0] 3)
    rw [World.size_alloc] at this
    exact this
  · have := Boxed.new ((W.alloc (.cells #[.string s] 9)).alloc (.cells #[.string ⟨#[c]⟩] 9)) 3 (.int .i64 0)
    rw [World.size_alloc, World.size_alloc] at this
    exact this
theorem seqW_below (W : World) (s : ByteArray) (c : UInt8) : Below W.heap.size W (seqW W s c) := bel_alloc (bel_alloc (bel_alloc (Below.refl _ _) _) _) _

theorem BoxW.kept {w w' : World} {k : Nat} {row : Option Nat} {x y : Value} (h : BoxW w k x y) (hg : w.grownBy w' row) (hr : row ≠ some k) : BoxW w' k x y := by
  have hb := hg.block k h.1.2.2 (fun e => hr e.symm)
  obtain ⟨⟨h0, h1, h2⟩, h3, h4⟩ := h
  refine ⟨⟨?_, ?_, Nat.lt_of_lt_of_le h2 hg.size⟩, ?_, ?_⟩
  · rw [← h0]; unfold World.cell?; dsimp only; rw [hb]
  · rw [← h1]; unfold World.cell?; dsimp only; rw [hb]
  · rw [← h3]; unfold World.frozen?; dsimp only; rw [hb]
  · rw [← h4]; unfold World.frozen?; dsimp only; rw [hb]
theorem TRow.keptV {q : TypeId} {w w' : World} {base b : Nat} {row : Option Nat} {v : Value} {xs : List Tri} (h : TRow q w base v xs) (hg : w.grownBy w' row) (hb : b < base)
    (hr : ∀ r, row = some r → r = b ∨ (base ≤ r ∧ ∃ o : Obj, w.heap[r]? = some o ∧ o.isCells = false)) : TRow q w' base v xs := by
  refine World.ownsRow.kept h hg ?_
  cases hv : v.ownBlock with
  | none => exact .inl rfl
  | some k =>
    refine .inr fun he => ?_
    have l0 := (World.ownsRow.lt h k hv).1
    rcases hr k he.symm with e | ⟨_, o, ho, hc⟩
    · omega
    · rcases h.2 with ⟨e, _⟩ | ⟨g, cap, cur, e, _, hgg, _⟩
      · rw [e] at hv; cases hv
      · rw [e] at hv
        simp [Value.ownBlock] at hv
        subst hv
        rw [hgg] at ho
        cases ho
        cases hc
theorem bel_undrew {w W : World} (h : Below w.drew.heap.size w.drew W) : Below w.heap.size w W := ⟨h.os, h.tape, h.output, h.size, h.block⟩
theorem bel_set {w W : World} {k : Nat} (h : Below w.heap.size w W) (hk : w.heap.size ≤ k) (a b : Value) : Below w.heap.size w ((W.setCell ⟨k, 0, none⟩ a).setCell ⟨k, 1, none⟩ b) :=
  (h.setCell (p := ⟨k, 0, none⟩) hk a).setCell (p := ⟨k, 1, none⟩) hk b
def oZ (s : ByteArray) : Int := if okZ s then oP s.data.toList else 0
def tZ (s : ByteArray) : List Tri := if okZ s then tsP s.data.toList else []
/-- What ParsePuzzle answers. -/
def PzAns (o : Int) (ts : List Tri) (ok : Bool) (w : World) (e : Ending) (w' : World) : Prop :=
  ∃ v, e = .returned (.tuple #[pz o v, .bool ok]) ∧ TRow 83 w' w.heap.size v ts ∧ Below w.heap.size w w'
theorem set_heap (w : World) (p : Addr) (v : Value) (k : Nat) (h : k ≠ p.block) : (w.setCell p v).heap[k]? = w.heap[k]? := by
  show (w.heap.modify p.block _)[k]? = _
  rw [Array.getElem?_modify, if_neg (fun e => h e.symm)]
/-- What the rounds keep. -/
def RndI (w w5 : World) (G : Nat) (o : Int) (pre : List Tri) (W : World) : Prop :=
  (∃ x, TRow 83 W w5.heap.size x pre ∧ BoxW W G (.int .i64 o) x) ∧ BoxW W w.heap.size (.int .i64 0) (.slice none 0 0) ∧ Below w.heap.size w W ∧ w5.heap.size ≤ W.heap.size
theorem rndI_own {α : Type} {f : List α → List Tri} {w w5 : World} {G b : Nat} {o : Int} (h1 : w.heap.size < G) (h2 : G < b) (h3 : b < w5.heap.size) : OwnVar b w5.heap.size (fun pre W => RndI w w5 G o (f pre) W) := by
  rintro pre A B row ⟨⟨x, hR, hG⟩, hA, hB, hz⟩ hg hr
  have hne : ∀ k, k < b → row ≠ some k := fun k hk e => by
    rcases hr k e with q | ⟨q, _⟩ <;> omega
  exact ⟨⟨x, hR.keptV hg h3 hr, hG.kept hg (hne G h2)⟩, hA.kept hg (hne _ (by omega)), hB.grown hg hB.size (fun k e => by rcases hr k e with q | ⟨q, _⟩ <;> omega), Nat.le_trans hz hg.size⟩

theorem rdT_one {q : TypeId} {V : World} {t : Tri} {g : Nat} (h : TRow q V g (.slice (some ⟨g, 0, none⟩) 1 1) [t]) : RdT V V.heap.size (.slice (some ⟨g, 0, none⟩) 1 1) [t] := h.rd
theorem Sent.drew {w : World} (h : Sent w) : Sent w.drew := h
theorem keepsO_grown {W w' : World} {row : Option Nat} (hg : W.grownBy w' row) (hc : ∀ r, row = some r → ∀ o, W.heap[r]? = some o → o.isCells = true) : KeepsOthers W w' :=
  ⟨hg.size, fun k o hk ho => (hg.block k (Array.getElem?_eq_some_iff.1 hk).1 (fun e => by have := hc k e.symm o hk; rw [this] at ho; cases ho)).trans hk⟩
theorem TRow.own_cells {q : TypeId} {W : World} {base : Nat} {v : Value} {xs : List Tri} (h : TRow q W base v xs) : ∀ r, v.ownBlock = some r → base ≤ r ∧ ∀ o, W.heap[r]? = some o → o.isCells = true := by
  intro r hr
  refine ⟨(World.ownsRow.lt h r hr).1, fun o ho => ?_⟩
  rcases h.2 with ⟨e, _⟩ | ⟨g, cap, cur, e, _, hgg, _⟩
  · rw [e] at hr; cases hr
  · rw [e] at hr
    simp [Value.ownBlock] at hr
    subst hr
    rw [hgg] at ho
    cases ho
    rfl
theorem boxW_grownT {q : TypeId} {W w' : World} {k base : Nat} {a b v : Value} {xs : List Tri} (h : BoxW W k a b) (hg : W.grownBy w' v.ownBlock) (hr : TRow q W base v xs) (hk : k < base) : BoxW w' k a b :=
  h.kept hg (fun e => by have := (hr.own_cells k e).1; omega)
/-- A round's worlds: the clue is made, laid, appended and stored. -/
theorem rnd_step {w w5 W w6 w11 : World} {G : Nat} {o : Int} {y v11 : Value} {ts : List Tri} {y0 y1 y2 : Int} (hz5 : Hid (w5.heap.size = G + 1 + 3)) (h1 : w.heap.size < G) (h5 : G < w5.heap.size) (hz : w5.heap.size ≤ W.heap.size)
    (hR : TRow 83 W w5.heap.size y ts) (hG : BoxW W G (.int .i64 o) y) (hA : BoxW W w.heap.size (.int .i64 0) (.slice none 0 0)) (hB : Below w.heap.size w W) (h6 : Below W.heap.size W w6)
    (hI : TRow 83 w11 w5.heap.size v11 (ts ++ [(y0, y1, y2)])) (hg : (w6.alloc (.cells #[.int .i64 y0, .int .i64 y1, .int .i64 y2] 83)).grownBy w11 y.ownBlock) :
    KeepsOthers W (w11.setCell ⟨G, 1, none⟩ v11) ∧ KpV (G + 1) W (w11.setCell ⟨G, 1, none⟩ v11) ∧ RndI w w5 G o (ts ++ [(y0, y1, y2)]) (w11.setCell ⟨G, 1, none⟩ v11) := by
  have hz5 := hz5.out
  have hs6 := h6.size
  have k7 := bel_alloc h6 (.cells #[.int .i64 y0, .int .i64 y1, .int .i64 y2] 83)
  generalize w6.alloc (.cells #[.int .i64 y0, .int .i64 y1, .int .i64 y2] 83) = w7 at *
  have hR7 := hR.below k7
  have hG7 := boxW_grownT (hG.keep k7) hg hR7 h5
  have hA7 := boxW_grownT (hA.keep k7) hg hR7 (by omega)
  have hs7 := k7.size
  have hsc := grownBy_setCell' w11 G v11
  have hblk : ∀ k, k ≠ G → (w11.setCell ⟨G, 1, none⟩ v11).heap[k]? = w11.heap[k]? := fun k hk => by
    show (w11.heap.modify G _)[k]? = _
    rw [Array.getElem?_modify, if_neg (fun e => hk e.symm)]
  refine ⟨?_, ?_, ?_⟩
  · refine ((?_ : KeepsOthers W w7).trans (keepsO_grown hg fun r hr => (hR7.own_cells r hr).2)).trans (KeepsOthers.setCell _ _ _)
    exact ⟨k7.size, fun k q hk _ => (k7.block k (Array.getElem?_eq_some_iff.1 hk).1).trans hk⟩
  · intro k k1 k2 q hq
    rw [hblk k (by omega)]
    have hq7 := (k7.block k (Array.getElem?_eq_some_iff.1 hq).1).trans hq
    exact (hg.block k (Array.getElem?_eq_some_iff.1 hq7).1 (fun e => by have := (hR7.own_cells k e.symm).1; omega)).trans hq7
  · refine ⟨⟨v11, TRow.setOther hI (by exact h5) _, ?_⟩, ?_, ?_, ?_⟩
    · obtain ⟨⟨a0, a1, a2⟩, a3, a4⟩ := hG7
      refine ⟨⟨?_, ?_, ?_⟩, ?_, ?_⟩
      all_goals simp [go_sem, a0, a1, a2, a3, a4]
    · obtain ⟨⟨a0, a1, a2⟩, a3, a4⟩ := hA7
      have hne : ¬ G = w.heap.size := by omega
      refine ⟨⟨?_, ?_, ?_⟩, ?_, ?_⟩
      all_goals simp [go_sem, a0, a1, a2, a3, a4, hne]
    · refine Below.setCell ?_ (by show w.heap.size ≤ G; omega) _
      exact (bel_trans hB k7).grown hg (Nat.le_trans hB.size hs7) fun k e => by have := (hR7.own_cells k e).1; omega
    · have := hg.size
      rw [World.size_setCell]
      omega

set_option maxRecDepth 100000 in
set_option maxHeartbeats 6400000 in
theorem implPz_in (s : ByteArray) (w : World) (hS : Sent w) (hT : PT w) (hs : s.size ≤ 1048576) :
    CallsIn Fence.wide 3 Tryd.prog 33 #[.string s] w (PzAns (oZ s) (tZ s) (okZ s) w) := by
  have bl0 := bel_alloc (Below.refl _ w) (.cells #[.int .i64 0, .slice none 0 0] 48)
  have bx0 := Lib.hid (BoxW.new w (.int .i64 0) (.slice none 0 0) 48)
  have hcl := cut_len s.data.toList 58
  rw [len_list] at hcl
  obtain ⟨q1, hq1⟩ : ∃ q, (Lib.cut s.data.toList [58]).2.2 = q := ⟨_, rfl⟩
  have C1 : Hid (∀ W, Calls Tryd.prog 64 #[.string s, .string ⟨#[58]⟩] W fun e w' => e = .returned (.tuple #[.string (baL (Lib.cut s.data.toList [58]).1), .string (baL (rest58 s.data.toList)), .bool q1]) ∧ ∃ n, w' = W.drewN n) := Lib.hid fun W => by
    rw [← hq1]
    exact cut_any s 58 W (by omega)
  clear hq1
  have N1 : Hid (∀ W, Sent W → Calls Tryd.prog 65 #[.string (baL (Lib.cut s.data.toList [58]).1)] W fun e w' => e = .returned (.int .i64 (oP s.data.toList)) ∧ Below W.heap.size W w') := Lib.hid fun W h => by
    have := numberIn_any (baL (Lib.cut s.data.toList [58]).1) W h (by rw [baL_size]; omega)
    rw [baL_toList] at this
    exact this
  obtain ⟨t, ht⟩ : ∃ t, rest58 s.data.toList = t := ⟨_, rfl⟩
  have htl : t.length ≤ 1048576 := by rw [← ht]; unfold rest58; omega
  rw [ht] at C1
  have hOK : Hid (okZ s = (pzG (oP s.data.toList) (tsP s.data.toList) && decide (textP (oP s.data.toList) (tsP s.data.toList) = s))) := Lib.hid rfl
  have hOZ : Hid (oZ s = if okZ s then oP s.data.toList else 0) := Lib.hid rfl
  have hTZ : Hid (tZ s = if okZ s then tsP s.data.toList else []) := Lib.hid rfl
  have hTS : Hid (tsP s.data.toList = if t = [] then [] else (pcs t 44).map clR) := Lib.hid (by unfold tsP; rw [ht])
  generalize oP s.data.toList = o at *
  generalize tsP s.data.toList = TS at *
  generalize baL (Lib.cut s.data.toList [58]).1 = s1 at *
  refine callsIn_of_wp_marks Tryd.func33 rfl trivial ?_ rfl
  simp only [Tryd.ntmps33, List.size_toArray, List.length_cons, List.length_nil, Nat.reduceAdd, Nat.reduceSub, Array.replicate_succ, Array.replicate_zero, List.push_toArray, List.append_toArray, List.nil_append, List.cons_append]
  have hro : Fence.wide.round = none := rfl
  have hf1 : Fence.wide.fn 64 := trivial
  have hf2 : Fence.wide.fn 65 := trivial
  have hf3 : Fence.wide.fn 66 := trivial
  have hf4 : Fence.wide.fn 68 := trivial
  gi_wp2_with (gi_at_call 64; refine (callsIn_wide.2 (C1.out _)).mono ?_; rintro e w' ⟨rfl, n1, rfl⟩)
  have bx1 := Lib.hid (bx0.out.drewN n1)
  have bl1 := bel_drewN bl0 n1
  have s1' := hS.keep bl1
  gi_wp2_with (gi_at_call 65; refine (callsIn_wide.2 (N1.out _ s1')).mono ?_; rintro e w3 ⟨rfl, hb3⟩; have bx3 := Lib.hid (bx1.out.keep hb3); have bl3 := bel_trans bl1 hb3; have s3 := Lib.hid (hS.keep bl3); clear hb3 bl1 s1' bl0; have bh3 := Lib.hid (BoxW.new w3 (.int .i64 o) (.slice none 0 0) 48); have bk := bel_alloc (Below.refl _ w3) (.cells #[.int .i64 o, .slice none 0 0] 48); have bx4 := Lib.hid (bx3.out.keep bk); have bl4 := Lib.hid (bel_trans bl3 bk); have s4 := Lib.hid (s3.out.keep bk); clear bk bl3; have hh4 : (w3.alloc (.cells #[.int .i64 o, .slice none 0 0] 48)).heap.size = w3.heap.size + 1 := World.size_alloc _ _; have hwG : Hid (w.heap.size < w3.heap.size) := Lib.hid bx3.out.1.2.2; obtain ⟨⟨b0, b1, b2⟩, b3, b4⟩ := bh3.out; have he : (baL t).toList.isEmpty = t.isEmpty := by rw [ByteArray.toList_eq, baL_toList])
  · have hte : t ≠ [] := by
      have h := ‹(!t.isEmpty) = true›
      simpa using h
    refine (callsIn_wide.2 (splitSeq_any (baL t) 44 _)).mono ?_
    rintro e w' ⟨rfl, rfl⟩
    gi_wp2
    clear b0 b1 b2 b3 b4
    generalize hw4 : w3.alloc (.cells #[.int .i64 o, .slice none 0 0] 48) = w4 at *
    clear hw4
    have hv5 : Hid (Vars (seqW w4 (baL t) 44) (w3.heap.size + 1) (baL t) 44) := Lib.hid (by have := seqW_vars w4 (baL t) 44; rw [hh4] at this; exact this)
    have hz5 := seqW_size w4 (baL t) 44
    have bl5 := Lib.hid (bel_trans bl4.out (seqW_below w4 (baL t) 44))
    have bx5 := Lib.hid (bx4.out.keep (seqW_below w4 (baL t) 44))
    have bh5 := Lib.hid (bh3.out.keep (seqW_below w4 (baL t) 44))
    have s5 := Lib.hid (s4.out.keep (seqW_below w4 (baL t) 44))
    generalize hw5 : seqW w4 (baL t) 44 = w5 at *
    clear hw5 bx4 bh3 bl4 s4
    have HWG := hwG.out
    have hz5b : Hid (w5.heap.size = w3.heap.size + 1 + 3) := Lib.hid (by omega)
    have hlt5 : w3.heap.size < w5.heap.size := by omega
    have sent_w : ∀ W, w5.heap.size ≤ W.heap.size → Below w.heap.size w W → Sent W := fun W _ hb => hS.keep hb
    refine wpIn_range_var (w := w5) hro (by omega) (gf := 109) (lb := #[.pointer (some ⟨w3.heap.size + 1 + 1, 0, none⟩), .pointer (some ⟨w3.heap.size + 1, 0, none⟩), .pointer (some ⟨w3.heap.size + 1 + 2, 0, none⟩)]) rfl trivial (Go.Proofs.enters_of Tryd.func109 (by kernel_rfl) rfl)
      (b := w3.heap.size + 1) (by omega) (split_var 2 (by omega) (w3.heap.size + 1) 1048576 44 t w5 (by omega) htl hv5.out)
      (fun h k => h.t k) (KpV.obj (by omega)) (fun _ => rfl) (fun pre W => RndI w w5 w3.heap.size o (pre.map fun y => clR y.1) W) (rndI_own (by omega) (by omega) (by omega))
      ⟨⟨_, TRow.nil _ _ _, bh5.out⟩, bx5.out, bl5.out, Nat.le_refl _⟩ ?a1 ?assign ?body ?done
    case assign =>
      intro l x W K hK
      dsimp only [encS]
      gi_wp2
      exact hK
    case body =>
      rintro l pre x W ⟨⟨y, hR, hG⟩, hA, hB, hz⟩ hlt
      gi_wp2
      obtain ⟨AH, capH, rfl, hcH⟩ := hR.formS
      have hH0 := Lib.hid hG
      have hI0 := Lib.hid hR
      have hA0 := Lib.hid hA
      have hB0 := Lib.hid hB
      have hcl := Lib.hid (fun W h => clueIn_any x.1 W h (by have := x.2; omega))
      have hsW := Lib.hid (sent_w W hz hB)
      generalize hts : pre.map (fun y => clR y.1) = ts at *
      have hlts : ts.length ≤ 1048577 := by rw [← hts, List.length_map]; omega
      have hpre : Hid ((pre ++ [x]).map (fun y => clR y.1) = ts ++ [clR x.1]) := Lib.hid (by rw [List.map_append, hts]; rfl)
      generalize hct : clR x.1 = ct at *
      obtain ⟨y0, y1, y2⟩ := ct
      clear hct hts hR hG hA hB
      dsimp only at hcl
      generalize hxx : baL x.1 = xx at *
      clear hxx
      obtain ⟨g0, g1, g2⟩ := hH0.out.1
      generalize hnn : ts.length = nn at *
      have HNN := Lib.hid hnn
      clear hnn
      refine wpIn_region_held (S := fun _ => True) (by kernel_rfl) (fun ⟨_, _, h⟩ => h) (by kernel_rfl) trivial (fun hHeld => ?_)
      refine wpAnyH_take (i := 0) (oi := _) (v := ?vpp_0_1) rfl (by kernel_rfl) (by kernel_rfl) (by kernel_rfl) (fun _ _ _ h => h) (Or.inl ⟨by rfl, ?ypp_0_1⟩) (by assumption) ?rpp_0_1
      case ypp_0_1 => (intro w hSw; (try dsimp only at hSw); go_simp; try with_reducible rfl)
      try simp only [Act.put, List.setIfInBounds_toArray, List.set_cons_zero, List.set_cons_succ]
      refine wpAnyH_take (i := 2) (oi := _) (v := ?vpp_2_2) rfl (by kernel_rfl) (by kernel_rfl) (by kernel_rfl) (fun _ _ _ h => h) (Or.inl ⟨by rfl, ?ypp_2_2⟩) (by assumption) ?rpp_2_2
      case ypp_2_2 => (intro w hSw; (try dsimp only at hSw); go_simp; try with_reducible rfl)
      try simp only [Act.put, List.setIfInBounds_toArray, List.set_cons_zero, List.set_cons_succ]
      refine wpAnyH_ready (rs := [1, 3]) (by kernel_rfl) (by simp) ?_
      refine AllReadyH.cons (o := _) rfl (fun K hK => ?_) ?_
      · (go_simp)
        refine hK.out _ _ trivial (fun hHeld => ?_)
        clear hK K
        try simp only [Act.put, List.setIfInBounds_toArray, List.set_cons_zero, List.set_cons_succ]
        refine wpAnyH_ready (rs := [3]) (by kernel_rfl) (by simp) ?_
        refine AllReadyH.cons (o := _) rfl (fun K hK => ?_) ?_
        · (go_simp; go_at_call 67; refine (hcl.out _ hsW.out.drew).mono ?_; rintro e w6 ⟨rfl, hb5⟩; have hb6 := Lib.hid (bel_undrew hb5); have hI5 := hI0.out.below hb6.out; have hH5 := hH0.out.keep hb6.out; obtain ⟨g3, g4, g5⟩ := hH5.1)
          refine hK.out _ _ trivial (fun hHeld => ?_)
          clear hK K
          try simp only [Act.put, List.setIfInBounds_toArray, List.set_cons_zero, List.set_cons_succ]
          refine wpAnyH_ready (rs := [4]) (by kernel_rfl) (by simp) ?_
          refine AllReadyH.cons (o := _) rfl (fun K hK => ?_) ?_
          · (go_simp)
            refine hK.out _ _ trivial (fun hHeld => ?_)
            clear hK K
            try simp only [Act.put, List.setIfInBounds_toArray, List.set_cons_zero, List.set_cons_succ]
            refine wpAnyH_ready (rs := [5]) (by kernel_rfl) (by simp) ?_
            refine AllReadyH.cons (o := _) rfl (fun K hK => ?_) ?_
            · (refine step_pushR 46 83 Tryd.underlying46 info_clue (by rfl) (.tmp 26) (.tmp 29) (by rfl) w5.heap.size (.slice AH nn capH) ts (by exact hI5.below (bel_alloc (Below.refl _ _) _)) [(y0, y1, y2)] _ (some ⟨w6.heap.size, 0, none⟩) 1 1 (by rfl) (rdT_one (TRow.one _ w6 (y0, y1, y2))) (by rw [HNN.out]; simp; omega) (by have := hb6.out.size; simp; omega) (by rfl) ?_; intro v11 w11 hI11 hb11 hg11; obtain ⟨A11, cap11, hv11, hc11⟩ := hI11.formS; generalize (ts ++ [(y0, y1, y2)]).length = m11 at hv11; subst hv11; clear hc11)
              refine hK.out _ _ trivial (fun hHeld => ?_)
              clear hK K
              try simp only [Act.put, List.setIfInBounds_toArray, List.set_cons_zero, List.set_cons_succ]
              refine wpAnyH_take (i := 6) (oi := _) (v := ?vpp_6_3) rfl (by kernel_rfl) (by kernel_rfl) (by kernel_rfl) (fun _ _ _ h => h) (Or.inl ⟨by rfl, ?ypp_6_3⟩) (by assumption) ?rpp_6_3
              case ypp_6_3 => (intro w hSw; (try dsimp only at hSw); go_simp; try with_reducible rfl)
              try simp only [Act.put, List.setIfInBounds_toArray, List.set_cons_zero, List.set_cons_succ]
              obtain ⟨⟨d0, d1, d2⟩, d3, d4⟩ := boxW_grownT (hH5.keep (bel_alloc (Below.refl _ _) (.cells #[.int .i64 y0, .int .i64 y1, .int .i64 y2] 83))) hg11 (hI5.below (bel_alloc (Below.refl _ _) _)) hlt5
              refine wpAnyH_ready (rs := [7]) (by kernel_rfl) (by simp) ?_
              refine AllReadyH.cons (o := _) rfl (fun K hK => ?_) ?_
              · (go_simp)
                refine hK.out _ _ trivial (fun hHeld => ?_)
                clear hK K
                try simp only [Act.put, List.setIfInBounds_toArray, List.set_cons_zero, List.set_cons_succ]
                refine wpAnyH_done (by kernel_rfl) ?_ _
                have hst := rnd_step (o := o) hz5b HWG hlt5 hz hI0.out hH0.out hA0.out hB0.out hb6.out hI11 hg11
                rw [← hpre.out] at hst
                exact hst
              exact AllReadyH.nil
            exact AllReadyH.nil
          exact AllReadyH.nil
        exact AllReadyH.nil
      refine AllReadyH.cons (o := _) rfl (fun K hK => ?_) ?_
      · (go_simp; go_at_call 67; refine (hcl.out _ hsW.out.drew).mono ?_; rintro e w6 ⟨rfl, hb5⟩; have hb6 := Lib.hid (bel_undrew hb5); have hI5 := hI0.out.below hb6.out; have hH5 := hH0.out.keep hb6.out; obtain ⟨g3, g4, g5⟩ := hH5.1)
        refine hK.out _ _ trivial (fun hHeld => ?_)
        clear hK K
        try simp only [Act.put, List.setIfInBounds_toArray, List.set_cons_zero, List.set_cons_succ]
        refine wpAnyH_ready (rs := [1, 4]) (by kernel_rfl) (by simp) ?_
        refine AllReadyH.cons (o := _) rfl (fun K hK => ?_) ?_
        · (go_simp)
          refine hK.out _ _ trivial (fun hHeld => ?_)
          clear hK K
          try simp only [Act.put, List.setIfInBounds_toArray, List.set_cons_zero, List.set_cons_succ]
          refine wpAnyH_ready (rs := [4]) (by kernel_rfl) (by simp) ?_
          refine AllReadyH.cons (o := _) rfl (fun K hK => ?_) ?_
          · (go_simp)
            refine hK.out _ _ trivial (fun hHeld => ?_)
            clear hK K
            try simp only [Act.put, List.setIfInBounds_toArray, List.set_cons_zero, List.set_cons_succ]
            refine wpAnyH_ready (rs := [5]) (by kernel_rfl) (by simp) ?_
            refine AllReadyH.cons (o := _) rfl (fun K hK => ?_) ?_
            · (refine step_pushR 46 83 Tryd.underlying46 info_clue (by rfl) (.tmp 26) (.tmp 29) (by rfl) w5.heap.size (.slice AH nn capH) ts (by exact hI5.below (bel_alloc (Below.refl _ _) _)) [(y0, y1, y2)] _ (some ⟨w6.heap.size, 0, none⟩) 1 1 (by rfl) (rdT_one (TRow.one _ w6 (y0, y1, y2))) (by rw [HNN.out]; simp; omega) (by have := hb6.out.size; simp; omega) (by rfl) ?_; intro v11 w11 hI11 hb11 hg11; obtain ⟨A11, cap11, hv11, hc11⟩ := hI11.formS; generalize (ts ++ [(y0, y1, y2)]).length = m11 at hv11; subst hv11; clear hc11)
              refine hK.out _ _ trivial (fun hHeld => ?_)
              clear hK K
              try simp only [Act.put, List.setIfInBounds_toArray, List.set_cons_zero, List.set_cons_succ]
              refine wpAnyH_take (i := 6) (oi := _) (v := ?vpp_6_4) rfl (by kernel_rfl) (by kernel_rfl) (by kernel_rfl) (fun _ _ _ h => h) (Or.inl ⟨by rfl, ?ypp_6_4⟩) (by assumption) ?rpp_6_4
              case ypp_6_4 => (intro w hSw; (try dsimp only at hSw); go_simp; try with_reducible rfl)
              try simp only [Act.put, List.setIfInBounds_toArray, List.set_cons_zero, List.set_cons_succ]
              obtain ⟨⟨d0, d1, d2⟩, d3, d4⟩ := boxW_grownT (hH5.keep (bel_alloc (Below.refl _ _) (.cells #[.int .i64 y0, .int .i64 y1, .int .i64 y2] 83))) hg11 (hI5.below (bel_alloc (Below.refl _ _) _)) hlt5
              refine wpAnyH_ready (rs := [7]) (by kernel_rfl) (by simp) ?_
              refine AllReadyH.cons (o := _) rfl (fun K hK => ?_) ?_
              · (go_simp)
                refine hK.out _ _ trivial (fun hHeld => ?_)
                clear hK K
                try simp only [Act.put, List.setIfInBounds_toArray, List.set_cons_zero, List.set_cons_succ]
                refine wpAnyH_done (by kernel_rfl) ?_ _
                have hst := rnd_step (o := o) hz5b HWG hlt5 hz hI0.out hH0.out hA0.out hB0.out hb6.out hI11 hg11
                rw [← hpre.out] at hst
                exact hst
              exact AllReadyH.nil
            exact AllReadyH.nil
          exact AllReadyH.nil
        refine AllReadyH.cons (o := _) rfl (fun K hK => ?_) ?_
        · (go_simp)
          refine hK.out _ _ trivial (fun hHeld => ?_)
          clear hK K
          try simp only [Act.put, List.setIfInBounds_toArray, List.set_cons_zero, List.set_cons_succ]
          refine wpAnyH_ready (rs := [1]) (by kernel_rfl) (by simp) ?_
          refine AllReadyH.cons (o := _) rfl (fun K hK => ?_) ?_
          · (go_simp)
            refine hK.out _ _ trivial (fun hHeld => ?_)
            clear hK K
            try simp only [Act.put, List.setIfInBounds_toArray, List.set_cons_zero, List.set_cons_succ]
            refine wpAnyH_ready (rs := [5]) (by kernel_rfl) (by simp) ?_
            refine AllReadyH.cons (o := _) rfl (fun K hK => ?_) ?_
            · (refine step_pushR 46 83 Tryd.underlying46 info_clue (by rfl) (.tmp 26) (.tmp 29) (by rfl) w5.heap.size (.slice AH nn capH) ts (by exact hI5.below (bel_alloc (Below.refl _ _) _)) [(y0, y1, y2)] _ (some ⟨w6.heap.size, 0, none⟩) 1 1 (by rfl) (rdT_one (TRow.one _ w6 (y0, y1, y2))) (by rw [HNN.out]; simp; omega) (by have := hb6.out.size; simp; omega) (by rfl) ?_; intro v11 w11 hI11 hb11 hg11; obtain ⟨A11, cap11, hv11, hc11⟩ := hI11.formS; generalize (ts ++ [(y0, y1, y2)]).length = m11 at hv11; subst hv11; clear hc11)
              refine hK.out _ _ trivial (fun hHeld => ?_)
              clear hK K
              try simp only [Act.put, List.setIfInBounds_toArray, List.set_cons_zero, List.set_cons_succ]
              refine wpAnyH_take (i := 6) (oi := _) (v := ?vpp_6_5) rfl (by kernel_rfl) (by kernel_rfl) (by kernel_rfl) (fun _ _ _ h => h) (Or.inl ⟨by rfl, ?ypp_6_5⟩) (by assumption) ?rpp_6_5
              case ypp_6_5 => (intro w hSw; (try dsimp only at hSw); go_simp; try with_reducible rfl)
              try simp only [Act.put, List.setIfInBounds_toArray, List.set_cons_zero, List.set_cons_succ]
              obtain ⟨⟨d0, d1, d2⟩, d3, d4⟩ := boxW_grownT (hH5.keep (bel_alloc (Below.refl _ _) (.cells #[.int .i64 y0, .int .i64 y1, .int .i64 y2] 83))) hg11 (hI5.below (bel_alloc (Below.refl _ _) _)) hlt5
              refine wpAnyH_ready (rs := [7]) (by kernel_rfl) (by simp) ?_
              refine AllReadyH.cons (o := _) rfl (fun K hK => ?_) ?_
              · (go_simp)
                refine hK.out _ _ trivial (fun hHeld => ?_)
                clear hK K
                try simp only [Act.put, List.setIfInBounds_toArray, List.set_cons_zero, List.set_cons_succ]
                refine wpAnyH_done (by kernel_rfl) ?_ _
                have hst := rnd_step (o := o) hz5b HWG hlt5 hz hI0.out hH0.out hA0.out hB0.out hb6.out hI11 hg11
                rw [← hpre.out] at hst
                exact hst
              exact AllReadyH.nil
            exact AllReadyH.nil
          exact AllReadyH.nil
        exact AllReadyH.nil
      exact AllReadyH.nil
    case done =>
      rintro D ys W hD hys ⟨⟨y, hR, hG⟩, hA, hB, hz⟩ hK
      have hmap : ys.map (fun y => clR y.1) = TS := by
        rw [hTS.out, if_neg hte, ← hys, List.map_map]
        rfl
      rw [hmap] at hR
      clear hmap hys
      have HI := Lib.hid hR
      have HG := Lib.hid hG
      have HA := Lib.hid hA
      have HB := Lib.hid hB
      have HK := Lib.hid hK
      have hbase : Hid (w.heap.size ≤ w5.heap.size ∧ w.heap.size < w5.heap.size ∧ w3.heap.size < w5.heap.size) := Lib.hid (by omega)
      clear hR hG hA hB hK
      obtain ⟨AH, capH, rfl, hcH⟩ := HI.out.formS
      have HRD := Lib.hid HI.out.rd
      have HPT := Lib.hid (hT.keep HB.out)
      obtain ⟨⟨b0, b1, b2⟩, b3, b4⟩ := HG.out
      generalize hnn : TS.length = nn at *
      have HNN := Lib.hid hnn
      clear hnn hcH
      gi_wp2
      refine (callsIn_wide.2 (implPT_any o TS _ _ _ (HRD.out) (Nat.le_refl _) HPT.out)).mono ?_
      rintro e w8 ⟨rfl, hb8⟩
      have HG8 := Lib.hid (HG.out.keep hb8)
      have HA8 := Lib.hid (HA.out.keep hb8)
      have HB8 := Lib.hid (bel_trans HB.out hb8)
      have HI8 := Lib.hid (HI.out.below hb8)
      have HK8 := Lib.hid ((hb8.block D (Array.getElem?_eq_some_iff.1 HK.out).1).trans HK.out)
      clear b0 b1 b2 b3 b4
      cases hp : pzG o TS
      · rw [ansPT_no hp]
        have hok : okZ s = false := by rw [hOK.out]; first | (rw [hp]; rfl) | (rw [hp]; simp [hq])
        have hF : Hid (okZ s = false ∧ oZ s = 0 ∧ tZ s = []) := Lib.hid ⟨hok, by rw [hOZ.out, hok]; rfl, by rw [hTZ.out, hok]; rfl⟩
        clear hok hOK hOZ hTZ hTS
        clear hp
        obtain ⟨⟨b0, b1, b2⟩, b3, b4⟩ := HG8.out
        obtain ⟨⟨c0, c1, c2⟩, c3, c4⟩ := HA8.out
        gi_wp2
        have hset := Lib.hid (HA8.out.set (.int .i64 0) (.slice none 0 0))
        have hbS := Lib.hid (bel_set HB8.out (Nat.le_refl _) (.int .i64 0) (.slice none 0 0))
        have hKS := (set_heap _ ⟨w.heap.size, 1, none⟩ (.slice none 0 0) D (by have := hbase.out; dsimp only; omega)).trans ((set_heap _ ⟨w.heap.size, 0, none⟩ (.int .i64 0) D (by have := hbase.out; dsimp only; omega)).trans HK8.out)
        generalize hw9 : (w8.setCell ⟨w.heap.size, 0, none⟩ (.int .i64 0)).setCell ⟨w.heap.size, 1, none⟩ (.slice none 0 0) = w9 at *
        clear hw9
        refine ⟨by simp, .inl ⟨_, _, rfl, run_takeDeferred hKS, ?_⟩⟩
        have hgD := fun o' => grownBy_putObj' w9 D o'
        obtain ⟨⟨n0, n1, n2⟩, n3, n4⟩ := hset.out.kept (hgD (.deferred none)) (by have := hbase.out; intro e; injection e; omega)
        refine ⟨.tuple #[pz 0 (.slice none 0 0), .bool false], by simp [results, Tryd.f33, go_sem, n0, n1], ?_⟩
        show PzAns (oZ s) (tZ s) (okZ s) w _ _
        rw [hF.out.1, hF.out.2.1, hF.out.2.2]
        refine ⟨(.slice none 0 0), rfl, ?_, ?_⟩
        · exact TRow.nil _ _ _
        · exact hbS.out.grown (hgD _) hbS.out.size (fun k e => by cases e; have := hbase.out; omega)
      · rw [ansPT_yes hp]
        by_cases hq : textP o TS = s
        · have hok : okZ s = true := by rw [hOK.out]; simp [hp, hq]
          have hF : Hid (okZ s = true ∧ oZ s = o ∧ tZ s = TS) := Lib.hid ⟨hok, by rw [hOZ.out, hok]; rfl, by rw [hTZ.out, hok]; rfl⟩
          clear hok hOK hOZ hTZ hTS
          rw [hq]
          have hd : (s.toList == s.toList) = true := by simp
          have hd2 : (s.toList != s.toList) = false := by simp
          clear hp hq
          obtain ⟨⟨b0, b1, b2⟩, b3, b4⟩ := HG8.out
          obtain ⟨⟨c0, c1, c2⟩, c3, c4⟩ := HA8.out
          gi_wp2
          have hset := Lib.hid (HA8.out.set (.int .i64 o) (.slice AH nn capH))
          have hbS := Lib.hid (bel_set HB8.out (Nat.le_refl _) (.int .i64 o) (.slice AH nn capH))
          have hKS := (set_heap _ ⟨w.heap.size, 1, none⟩ (.slice AH nn capH) D (by have := hbase.out; dsimp only; omega)).trans ((set_heap _ ⟨w.heap.size, 0, none⟩ (.int .i64 o) D (by have := hbase.out; dsimp only; omega)).trans HK8.out)
          have hIS := (HI8.out.setOther (p := ⟨w.heap.size, 0, none⟩) (by have := hbase.out; dsimp only; omega) (.int .i64 o)).setOther (p := ⟨w.heap.size, 1, none⟩) (by have := hbase.out; dsimp only; omega) (.slice AH nn capH)
          generalize hw9 : (w8.setCell ⟨w.heap.size, 0, none⟩ (.int .i64 o)).setCell ⟨w.heap.size, 1, none⟩ (.slice AH nn capH) = w9 at *
          clear hw9
          refine ⟨by simp, .inl ⟨_, _, rfl, run_takeDeferred hKS, ?_⟩⟩
          have hgD := fun o' => grownBy_putObj' w9 D o'
          obtain ⟨⟨n0, n1, n2⟩, n3, n4⟩ := hset.out.kept (hgD (.deferred none)) (by have := hbase.out; intro e; injection e; omega)
          refine ⟨.tuple #[pz o (.slice AH nn capH), .bool true], by simp [results, Tryd.f33, go_sem, n0, n1], ?_⟩
          show PzAns (oZ s) (tZ s) (okZ s) w _ _
          rw [hF.out.1, hF.out.2.1, hF.out.2.2]
          refine ⟨(.slice AH nn capH), rfl, ?_, ?_⟩
          · exact (TRow.keptV hIS (hgD _) (b := 0) (by have := hbase.out; omega) (fun r e => by cases e; exact .inr ⟨hD, _, hKS, rfl⟩)).mono hbase.out.1
          · exact hbS.out.grown (hgD _) hbS.out.size (fun k e => by cases e; have := hbase.out; omega)
        · have hok : okZ s = false := by rw [hOK.out]; first | (rw [hp]; rfl) | (rw [hp]; simp [hq])
          have hF : Hid (okZ s = false ∧ oZ s = 0 ∧ tZ s = []) := Lib.hid ⟨hok, by rw [hOZ.out, hok]; rfl, by rw [hTZ.out, hok]; rfl⟩
          clear hok hOK hOZ hTZ hTS
          generalize hT8 : textP o TS = T8 at *
          have hd : (T8.toList == s.toList) = false := by
            simp only [beq_eq_false_iff_ne, ne_eq]
            intro e
            apply hq
            rw [ByteArray.toList_eq, ByteArray.toList_eq] at e
            exact ba_eq.2 e
          have hd2 : (T8.toList != s.toList) = true := by simp only [bne, hd]; rfl
          clear hp hq hT8
          obtain ⟨⟨b0, b1, b2⟩, b3, b4⟩ := HG8.out
          obtain ⟨⟨c0, c1, c2⟩, c3, c4⟩ := HA8.out
          gi_wp2
          have hset := Lib.hid (HA8.out.set (.int .i64 0) (.slice none 0 0))
          have hbS := Lib.hid (bel_set HB8.out (Nat.le_refl _) (.int .i64 0) (.slice none 0 0))
          have hKS := (set_heap _ ⟨w.heap.size, 1, none⟩ (.slice none 0 0) D (by have := hbase.out; dsimp only; omega)).trans ((set_heap _ ⟨w.heap.size, 0, none⟩ (.int .i64 0) D (by have := hbase.out; dsimp only; omega)).trans HK8.out)
          generalize hw9 : (w8.setCell ⟨w.heap.size, 0, none⟩ (.int .i64 0)).setCell ⟨w.heap.size, 1, none⟩ (.slice none 0 0) = w9 at *
          clear hw9
          refine ⟨by simp, .inl ⟨_, _, rfl, run_takeDeferred hKS, ?_⟩⟩
          have hgD := fun o' => grownBy_putObj' w9 D o'
          obtain ⟨⟨n0, n1, n2⟩, n3, n4⟩ := hset.out.kept (hgD (.deferred none)) (by have := hbase.out; intro e; injection e; omega)
          refine ⟨.tuple #[pz 0 (.slice none 0 0), .bool false], by simp [results, Tryd.f33, go_sem, n0, n1], ?_⟩
          show PzAns (oZ s) (tZ s) (okZ s) w _ _
          rw [hF.out.1, hF.out.2.1, hF.out.2.2]
          refine ⟨(.slice none 0 0), rfl, ?_, ?_⟩
          · exact TRow.nil _ _ _
          · exact hbS.out.grown (hgD _) hbS.out.size (fun k e => by cases e; have := hbase.out; omega)
  · have hte : t = [] := by
      have h := ‹(!t.isEmpty) = false›
      simpa using h
    have hts0 : TS = [] := by rw [hTS.out, if_pos hte]
    subst hts0
    have HPT := Lib.hid (hT.keep bl4.out)
    refine (callsIn_wide.2 (implPT_any o [] _ _ _ (RdT.nil _ _) (Nat.le_refl _) HPT.out)).mono ?_
    rintro e w8 ⟨rfl, hb8⟩
    have HG8 := Lib.hid (bh3.out.keep hb8)
    have HA8 := Lib.hid (bx4.out.keep hb8)
    have HB8 := Lib.hid (bel_trans bl4.out hb8)
    clear b0 b1 b2 b3 b4
    cases hp : pzG o ([] : List Tri)
    · rw [ansPT_no hp]
      have hok : okZ s = false := by rw [hOK.out]; first | (rw [hp]; rfl) | (rw [hp]; simp [hq])
      have hF : Hid (okZ s = false ∧ oZ s = 0 ∧ tZ s = []) := Lib.hid ⟨hok, by rw [hOZ.out, hok]; rfl, by rw [hTZ.out, hok]; rfl⟩
      clear hok hOK hOZ hTZ hTS
      clear hp
      obtain ⟨⟨b0, b1, b2⟩, b3, b4⟩ := HG8.out
      obtain ⟨⟨c0, c1, c2⟩, c3, c4⟩ := HA8.out
      gi_wp2
      have hset := Lib.hid (HA8.out.set (.int .i64 0) (.slice none 0 0))
      have hbS := Lib.hid (bel_set HB8.out (Nat.le_refl _) (.int .i64 0) (.slice none 0 0))
      obtain ⟨⟨n0, n1, n2⟩, n3, n4⟩ := hset.out
      refine ⟨.tuple #[pz 0 (.slice none 0 0), .bool false], by simp [results, Tryd.f33, go_sem, n0, n1], ?_⟩
      show PzAns (oZ s) (tZ s) (okZ s) w _ _
      rw [hF.out.1, hF.out.2.1, hF.out.2.2]
      exact ⟨(.slice none 0 0), rfl, TRow.nil _ _ _, hbS.out⟩
    · rw [ansPT_yes hp]
      by_cases hq : textP o ([] : List Tri) = s
      · have hok : okZ s = true := by rw [hOK.out]; simp [hp, hq]
        have hF : Hid (okZ s = true ∧ oZ s = o ∧ tZ s = ([] : List Tri)) := Lib.hid ⟨hok, by rw [hOZ.out, hok]; rfl, by rw [hTZ.out, hok]; rfl⟩
        clear hok hOK hOZ hTZ hTS
        rw [hq]
        have hd : (s.toList == s.toList) = true := by simp
        have hd2 : (s.toList != s.toList) = false := by simp
        clear hp hq
        obtain ⟨⟨b0, b1, b2⟩, b3, b4⟩ := HG8.out
        obtain ⟨⟨c0, c1, c2⟩, c3, c4⟩ := HA8.out
        gi_wp2
        have hset := Lib.hid (HA8.out.set (.int .i64 o) (.slice none 0 0))
        have hbS := Lib.hid (bel_set HB8.out (Nat.le_refl _) (.int .i64 o) (.slice none 0 0))
        obtain ⟨⟨n0, n1, n2⟩, n3, n4⟩ := hset.out
        refine ⟨.tuple #[pz o (.slice none 0 0), .bool true], by simp [results, Tryd.f33, go_sem, n0, n1], ?_⟩
        show PzAns (oZ s) (tZ s) (okZ s) w _ _
        rw [hF.out.1, hF.out.2.1, hF.out.2.2]
        exact ⟨(.slice none 0 0), rfl, TRow.nil _ _ _, hbS.out⟩
      · have hok : okZ s = false := by rw [hOK.out]; first | (rw [hp]; rfl) | (rw [hp]; simp [hq])
        have hF : Hid (okZ s = false ∧ oZ s = 0 ∧ tZ s = []) := Lib.hid ⟨hok, by rw [hOZ.out, hok]; rfl, by rw [hTZ.out, hok]; rfl⟩
        clear hok hOK hOZ hTZ hTS
        generalize hT8 : textP o ([] : List Tri) = T8 at *
        have hd : (T8.toList == s.toList) = false := by
          simp only [beq_eq_false_iff_ne, ne_eq]
          intro e
          apply hq
          rw [ByteArray.toList_eq, ByteArray.toList_eq] at e
          exact ba_eq.2 e
        have hd2 : (T8.toList != s.toList) = true := by simp only [bne, hd]; rfl
        clear hp hq hT8
        obtain ⟨⟨b0, b1, b2⟩, b3, b4⟩ := HG8.out
        obtain ⟨⟨c0, c1, c2⟩, c3, c4⟩ := HA8.out
        gi_wp2
        have hset := Lib.hid (HA8.out.set (.int .i64 0) (.slice none 0 0))
        have hbS := Lib.hid (bel_set HB8.out (Nat.le_refl _) (.int .i64 0) (.slice none 0 0))
        obtain ⟨⟨n0, n1, n2⟩, n3, n4⟩ := hset.out
        refine ⟨.tuple #[pz 0 (.slice none 0 0), .bool false], by simp [results, Tryd.f33, go_sem, n0, n1], ?_⟩
        show PzAns (oZ s) (tZ s) (okZ s) w _ _
        rw [hF.out.1, hF.out.2.1, hF.out.2.2]
        exact ⟨(.slice none 0 0), rfl, TRow.nil _ _ _, hbS.out⟩
theorem implPz_any (s : ByteArray) (w : World) (hS : Sent w) (hT : PT w) (hs : s.size ≤ 1048576) :
    Calls Tryd.prog 33 #[.string s] w (PzAns (oZ s) (tZ s) (okZ s) w) := callsIn_wide.1 (implPz_in s w hS hT hs)
end Go.Proofs.YthmdkbeccohjkaaDoor
