/- The longest and the shortest waits: the contracts of the program. -/
import Derived.Test.YtdfjfojkheikiaaDoorLwK
namespace Go.Proofs.YtdfjfojkheikiaaDoor
set_option linter.unusedSimpArgs false
open Go.ChangeShapes Go.WideShapes Go.ChangeAt Go.RowKit Go.Maps Go.Sort Go.Shelf
set_option linter.unusedVariables false

def okLW (n : Int) : Bool := inB n 1 8
def ansLW (most : Bool) (n : Int) : List ByteArray := if okLW n then exW most n.toNat else []
def numLW (most : Bool) (n : Int) : Int := if okLW n then mxW most n.toNat else 0
def RowSIB (xs : List ByteArray) (m : Int) (ok : Bool) (w : World) (e : Ending) (w' : World) : Prop := ∃ v, e = .returned (.tuple #[v, .int .i64 m, .bool ok]) ∧ SRow w' w.heap.size v xs ∧ Below w.heap.size w w'
/-- Of the blocks that were there all but block b are as they were. -/
structure OffB (b : Nat) (w w' : World) : Prop where
  os : w'.os = w.os
  tape : w'.tape = w.tape
  output : w'.output = w.output
  size : w.heap.size ≤ w'.heap.size
  block : ∀ k, k < w.heap.size → k ≠ b → w'.heap[k]? = w.heap[k]?
theorem OffB.refl (b : Nat) (w : World) : OffB b w w := ⟨rfl, rfl, rfl, Nat.le_refl _, fun _ _ _ => rfl⟩
theorem OffB.grown {b : Nat} {w a c : World} {row : Option Nat} (h : OffB b w a) (g : a.grownBy c row) (hr : ∀ k, row = some k → k = b ∨ w.heap.size ≤ k) : OffB b w c :=
  ⟨g.os.trans h.os, g.tape.trans h.tape, g.output.trans h.output, Nat.le_trans h.size g.size, fun k hk hb => (g.block k (Nat.lt_of_lt_of_le hk h.size) (fun e => by rcases hr k e.symm with q | q <;> omega)).trans (h.block k hk hb)⟩
theorem OffB.bel {b : Nat} {w a c : World} (h : OffB b w a) (g : Below a.heap.size a c) : OffB b w c :=
  ⟨g.os.trans h.os, g.tape.trans h.tape, g.output.trans h.output, Nat.le_trans h.size g.size, fun k hk hb => (g.block k (Nat.lt_of_lt_of_le hk h.size)).trans (h.block k hk hb)⟩
theorem OffB.below {b n : Nat} {w a : World} (h : OffB b w a) (hn : n ≤ b) (hn2 : n ≤ w.heap.size) : Below n w a :=
  ⟨h.os, h.tape, h.output, h.size, fun k hk => h.block k (by omega) (by omega)⟩
theorem SRow.offB {b base : Nat} {w a : World} {v : Value} {xs : List ByteArray} (h : SRow w base v xs) (ho : OffB b w a) (hb : b < base) : SRow a base v xs := by
  refine ⟨h.1, ?_⟩
  have hlt := World.ownsRow.lt h
  rcases h.2 with hn | ⟨g, cap, cur, rfl, hbg, hgg, rest⟩
  · exact .inl hn
  · refine .inr ⟨g, cap, cur, rfl, hbg, ?_, rest⟩
    rw [← hgg]
    have := hlt g rfl
    exact ho.block g this.2 (by omega)
theorem ownBel {w w' : World} {b n m : Nat} {D : DataW Value} (h : w.ownsMap Tryd.prog 3 Rr b n D) (hb : Below m w w') (hm : b < m) : w'.ownsMap Tryd.prog 3 Rr b n D := by
  obtain ⟨es, clock, hb1, F, hs, hD⟩ := h
  exact ⟨es, clock, (hb.block b hm).trans hb1, F, hs, hD⟩
theorem okLW_yes {n : Int} (h : okLW n = true) : ∃ k : Nat, n = k ∧ 1 ≤ k ∧ k ≤ 8 := by
  unfold okLW at h
  rw [inB_iff] at h
  exact ⟨n.toNat, by omega, by omega, by omega⟩
set_option maxRecDepth 100000 in
set_option maxHeartbeats 6400000 in
theorem chosen_true (n : Int) (w : World) :
    Calls Tryd.prog 17 #[.int .i64 n, .func (.func 18) #[] #[]] w (RowSIB (ansLW true n) (numLW true n) (okLW n) w) := by
  cases ho : okLW n with
  | false =>
    rw [show ansLW true n = [] from by simp [ansLW, ho], show numLW true n = 0 from by simp [numLW, ho]]
    by_cases h1 : n < 1
    · have d1 : decide (n < 1) = true := by simpa using h1
      clear ho
      go_enter Tryd.func17, Tryd.ntmps17
      go_wp2_with fail
      go_ret3
      exact ⟨_, rfl, World.ownsRow_nil _ _ _ _, Below.refl _ _⟩
    · have h2 : 8 < n := by
        unfold okLW inB at ho
        simp at ho
        omega
      have d1 : decide (n < 1) = false := by simpa using h1
      have d2 : decide (8 < n) = true := by simpa using h2
      clear ho
      go_enter Tryd.func17, Tryd.ntmps17
      go_wp2_with fail
      go_ret3
      exact ⟨_, rfl, World.ownsRow_nil _ _ _ _, Below.refl _ _⟩
  | true =>
    obtain ⟨k, rfl, k1, k8⟩ := okLW_yes ho
    rw [show ansLW true k = exW true k from by simp [ansLW, ho], show numLW true k = mxW true k from by simp [numLW, ho]]
    clear ho
    unfold exW mxW
    have htx := Lib.hid (fun W => allTosses_any k W (by omega))
    have hall := Lib.hid (fun (i : Nat) (hi : i < (allTx k).length) => (show (allTx k).getD i noT ∈ allTx k from by rw [List.getD_eq_getElem?_getD, List.getElem?_eq_getElem hi]; exact List.getElem_mem _))
    have hmem := Lib.hid (fun (x : ByteArray) (hx : x ∈ allTx k) => allTx_mem k x hx)
    have hpos := tx_pos k
    have hlen := allTx_len k
    have h256 := tx8 k k8
    rw [← hlen] at h256
    clear hlen
    have hmm := @run_makeMap Tryd.prog
    have d1 : decide ((k : Int) < 1) = false := by simp; omega
    have d2 : decide (8 < (k : Int)) = false := by simp; omega
    generalize allTx k = l at *
    go_enter Tryd.func17, Tryd.ntmps17
    go_wp2_with fail
    refine (htx.out _).mono ?_
    rintro e w1 ⟨v, rfl, r0, b0⟩
    have hO0 := ownBel (World.ownsMap_made (H := Value) w Tryd.prog 3 Rr) b0 (by rw [← size1]; omega)
    have hs1 := b0.size
    rw [← size1] at r0 hs1
    have hbw : Below w.heap.size w w1 := bel_trans (bel_alloc (Below.refl _ w) _) b0
    obtain ⟨A0, cap0, rfl, c0a, c0b⟩ := r0.formL
    have R0 := Lib.hid r0
    have HO0 := Lib.hid hO0
    clear r0 hO0 b0
    generalize hN : l.length = N at h256 hpos c0a ⊢
    have HN := Lib.hid hN
    clear hN
    go_wp2_with fail
    go_loopw [24] (fun x wr => ∃ (j : Nat) (D : DataW Value) (f : Int → Value), j ≤ N ∧ x = .int .i64 j ∧ Hid (wr.ownsMap Tryd.prog 3 Rr w.heap.size j D) ∧ Hid (GrpW wr w1.heap.size l j D f) ∧ OffB w.heap.size w1 wr) (fun x _ => N - (Go.RowKit.intOf x).toNat)
    case atStart => exact ⟨0, _, _, by omega, rfl, HO0, GrpW.start _ _ _, OffB.refl _ _⟩
    case round =>
      obtain ⟨j, D, f, hj, rfl, hO, hG, hb⟩ := hrel
      obtain ⟨wa, rfl⟩ : ∃ wa : World, wa = wr := ⟨_, rfl⟩
      by_cases hlt : j < N
      · have hlk : j < l.length := by rw [HN.out]; exact hlt
        have hrow := R0.out.offB hb (by omega)
        obtain ⟨gg, hgg⟩ : ∃ gg : Nat, A0 = some ⟨gg, 0, none⟩ := by
          rcases hrow.form with ⟨hx, _⟩ | ⟨hx, g, cap, e, _⟩
          · rw [hx] at hlk; simp at hlk
          · injection e with e1; exact ⟨g, e1⟩
        subst hgg
        have c0 := hrow.at_ j hlk
        obtain ⟨hsz, hat⟩ := hmem.out _ (hall.out j hlk)
        obtain ⟨z0, z1⟩ := nW_in (l.getD j noT) (by omega) (by omega)
        have hzz : nW (l.getD j noT) = wAt l j := rfl
        rw [hzz] at z0 z1
        have HW := Lib.hid (fun w => iWait_any (l.getD j noT) w hat (by omega) (by omega))
        rw [hzz] at HW
        have hZ := Lib.hid (show wAt l j = wAt l j from rfl)
        have hgl := grp_len l (wAt l j) j
        obtain ⟨p, hp⟩ : ∃ p, p = l.getD j noT := ⟨_, rfl⟩
        have HP := Lib.hid hp
        obtain ⟨z, hz⟩ : ∃ z, z = wAt l j := ⟨_, rfl⟩
        have HZ := Lib.hid hz
        rw [← hp] at c0 HW
        rw [← hz] at z0 z1 HW hgl
        have hki : (j : Int) < (N : Int) := by omega
        have HLK := Lib.hid hlk
        clear hrow hzz hsz hat hp hz hZ hlk
        go_wp2_with fail
        refine (HW.out _).mono ?_
        rintro e w5 ⟨⟨d, rfl⟩, b5⟩
        have hb5 := hb.bel b5
        have hO5 := Lib.hid (ownBel hO.out b5 (hO.out.lt))
        have hG5 := Lib.hid (hG.out.bel b5)
        have hkey : keyOf Tryd.prog 3 (.int .i64 z) = some (.int .i64 z) := Maps.keyOf_int_mk Tryd.underlying3 (Go.WalkArith.wf_i64 (by omega))
        have Hkey := Lib.hid hkey
        obtain ⟨i0, hi, hz0, hz1, hz2⟩ := info_parts info_str
        have HI := Lib.hid (And.intro hi (And.intro hz0 (And.intro hz1 hz2)))
        have hs5 := Lib.hid hb5.size
        have hat5 := Lib.hid (hG5.out.2.1 z)
        have hrw5 := Lib.hid (hG5.out.2.2.1 z)
        have hj5 : j < maxLen := by unfold maxLen; omega
        have HJ5 := Lib.hid hj5
        clear hkey hi hz0 hz1 hz2 hj5 hO hG
        generalize hfz : f z = u at hat5 hrw5
        have HFZ := Lib.hid hfz
        clear hfz
        obtain ⟨Au, capu, hu, cua, cub⟩ := hrw5.out.formL
        have HU := Lib.hid hu
        clear hu
        go_wp2_with (first
          | (at_lookup; refine lookup_raw _ rfl _ _ rfl w.heap.size j D rfl hO5.out _ (.int .i64 z) rfl Hkey.out u hat5.out ?_)
          | (at_builtin; refine wpList_append_own_at _ rfl (.tmp 39) (.tmp 41) 22 rfl w1.heap.size 9 i0 (.string ByteArray.empty) 1 16 Tryd.underlying22 HI.out.1 HI.out.2.1 HI.out.2.2.1 HI.out.2.2.2 rfl (by decide) u (grp l z j).length ((grp l z j).map Value.string) rfl (World.ownsRow.alloc hrw5.out _) ⟨w5.heap.size, 0, none⟩ 1 1 [.string p] rfl rfl (cell_one_new _ _ _) (by intro y hy; simp at hy; subst hy; rfl) (by unfold maxLen; omega) (by omega) (by rw [← size1]; have := hs5.out; omega) ?_; intro v4 w4 hown4 hgrow4 _ hat4; have Hown4 := Lib.hid hown4; have Hgrow4 := Lib.hid hgrow4; have Hat4 := Lib.hid hat4; clear hown4 hgrow4 hat4)
          | (at_mapUpdate; refine wpList_mapUpdate_own _ rfl _ _ _ 46 rfl 3 22 (Maps.int_keyed Tryd.underlying3) Tryd.underlying46 Rr w.heap.size j D rfl ((World.ownsMap.alloc hO5.out _).kept Hgrow4.out (fun e => by have := World.ownsRow.lt hrw5.out w.heap.size e.symm; omega)) HJ5.out _ _ (.int .i64 z) rfl rfl Hkey.out (.held v4) [] rfl ?_; intro w7 hO7 hg7))
        have hrow7 : SRow w4 w1.heap.size v4 (grp l z j ++ [l.getD j noT]) := by
          rw [← HP.out]
          unfold SRow
          rw [List.length_append, List.map_append]
          exact Hown4.out
        have hG7 := Lib.hid (hG5.out.put HLK.out HZ.out.symm (by omega) (World.grownBy_alloc w5 (.cells #[.string p] 9) none) (by rw [HFZ.out]; exact Hgrow4.out) hg7 hrow7 (by
          rw [HFZ.out]
          rcases Hat4.out with q | q
          · exact .inl q
          · exact .inr ⟨_, q, by have := size1 w5 (.cells #[.string p] 9); omega⟩))
        have hb7 : OffB w.heap.size w1 w7 := ((hb5.grown (World.grownBy_alloc w5 (.cells #[.string p] 9) none) (fun q hq => by cases hq)).grown Hgrow4.out (fun q hq => .inr (World.ownsRow.lt hrw5.out q hq).1)).grown hg7 (fun q hq => .inl (by injection hq with hq; exact hq.symm))
        exact ⟨⟨j + 1, _, _, by omega, by go_num, Lib.hid hO7, hG7, hb7⟩, by simp [Go.RowKit.intOf]; omega⟩
      · obtain rfl : j = N := by omega
        clear hmm
        have hki : ¬ (j : Int) < (j : Int) := by omega
        go_wp2_with fail
        refine (keysF_any w.heap.size wa).mono ?_
        rintro e w8 ⟨rfl, rfl⟩
        go_wp2_with fail
        refine (colF_any w.heap.size j D wa hO.out (by omega)).mono ?_
        rintro e w9 ⟨v9, ss, rfl, hss, hrow9, hb9⟩
        have hmem9 : ∀ x, x ∈ ss ↔ ∃ i, i < l.length ∧ wAt l i = x := fun x => by rw [hss x, hG.out.2.2.2.2 x, HN.out]
        have hmx := ext_max (by rw [HN.out]; exact hpos) hmem9
        have hsp : 0 < ss.length := by
          rw [List.length_pos_iff]
          intro h
          have := (hmem9 (wAt l 0)).2 ⟨0, by rw [HN.out]; exact hpos, rfl⟩
          rw [h] at this
          cases this
        obtain ⟨g9, cap9, rfl, c9, d9, f9⟩ : ∃ g cap, v9 = .slice (some ⟨g, 0, none⟩) ss.length cap ∧ ss.length ≤ cap ∧ cap ≤ maxLen ∧ g < w9.heap.size := by
          have hlt := World.ownsRow.lt hrow9
          rcases hrow9.2 with ⟨rfl, h0⟩ | ⟨g, cap, cur, rfl, _, _, hn, hc, _⟩
          · omega
          · exact ⟨g, cap, rfl, hn, hc, (hlt g rfl).2⟩
        have hcell : ∀ i, i < ss.length → w9.cell? ⟨g9, 0 + i, none⟩ = some (.int .i64 (ss.getD i 0)) := fun i hi => by
          rw [Nat.zero_add, World.ownsRow.cellAt hrow9 i (by simpa using hi)]
          rw [List.getElem?_map, List.getD_eq_getElem?_getD, List.getElem?_eq_getElem hi]
          rfl
        have HCALL := Lib.hid (Tryd.slices_Max_int g9 0 ss.length cap9 ss w9 hsp (Nat.le_refl _) (by unfold maxLen at d9; omega) hcell)
        rw [List.take_length, hmx] at HCALL
        have hb9' : Below wa.heap.size wa w9 := bel_trans (bel_alloc (Below.refl _ wa) _) (by rw [← size1]; exact hb9)
        have hO9 := Lib.hid (ownBel hO.out hb9' hO.out.lt)
        have hG9 := Lib.hid (hG.out.bel hb9')
        have hb99 := hb.bel hb9'
        have hmb := (bst_is true (wAt l) l.length (by rw [HN.out]; exact hpos)).1
        obtain ⟨i0, hi0, he0⟩ := hmb
        obtain ⟨hsz, _⟩ := hmem.out _ (hall.out i0 hi0)
        have hin : 0 ≤ bst true (wAt l) l.length ∧ bst true (wAt l) l.length ≤ 800000000 := by rw [← he0]; exact nW_in (l.getD i0 noT) (by omega) (by omega)
        have hrow8 := hG9.out.2.2.1 (bst true (wAt l) l.length)
        have hat8 := Lib.hid (hG9.out.2.1 (bst true (wAt l) l.length))
        rw [← HN.out] at hrow8
        generalize bst true (wAt l) l.length = m at *
        have hkey : keyOf Tryd.prog 3 (.int .i64 m) = some (.int .i64 m) := Maps.keyOf_int_mk Tryd.underlying3 (Go.WalkArith.wf_i64 (by omega))
        have Hkey := Lib.hid hkey
        have hfin := Lib.hid (hrow8.mono hbw.size)
        have hbf := Lib.hid (hbw.trans (hb99.below (Nat.le_refl _) hbw.size))
        clear hkey hrow8 he0 hi0 hsz hin hcell hrow9 hss hmem9 hmx
        generalize f m = u at *
        obtain ⟨Au, capu, rfl, cua, cub⟩ := hfin.out.formL
        generalize (grp l m l.length).length = K at *
        go_wp2_with fail
        refine (HCALL.out).mono ?_
        rintro e w10 ⟨rfl, rfl⟩
        go_wp2_with (first
          | (at_lookup; refine lookup_raw _ rfl _ _ rfl w.heap.size j D rfl hO9.out _ (.int .i64 m) rfl Hkey.out _ hat8.out ?_))
        go_ret3
        exact ⟨_, rfl, hfin.out, hbf.out⟩
set_option maxRecDepth 100000 in
set_option maxHeartbeats 6400000 in
theorem chosen_false (n : Int) (w : World) :
    Calls Tryd.prog 17 #[.int .i64 n, .func (.func 20) #[] #[]] w (RowSIB (ansLW false n) (numLW false n) (okLW n) w) := by
  cases ho : okLW n with
  | false =>
    rw [show ansLW false n = [] from by simp [ansLW, ho], show numLW false n = 0 from by simp [numLW, ho]]
    by_cases h1 : n < 1
    · have d1 : decide (n < 1) = true := by simpa using h1
      clear ho
      go_enter Tryd.func17, Tryd.ntmps17
      go_wp2_with fail
      go_ret3
      exact ⟨_, rfl, World.ownsRow_nil _ _ _ _, Below.refl _ _⟩
    · have h2 : 8 < n := by
        unfold okLW inB at ho
        simp at ho
        omega
      have d1 : decide (n < 1) = false := by simpa using h1
      have d2 : decide (8 < n) = true := by simpa using h2
      clear ho
      go_enter Tryd.func17, Tryd.ntmps17
      go_wp2_with fail
      go_ret3
      exact ⟨_, rfl, World.ownsRow_nil _ _ _ _, Below.refl _ _⟩
  | true =>
    obtain ⟨k, rfl, k1, k8⟩ := okLW_yes ho
    rw [show ansLW false k = exW false k from by simp [ansLW, ho], show numLW false k = mxW false k from by simp [numLW, ho]]
    clear ho
    unfold exW mxW
    have htx := Lib.hid (fun W => allTosses_any k W (by omega))
    have hall := Lib.hid (fun (i : Nat) (hi : i < (allTx k).length) => (show (allTx k).getD i noT ∈ allTx k from by rw [List.getD_eq_getElem?_getD, List.getElem?_eq_getElem hi]; exact List.getElem_mem _))
    have hmem := Lib.hid (fun (x : ByteArray) (hx : x ∈ allTx k) => allTx_mem k x hx)
    have hpos := tx_pos k
    have hlen := allTx_len k
    have h256 := tx8 k k8
    rw [← hlen] at h256
    clear hlen
    have hmm := @run_makeMap Tryd.prog
    have d1 : decide ((k : Int) < 1) = false := by simp; omega
    have d2 : decide (8 < (k : Int)) = false := by simp; omega
    generalize allTx k = l at *
    go_enter Tryd.func17, Tryd.ntmps17
    go_wp2_with fail
    refine (htx.out _).mono ?_
    rintro e w1 ⟨v, rfl, r0, b0⟩
    have hO0 := ownBel (World.ownsMap_made (H := Value) w Tryd.prog 3 Rr) b0 (by rw [← size1]; omega)
    have hs1 := b0.size
    rw [← size1] at r0 hs1
    have hbw : Below w.heap.size w w1 := bel_trans (bel_alloc (Below.refl _ w) _) b0
    obtain ⟨A0, cap0, rfl, c0a, c0b⟩ := r0.formL
    have R0 := Lib.hid r0
    have HO0 := Lib.hid hO0
    clear r0 hO0 b0
    generalize hN : l.length = N at h256 hpos c0a ⊢
    have HN := Lib.hid hN
    clear hN
    go_wp2_with fail
    go_loopw [24] (fun x wr => ∃ (j : Nat) (D : DataW Value) (f : Int → Value), j ≤ N ∧ x = .int .i64 j ∧ Hid (wr.ownsMap Tryd.prog 3 Rr w.heap.size j D) ∧ Hid (GrpW wr w1.heap.size l j D f) ∧ OffB w.heap.size w1 wr) (fun x _ => N - (Go.RowKit.intOf x).toNat)
    case atStart => exact ⟨0, _, _, by omega, rfl, HO0, GrpW.start _ _ _, OffB.refl _ _⟩
    case round =>
      obtain ⟨j, D, f, hj, rfl, hO, hG, hb⟩ := hrel
      obtain ⟨wa, rfl⟩ : ∃ wa : World, wa = wr := ⟨_, rfl⟩
      by_cases hlt : j < N
      · have hlk : j < l.length := by rw [HN.out]; exact hlt
        have hrow := R0.out.offB hb (by omega)
        obtain ⟨gg, hgg⟩ : ∃ gg : Nat, A0 = some ⟨gg, 0, none⟩ := by
          rcases hrow.form with ⟨hx, _⟩ | ⟨hx, g, cap, e, _⟩
          · rw [hx] at hlk; simp at hlk
          · injection e with e1; exact ⟨g, e1⟩
        subst hgg
        have c0 := hrow.at_ j hlk
        obtain ⟨hsz, hat⟩ := hmem.out _ (hall.out j hlk)
        obtain ⟨z0, z1⟩ := nW_in (l.getD j noT) (by omega) (by omega)
        have hzz : nW (l.getD j noT) = wAt l j := rfl
        rw [hzz] at z0 z1
        have HW := Lib.hid (fun w => iWait_any (l.getD j noT) w hat (by omega) (by omega))
        rw [hzz] at HW
        have hZ := Lib.hid (show wAt l j = wAt l j from rfl)
        have hgl := grp_len l (wAt l j) j
        obtain ⟨p, hp⟩ : ∃ p, p = l.getD j noT := ⟨_, rfl⟩
        have HP := Lib.hid hp
        obtain ⟨z, hz⟩ : ∃ z, z = wAt l j := ⟨_, rfl⟩
        have HZ := Lib.hid hz
        rw [← hp] at c0 HW
        rw [← hz] at z0 z1 HW hgl
        have hki : (j : Int) < (N : Int) := by omega
        have HLK := Lib.hid hlk
        clear hrow hzz hsz hat hp hz hZ hlk
        go_wp2_with fail
        refine (HW.out _).mono ?_
        rintro e w5 ⟨⟨d, rfl⟩, b5⟩
        have hb5 := hb.bel b5
        have hO5 := Lib.hid (ownBel hO.out b5 (hO.out.lt))
        have hG5 := Lib.hid (hG.out.bel b5)
        have hkey : keyOf Tryd.prog 3 (.int .i64 z) = some (.int .i64 z) := Maps.keyOf_int_mk Tryd.underlying3 (Go.WalkArith.wf_i64 (by omega))
        have Hkey := Lib.hid hkey
        obtain ⟨i0, hi, hz0, hz1, hz2⟩ := info_parts info_str
        have HI := Lib.hid (And.intro hi (And.intro hz0 (And.intro hz1 hz2)))
        have hs5 := Lib.hid hb5.size
        have hat5 := Lib.hid (hG5.out.2.1 z)
        have hrw5 := Lib.hid (hG5.out.2.2.1 z)
        have hj5 : j < maxLen := by unfold maxLen; omega
        have HJ5 := Lib.hid hj5
        clear hkey hi hz0 hz1 hz2 hj5 hO hG
        generalize hfz : f z = u at hat5 hrw5
        have HFZ := Lib.hid hfz
        clear hfz
        obtain ⟨Au, capu, hu, cua, cub⟩ := hrw5.out.formL
        have HU := Lib.hid hu
        clear hu
        go_wp2_with (first
          | (at_lookup; refine lookup_raw _ rfl _ _ rfl w.heap.size j D rfl hO5.out _ (.int .i64 z) rfl Hkey.out u hat5.out ?_)
          | (at_builtin; refine wpList_append_own_at _ rfl (.tmp 39) (.tmp 41) 22 rfl w1.heap.size 9 i0 (.string ByteArray.empty) 1 16 Tryd.underlying22 HI.out.1 HI.out.2.1 HI.out.2.2.1 HI.out.2.2.2 rfl (by decide) u (grp l z j).length ((grp l z j).map Value.string) rfl (World.ownsRow.alloc hrw5.out _) ⟨w5.heap.size, 0, none⟩ 1 1 [.string p] rfl rfl (cell_one_new _ _ _) (by intro y hy; simp at hy; subst hy; rfl) (by unfold maxLen; omega) (by omega) (by rw [← size1]; have := hs5.out; omega) ?_; intro v4 w4 hown4 hgrow4 _ hat4; have Hown4 := Lib.hid hown4; have Hgrow4 := Lib.hid hgrow4; have Hat4 := Lib.hid hat4; clear hown4 hgrow4 hat4)
          | (at_mapUpdate; refine wpList_mapUpdate_own _ rfl _ _ _ 46 rfl 3 22 (Maps.int_keyed Tryd.underlying3) Tryd.underlying46 Rr w.heap.size j D rfl ((World.ownsMap.alloc hO5.out _).kept Hgrow4.out (fun e => by have := World.ownsRow.lt hrw5.out w.heap.size e.symm; omega)) HJ5.out _ _ (.int .i64 z) rfl rfl Hkey.out (.held v4) [] rfl ?_; intro w7 hO7 hg7))
        have hrow7 : SRow w4 w1.heap.size v4 (grp l z j ++ [l.getD j noT]) := by
          rw [← HP.out]
          unfold SRow
          rw [List.length_append, List.map_append]
          exact Hown4.out
        have hG7 := Lib.hid (hG5.out.put HLK.out HZ.out.symm (by omega) (World.grownBy_alloc w5 (.cells #[.string p] 9) none) (by rw [HFZ.out]; exact Hgrow4.out) hg7 hrow7 (by
          rw [HFZ.out]
          rcases Hat4.out with q | q
          · exact .inl q
          · exact .inr ⟨_, q, by have := size1 w5 (.cells #[.string p] 9); omega⟩))
        have hb7 : OffB w.heap.size w1 w7 := ((hb5.grown (World.grownBy_alloc w5 (.cells #[.string p] 9) none) (fun q hq => by cases hq)).grown Hgrow4.out (fun q hq => .inr (World.ownsRow.lt hrw5.out q hq).1)).grown hg7 (fun q hq => .inl (by injection hq with hq; exact hq.symm))
        exact ⟨⟨j + 1, _, _, by omega, by go_num, Lib.hid hO7, hG7, hb7⟩, by simp [Go.RowKit.intOf]; omega⟩
      · obtain rfl : j = N := by omega
        clear hmm
        have hki : ¬ (j : Int) < (j : Int) := by omega
        go_wp2_with fail
        refine (keysF_any w.heap.size wa).mono ?_
        rintro e w8 ⟨rfl, rfl⟩
        go_wp2_with fail
        refine (colF_any w.heap.size j D wa hO.out (by omega)).mono ?_
        rintro e w9 ⟨v9, ss, rfl, hss, hrow9, hb9⟩
        have hmem9 : ∀ x, x ∈ ss ↔ ∃ i, i < l.length ∧ wAt l i = x := fun x => by rw [hss x, hG.out.2.2.2.2 x, HN.out]
        have hmx := ext_min (by rw [HN.out]; exact hpos) hmem9
        have hsp : 0 < ss.length := by
          rw [List.length_pos_iff]
          intro h
          have := (hmem9 (wAt l 0)).2 ⟨0, by rw [HN.out]; exact hpos, rfl⟩
          rw [h] at this
          cases this
        obtain ⟨g9, cap9, rfl, c9, d9, f9⟩ : ∃ g cap, v9 = .slice (some ⟨g, 0, none⟩) ss.length cap ∧ ss.length ≤ cap ∧ cap ≤ maxLen ∧ g < w9.heap.size := by
          have hlt := World.ownsRow.lt hrow9
          rcases hrow9.2 with ⟨rfl, h0⟩ | ⟨g, cap, cur, rfl, _, _, hn, hc, _⟩
          · omega
          · exact ⟨g, cap, rfl, hn, hc, (hlt g rfl).2⟩
        have hcell : ∀ i, i < ss.length → w9.cell? ⟨g9, 0 + i, none⟩ = some (.int .i64 (ss.getD i 0)) := fun i hi => by
          rw [Nat.zero_add, World.ownsRow.cellAt hrow9 i (by simpa using hi)]
          rw [List.getElem?_map, List.getD_eq_getElem?_getD, List.getElem?_eq_getElem hi]
          rfl
        have HCALL := Lib.hid (Tryd.slices_Min_int g9 0 ss.length cap9 ss w9 hsp (Nat.le_refl _) (by unfold maxLen at d9; omega) hcell)
        rw [List.take_length, hmx] at HCALL
        have hb9' : Below wa.heap.size wa w9 := bel_trans (bel_alloc (Below.refl _ wa) _) (by rw [← size1]; exact hb9)
        have hO9 := Lib.hid (ownBel hO.out hb9' hO.out.lt)
        have hG9 := Lib.hid (hG.out.bel hb9')
        have hb99 := hb.bel hb9'
        have hmb := (bst_is false (wAt l) l.length (by rw [HN.out]; exact hpos)).1
        obtain ⟨i0, hi0, he0⟩ := hmb
        obtain ⟨hsz, _⟩ := hmem.out _ (hall.out i0 hi0)
        have hin : 0 ≤ bst false (wAt l) l.length ∧ bst false (wAt l) l.length ≤ 800000000 := by rw [← he0]; exact nW_in (l.getD i0 noT) (by omega) (by omega)
        have hrow8 := hG9.out.2.2.1 (bst false (wAt l) l.length)
        have hat8 := Lib.hid (hG9.out.2.1 (bst false (wAt l) l.length))
        rw [← HN.out] at hrow8
        generalize bst false (wAt l) l.length = m at *
        have hkey : keyOf Tryd.prog 3 (.int .i64 m) = some (.int .i64 m) := Maps.keyOf_int_mk Tryd.underlying3 (Go.WalkArith.wf_i64 (by omega))
        have Hkey := Lib.hid hkey
        have hfin := Lib.hid (hrow8.mono hbw.size)
        have hbf := Lib.hid (hbw.trans (hb99.below (Nat.le_refl _) hbw.size))
        clear hkey hrow8 he0 hi0 hsz hin hcell hrow9 hss hmem9 hmx
        generalize f m = u at *
        obtain ⟨Au, capu, rfl, cua, cub⟩ := hfin.out.formL
        generalize (grp l m l.length).length = K at *
        go_wp2_with fail
        refine (HCALL.out).mono ?_
        rintro e w10 ⟨rfl, rfl⟩
        go_wp2_with (first
          | (at_lookup; refine lookup_raw _ rfl _ _ rfl w.heap.size j D rfl hO9.out _ (.int .i64 m) rfl Hkey.out _ hat8.out ?_))
        go_ret3
        exact ⟨_, rfl, hfin.out, hbf.out⟩
end Go.Proofs.YtdfjfojkheikiaaDoor
