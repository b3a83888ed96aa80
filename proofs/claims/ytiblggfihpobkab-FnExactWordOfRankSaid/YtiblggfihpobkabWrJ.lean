/- WordOfRank: the program's contract where there is a word. -/
import Derived.Test.YtiblggfihpobkabWrI
import Derived.Laws.MakeOwn
namespace Go.Proofs.Ytiblggfihpobkab
set_option linter.unusedSimpArgs false
open Go.ChangeShapes Go.WideShapes Go.ChangeAt Go.RowKit Go.Shelf
set_option linter.unusedVariables false
attribute [local go_sem] Oper.semAt_some

theorem info_byteW : (Try.prog.info? 5).map (fun i => (i.zero, i.size, i.bytes)) = some (some (.int .u8 0), 1, 1) := by kernel_rfl
theorem madeU (v : Value) (n : Nat) : madeCells #[v] n = Array.replicate n v := by
  apply Array.ext
  · simp [madeCells]
  · intro i h1 h2
    simp [madeCells, Nat.mod_one]
theorem mk_bytes (n : Nat) (hn : n ≤ 1048576) (W : World) : (Instr.makeSlice 60 (.int .i64 n) (.int .i64 n)).run Try.prog W = .ok (.slice (some ⟨W.heap.size, 0, none⟩) n n) (W.alloc (.cells (Array.replicate n (.int .u8 0)) 5)) := by
  obtain ⟨i0, hi, hz0, hz1, hz2⟩ := info_parts info_byteW
  have h := run_make (P := Try.prog) W 60 5 i0 _ Try.underlying60 hi hz0 .i64 .i64 n n (by omega) (by omega) (by rw [hz2]; omega) (by omega)
  rw [h, hz1]
  simp [Value.cells, madeU]
/-- The bytes lie there. -/
def WB (W : World) (b : Nat) (l : List UInt8) : Prop := ∀ j, j < l.length → W.cell? ⟨b, j, none⟩ = some (.int .u8 ((l.getD j 0).toNat : Int)) ∧ W.frozen? ⟨b, j, none⟩ = false
theorem WB.kept {A B : World} {b : Nat} {l : List UInt8} {row : Option Nat} (h : WB A b l) (hg : A.grownBy B row) (hr : ∀ r, row = some r → ∃ o : Obj, A.heap[r]? = some o ∧ o.isCells = false) : WB B b l :=
  fun j hj => ⟨cell_kept (h j hj).1 hg hr, (frozen_kept (h j hj).1 hg hr).trans (h j hj).2⟩
theorem WB.store {A : World} {b : Nat} {l : List UInt8} (h : WB A b l) (i : Nat) (c : UInt8) (hi : i < l.length) : WB (A.setCell ⟨b, i, none⟩ (.int .u8 (c.toNat : Int))) b (l.set i c) := by
  intro j hj
  rw [List.length_set] at hj
  rw [World.frozen?_setCell]
  by_cases e : i = j
  · subst e
    refine ⟨?_, (h i hi).2⟩
    rw [World.cell?_setCell_same' _ _ _ (by rw [(h i hi).1]; rfl)]
    rw [List.getD_eq_getElem?_getD, List.getElem?_set_self hi]
    rfl
  · refine ⟨?_, (h j hj).2⟩
    rw [World.cell?_setCell_other _ _ _ _ (fun q => e (by injection q)), (h j hj).1]
    rw [List.getD_eq_getElem?_getD, List.getD_eq_getElem?_getD, List.getElem?_set_ne e]
theorem WB.far {A : World} {b : Nat} {l : List UInt8} (h : WB A b l) (p : Addr) (v : Value) (hp : p.block ≠ b) : WB (A.setCell p v) b l := by
  intro j hj
  rw [World.frozen?_setCell, World.cell?_setCell_other _ _ _ _ (fun q => hp (by rw [q]))]
  exact h j hj
theorem WB.isB {A : World} {b : Nat} {l : List UInt8} (h : WB A b l) (j : Nat) (hj : j < l.length) : isB A b j := ⟨_, (h j hj).1⟩
theorem stp_len (n : Nat) : ∀ (is : List Nat) (s : List UInt8 × Nat), (is.foldl (stp n) s).1.length = s.1.length
  | [], s => rfl
  | i :: is, s => by
    rw [List.foldl_cons, stp_len n is]
    unfold stp
    rw [List.length_set]
theorem stp_le (n : Nat) : ∀ (is : List Nat) (s : List UInt8 × Nat), (is.foldl (stp n) s).2 ≤ s.2
  | [], s => Nat.le_refl _
  | i :: is, s => by
    rw [List.foldl_cons]
    refine Nat.le_trans (stp_le n is _) ?_
    exact Nat.div_le_self _ _
/-- What the word and the rank have become. -/
def stW (n L k : Nat) (pre : List (EnB L)) : List UInt8 × Nat := (pre.map (fun x => x.1.1)).foldl (stp n) (List.replicate L 0, k)
theorem stW_snoc (n L k : Nat) (pre : List (EnB L)) (x : EnB L) : stW n L k (pre ++ [x]) = stp n (stW n L k pre) x.1.1 := by
  unfold stW
  rw [List.map_append, List.foldl_append]
  rfl
theorem stW_len (n L k : Nat) (pre : List (EnB L)) : (stW n L k pre).1.length = L := by
  unfold stW
  rw [stp_len]
  simp
theorem stW_le (n L k : Nat) (pre : List (EnB L)) : (stW n L k pre).2 ≤ k := stp_le n _ _
theorem alpha_ok : (alpha.data.toList == (List.range 26).map ltr) = true := by kernel_rfl
theorem alpha_at (m : Nat) (h : m < alpha.size) : alpha[m]'h = ltr m := by
  have e := eq_of_beq alpha_ok
  have h2 : alpha[m]'h = alpha.data.toList[m]'(by rw [len_list]; exact h) := rfl
  rw [h2]
  simp only [e, List.getElem_map, List.getElem_range]
theorem box_far {W : World} {B : Nat} {t : TypeId} {u : Value} (h : Boxed W B t u) (p : Addr) (v : Value) (hp : ¬ p.block = B) : Boxed (W.setCell p v) B t u := by
  show (W.heap.modify p.block _)[B]? = _
  rw [Array.getElem?_modify, if_neg hp]
  exact h
theorem made_WB (W : World) (L : Nat) : WB (W.alloc (.cells (Array.replicate L (.int .u8 0)) 5)) W.heap.size (List.replicate L 0) := by
  intro j hj
  rw [List.length_replicate] at hj
  have e := World.alloc_heap_new W (.cells (Array.replicate L (.int .u8 0)) 5)
  constructor
  · unfold World.cell?
    simp only [e]
    simp [hj]
  · unfold World.frozen?
    simp only [e]
    simp
set_option maxRecDepth 100000 in
set_option maxHeartbeats 32000000 in
theorem implWrT_in (n L k : Nat) (w : World) (n1 : 1 ≤ n) (n2 : n ≤ 26) (l1 : 1 ≤ L) (l2 : L ≤ 8) (h2 : loG n L = true) (hk : (k : Int) < (n : Int) ^ L) :
    CallsIn Fence.wide 3 Try.prog 22 #[.int .i64 n, .int .i64 L, .int .i64 k] w fun e w' => e = .returned (.tuple #[.string (wdB n L k), .bool true]) ∧ Below w.heap.size w w' := by
  have HA : Hid (∀ W, Calls Try.prog 46 #[.int .i64 n, .int .i64 L] W fun e w' => e = .returned (.bool true) ∧ w' = W) := Lib.hid (fun W => by have := areWords_any n L W; rw [h2] at this; exact this.mono fun _ _ ⟨x, y⟩ => ⟨x, y.symm⟩)
  clear h2
  have hd : decide ((k : Int) < 0) = false := by simp
  obtain ⟨c0, c1⟩ := pw_le8 n n1 n2 L l2
  obtain ⟨q, hq⟩ : ∃ q, q = (n : Int) ^ L := ⟨_, rfl⟩
  have HP : Hid (∀ W, Calls Try.prog 51 #[.int .i64 n, .int .i64 L] W fun e w' => e = .returned (.int .i64 q) ∧ w' = W) := Lib.hid (fun W => by have := powerW_any n L W n1 n2 (by omega); rw [← hq] at this; exact this.mono fun _ _ ⟨x, y⟩ => ⟨x, y.symm⟩)
  rw [← hq] at c0 c1 hk
  clear hq
  have hd2 : decide (q ≤ (k : Int)) = false := by simp; omega
  refine callsIn_of_wp_marks Try.func22 rfl trivial ?_ rfl
  simp only [Try.ntmps22, List.size_toArray, List.length_cons, List.length_nil, Nat.reduceAdd, Nat.reduceSub, Array.replicate_succ, Array.replicate_zero, List.push_toArray, List.append_toArray, List.nil_append, List.cons_append]
  have hro : Fence.wide.round = none := rfl
  have hfA : Fence.wide.fn 46 := trivial
  have hfP : Fence.wide.fn 51 := trivial
  have hfB : Fence.wide.fn 52 := trivial
  have hmk := mk_bytes L (by omega)
  gi_wp2
  gi_big_quiet_th ((first | (gi_at_call 46; refine CallsIn.quiet_of_same (callsIn_wide.2 (HA.out _))) | (gi_at_call 51; refine CallsIn.quiet_of_same (callsIn_wide.2 (HP.out _)))))
  gi_wp2_with (gi_at_call 52; refine (back_fn Fence.wide _ trivial rfl _ _ _ _).mono ?_; rintro e w' ⟨rfl, rfl⟩)
  have bN0 := Boxed.new w 3 (.int .i64 n)
  have bK0 := Boxed.new (w.alloc (.cells #[.int .i64 n] 3)) 3 (.int .i64 k)
  rw [World.size_alloc] at bK0
  obtain ⟨W1, hW1⟩ : ∃ W1, W1 = ((w.alloc (.cells #[.int .i64 n] 3)).alloc (.cells #[.int .i64 k] 3)).drewN nq := ⟨_, rfl⟩
  have bN1 : Boxed W1 w.heap.size 3 (.int .i64 n) := by rw [hW1]; exact bN0.alloc _
  have bK1 : Boxed W1 (w.heap.size + 1) 3 (.int .i64 k) := by rw [hW1]; exact bK0
  have hS1 : W1.heap.size = w.heap.size + 1 + 1 := by rw [hW1]; simp
  have hB1 : Below w.heap.size w W1 := by rw [hW1]; exact bel_drewN (bel_alloc (bel_alloc (Below.refl _ _) _) _) _
  rw [← hW1]
  clear hW1 bN0 bK0
  have bM := made_WB W1 L
  have bS := Boxed.new (W1.alloc (.cells (Array.replicate L (.int .u8 0)) 5)) 60 (.slice (some ⟨w.heap.size + 1 + 1, 0, none⟩) L L)
  rw [World.size_alloc, hS1] at bS
  rw [hS1] at bM
  have bM2 := bM.kept (World.grownBy_alloc _ (.cells #[.slice (some ⟨w.heap.size + 1 + 1, 0, none⟩) L L] 60) none) (fun r e => by cases e)
  obtain ⟨W2, hW2⟩ : ∃ W2, W2 = (W1.alloc (.cells (Array.replicate L (.int .u8 0)) 5)).alloc (.cells #[.slice (some ⟨w.heap.size + 1 + 1, 0, none⟩) L L] 60) := ⟨_, rfl⟩
  have bN2 : Boxed W2 w.heap.size 3 (.int .i64 n) := by rw [hW2]; exact (bN1.alloc _).alloc _
  have bK2 : Boxed W2 (w.heap.size + 1) 3 (.int .i64 k) := by rw [hW2]; exact (bK1.alloc _).alloc _
  have hS2 : W2.heap.size = w.heap.size + 1 + 1 + 1 + 1 := by rw [hW2]; simp [hS1]
  have hB2 : Below w.heap.size w W2 := by rw [hW2]; exact bel_alloc (bel_alloc hB1 _) _
  rw [← hW2] at bM2 bS ⊢
  clear hW2 bM bN1 bK1 hB1 hS1 hmk
  have bQ := Boxed.new W2 60 (.slice (some ⟨w.heap.size + 1 + 1, 0, none⟩) L L)
  rw [hS2] at bQ
  have bM3 := bM2.kept (World.grownBy_alloc _ (.cells #[.slice (some ⟨w.heap.size + 1 + 1, 0, none⟩) L L] 60) none) (fun r e => by cases e)
  obtain ⟨W3, hW3⟩ : ∃ W3, W3 = W2.alloc (.cells #[.slice (some ⟨w.heap.size + 1 + 1, 0, none⟩) L L] 60) := ⟨_, rfl⟩
  have bN3 : Boxed W3 w.heap.size 3 (.int .i64 n) := by rw [hW3]; exact bN2.alloc _
  have bK3 : Boxed W3 (w.heap.size + 1) 3 (.int .i64 k) := by rw [hW3]; exact bK2.alloc _
  have bS3 : Boxed W3 (w.heap.size + 1 + 1 + 1) 60 (.slice (some ⟨w.heap.size + 1 + 1, 0, none⟩) L L) := by rw [hW3]; exact bS.alloc _
  have hS3 : W3.heap.size = w.heap.size + 1 + 1 + 1 + 1 + 1 := by rw [hW3]; simp [hS2]
  have hB3 : Below w.heap.size w W3 := by rw [hW3]; exact bel_alloc hB2 _
  rw [← hW3] at bQ bM3 ⊢
  clear hW3 hB2 hS2 bN2 bK2 bM2 bS
  refine wpIn_rangeFunc_ownF (w0 := W3) hro (by omega) (gf := 76) (lb := #[.pointer (some ⟨w.heap.size + 1 + 1 + 1 + 1, 0, none⟩)]) rfl trivial (Go.Proofs.enters_of Try.func76 (by kernel_rfl) rfl)
    (back_stops Fence.wide _ trivial hro (by omega) (w.heap.size + 1 + 1 + 1 + 1) (w.heap.size + 1 + 1) L L (by omega) W3 (by omega) (by omega) bQ.cell (fun j hj => bM3.isB j (by simpa using hj)))
    (fun h k => h.t k) KpB.b (Below.refl _ _) (fun _ => rfl)
    (fun pre W => (Boxed W w.heap.size 3 (.int .i64 n) ∧ Boxed W (w.heap.size + 1) 3 (.int .i64 ((stW n L k pre).2 : Int)) ∧ Boxed W (w.heap.size + 1 + 1 + 1) 60 (.slice (some ⟨w.heap.size + 1 + 1, 0, none⟩) L L) ∧ WB W (w.heap.size + 1 + 1) (stW n L k pre).1) ∧ Below w.heap.size w W)
    (fun _ _ _ => False)
    (OwnFrom.and (fun st A B row hs hg hr => ⟨hs.1.kept hg (fun e => by have := (hr _ e.symm).1; omega), hs.2.1.kept hg (fun e => by have := (hr _ e.symm).1; omega), hs.2.2.1.kept hg (fun e => by have := (hr _ e.symm).1; omega), hs.2.2.2.kept hg (fun r e => (hr r e).2)⟩) (ownFrom_below (Nat.le_refl _) (by omega)))
    (fun _ _ _ _ _ hs _ _ => hs)
    ⟨⟨bN3, bK3, bS3, bM3⟩, hB3⟩
    (fun x => { tmps := #[.int .i64 n, .int .i64 L, .int .i64 k, .pointer (some ⟨w.heap.size, 0, none⟩), undef, .pointer (some ⟨w.heap.size + 1, 0, none⟩), .string ⟨#[]⟩, .bool false, .pointer (some ⟨w.heap.size + 1 + 1 + 1, 0, none⟩), .int .i64 (x.1.1 : Int), .int .i64 n, .int .i64 L, .bool true, .bool false, .bool false, .int .i64 k, .bool false, .bool false, .bool false, .int .i64 k, .int .i64 n, .int .i64 L, .int .i64 q, .bool false, .bool false, .int .i64 L, .slice (some ⟨w.heap.size + 1 + 1, 0, none⟩) L L, .slice (some ⟨w.heap.size + 1 + 1, 0, none⟩) L L, .func (.func 76) #[] #[.pointer (some ⟨w.heap.size + 1 + 1 + 1 + 1, 0, none⟩)], .int .i64 (x.1.1 : Int), .int .u8 x.1.2, undef, undef, undef, undef, undef, undef, undef, undef, undef, undef, undef, undef], defers := [] }) ?assign ?body ?done ?stop
  case assign =>
    intro l x W K hK
    unfold encB
    gi_wp2
    exact hK
  case body =>
    rintro l pre x W ⟨⟨hn, hk2, hs2, hm⟩, hB⟩ hlt
    have hst := stW_snoc n L k pre x
    have hle := stW_le n L k pre
    have hlen := stW_len n L k pre
    generalize stW n L k pre = st at *
    obtain ⟨l2, q2⟩ := st
    dsimp only at hk2 hm hle hlen
    have hsn : Hid (stW n L k (pre ++ [x]) = (l2.set x.1.1 (ltr (q2 % n)), q2 / n)) := Lib.hid hst
    clear hst
    obtain ⟨⟨i, y⟩, hi⟩ := x
    dsimp only at hi hsn
    have hw := hm i (by rw [hlen]; exact hi)
    have HM := Lib.hid hm
    clear hm
    have cn := hn.cell
    have ck := hk2.cell
    have fk := hk2.frozen
    have cs := hs2.cell
    have cw := hw.1
    have fw := hw.2
    have Hn := Lib.hid hn
    have Hk := Lib.hid hk2
    have Hs := Lib.hid hs2
    have HB := Lib.hid hB
    have Hlen := Lib.hid hlen
    clear hn hk2 hs2 hB hw hlen
    generalize hu : (Value.int .u8 ((l2.getD i 0).toNat : Int)) = u at *
    clear hu
    have hn0 : ¬ (n : Int) = 0 := by omega
    have hnb : ((n : Int) == 0) = false := by simpa using hn0
    have htm := rem_nat2 q2 n
    have htd := quo_nat2 q2 n
    have hem : (q2 : Int) % (n : Int) = ((q2 % n : Nat) : Int) := rfl
    have hed : (q2 : Int) / (n : Int) = ((q2 / n : Nat) : Int) := rfl
    have hm26 : q2 % n < 26 := Nat.lt_of_lt_of_le (Nat.mod_lt _ (by omega)) n2
    have hdq : q2 / n ≤ q2 := Nat.div_le_self _ _
    generalize q2 % n = m at *
    generalize q2 / n = d at *
    have hi9 : i < 9 := by omega
    have hnn : ¬ n = 0 := by omega
    have hm26i : (m : Int) < 26 := by omega
    have hmix : Try.prog.follows .mixedOrders = true := by kernel_rfl
    gi_wp2
    rename_i K hKK
    have key : ∀ h26 : m < alpha.size, K { tmps := #[.int .i64 n, .int .i64 L, .int .i64 k, .pointer (some ⟨w.heap.size, 0, none⟩), undef, .pointer (some ⟨w.heap.size + 1, 0, none⟩), .string ⟨#[]⟩, .bool false, .pointer (some ⟨w.heap.size + 1 + 1 + 1, 0, none⟩), .int .i64 (i : Int), .int .i64 n, .int .i64 L, .bool true, .bool false, .bool false, .int .i64 k, .bool false, .bool false, .bool false, .int .i64 k, .int .i64 n, .int .i64 L, .int .i64 q, .bool false, .bool false, .int .i64 L, .slice (some ⟨w.heap.size + 1 + 1, 0, none⟩) L L, .slice (some ⟨w.heap.size + 1 + 1, 0, none⟩) L L, .func (.func 76) #[] #[.pointer (some ⟨w.heap.size + 1 + 1 + 1 + 1, 0, none⟩)], .int .i64 (i : Int), .int .u8 y, .slice (some ⟨w.heap.size + 1 + 1, 0, none⟩) L L, .int .i64 i, .int .i64 q2, .int .i64 n, .int .i64 m, .int .u8 ((alpha[m]'h26).toNat : Int), .pointer (some ⟨w.heap.size + 1 + 1, i, none⟩), undef, undef, undef, undef, undef], defers := [] } (W.setCell ⟨w.heap.size + 1 + 1, i, none⟩ (.int .u8 ((alpha[m]'h26).toNat : Int))).drew := by
      intro h26
      rw [alpha_at m h26]
      have HW := Lib.hid ((HM.out.store i (ltr m) (by rw [Hlen.out]; exact hi)).far ⟨w.heap.size + 1, 0, none⟩ (.int .i64 d) (by show ¬ w.heap.size + 1 = w.heap.size + 1 + 1; omega))
      have Hn2 := box_far Hn.out ⟨w.heap.size + 1 + 1, i, none⟩ (.int .u8 ((ltr m).toNat : Int)) (by show ¬ w.heap.size + 1 + 1 = w.heap.size; omega)
      have Hk2 := box_far Hk.out ⟨w.heap.size + 1 + 1, i, none⟩ (.int .u8 ((ltr m).toNat : Int)) (by show ¬ w.heap.size + 1 + 1 = w.heap.size + 1; omega)
      have Hs2 := box_far Hs.out ⟨w.heap.size + 1 + 1, i, none⟩ (.int .u8 ((ltr m).toNat : Int)) (by show ¬ w.heap.size + 1 + 1 = w.heap.size + 1 + 1 + 1; omega)
      have HN3 := Lib.hid (box_far Hn2 ⟨w.heap.size + 1, 0, none⟩ (.int .i64 d) (by show ¬ w.heap.size + 1 = w.heap.size; omega))
      have HK3 := Lib.hid (Hk2.set (.int .i64 d))
      have HS3 := Lib.hid (box_far Hs2 ⟨w.heap.size + 1, 0, none⟩ (.int .i64 d) (by show ¬ w.heap.size + 1 = w.heap.size + 1 + 1 + 1; omega))
      have cn2 := Hn2.cell
      have ck2 := Hk2.cell
      have fk2 := Hk2.frozen
      have HB3 := Lib.hid ((HB.out.setCell (p := ⟨w.heap.size + 1 + 1, i, none⟩) (by show w.heap.size ≤ w.heap.size + 1 + 1; omega) (.int .u8 ((ltr m).toNat : Int))))
      have HB4 := Lib.hid (HB3.out.setCell (p := ⟨w.heap.size + 1, 0, none⟩) (by show w.heap.size ≤ w.heap.size + 1; omega) (.int .i64 d))
      clear Hn2 Hk2 Hs2 cn ck fk cs cw fw hmix HB3
      refine hKK _ _ ?_
      gi_wp2
      refine ⟨((KeepsOthers.setCell _ _ _).trans (KeepsOthers.setCell _ _ _)).trans (KeepsOthers.drew _), ⟨fun h => ?_, fun j hj hb => ?_⟩, ⟨HN3.out, ?_, HS3.out, ?_⟩, Below.drew HB4.out⟩
      · refine (World.cell?_setCell_other (W.setCell _ _) _ _ _ (fun e => by have := congrArg Addr.block e; dsimp only at this; omega)).trans ?_
        exact (World.cell?_setCell_other W _ _ _ (fun e => by have := congrArg Addr.block e; dsimp only at this; omega)).trans h
      · exact WB.isB HW.out j (by rw [List.length_set, Hlen.out]; exact hj)
      · rw [hsn.out]; exact HK3.out
      · rw [hsn.out]; exact HW.out
    gi_region_with_o (fail)
    all_goals exact key _
  case done =>
    rintro D ys W hD hys ⟨⟨hn, hk2, hs2, hm⟩, hB⟩ hK
    have hl : (stW n L k ys).1 = wdL n L k := by
      unfold stW
      rw [hys]
      have := wr_all n L k []
      rw [List.append_nil, List.append_nil] at this
      exact this
    rw [hl] at hm
    have hcb := run_convert_bytes_back (P := Try.prog) W 60 9 5 ⟨w.heap.size + 1 + 1, 0, none⟩ L (wdL n L k) Try.underlying60 Try.underlying5 Try.underlying9 (fun j hj => by
      rw [Addr.add_lit, Nat.zero_add, (hm j hj).1]
      rw [List.getD_eq_getElem?_getD, List.getElem?_eq_getElem hj]
      rfl)
    rw [wdL_len] at hcb
    have hfin : Hid ((⟨(wdL n L k).toArray⟩ : ByteArray) = wdB n L k) := Lib.hid rfl
    generalize (⟨(wdL n L k).toArray⟩ : ByteArray) = T at *
    have cs := hs2.cell
    clear hn hk2 hs2 hm hl hys hd hd2
    gi_wp2
    refine ⟨by simp, .inl ⟨_, _, rfl, run_takeDeferred hK, ?_⟩⟩
    refine ⟨.tuple #[.string T, .bool true], by simp [results, Try.f22, go_sem], by rw [hfin.out], hB.trans (belowK_b (w := w) (Nat.le_refl _) W D _ _ (by omega) hK rfl rfl)⟩
  case stop =>
    rintro D c pre W _ _ h _
    exact h.elim
end Go.Proofs.Ytiblggfihpobkab
