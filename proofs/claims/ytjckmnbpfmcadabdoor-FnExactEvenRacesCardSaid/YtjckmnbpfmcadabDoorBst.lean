/- Best answers: what is of no program, and the contract of the model. -/
import Derived.Test.YtjckmnbpfmcadabDoorRcL
import Derived.Test.YtjckmnbpfmcadabDoorAllT
namespace Go.Proofs.YtjckmnbpfmcadabDoor
set_option linter.unusedSimpArgs false
open Go.ChangeShapes Go.WideShapes Go.ChangeAt Go.RowKit
set_option linter.unusedVariables false

abbrev BS := ByteArray × Int × Int
/-- One more rival: the better one of both. -/
def bstS (h o : Int) (a : ByteArray) (st : BS) (p : ByteArray) : BS := if st.2.1 * odO h o p a < odF h o p a * st.2.2 then (p, odF h o p a, odO h o p a) else st
def bstM (h o : Int) (a : ByteArray) (st : BS) (p : ByteArray) : BS := if p = a then st else bstS h o a st p
def bst0 : BS := (noS, 0, 1)
def rivL (a : ByteArray) : List ByteArray := (allTx a.size).filter fun p => !decide (p = a)
def bst (h o : Int) (a : ByteArray) : BS := (rivL a).foldl (bstS h o a) bst0
theorem fold_riv (h o : Int) (a : ByteArray) : ∀ (l : List ByteArray) (st : BS), l.foldl (bstM h o a) st = (l.filter fun p => !decide (p = a)).foldl (bstS h o a) st
  | [], _ => rfl
  | p :: l, st => by
    rw [List.foldl_cons, fold_riv h o a l]
    by_cases e : p = a
    · rw [List.filter_cons_of_neg (by simp [e])]
      unfold bstM
      rw [if_pos e]
    · rw [List.filter_cons_of_pos (by simp [e]), List.foldl_cons]
      unfold bstM
      rw [if_neg e]
theorem bst_all (h o : Int) (a : ByteArray) : (allTx a.size).foldl (bstM h o a) bst0 = bst h o a := fold_riv h o a _ _
theorem fold_take {α : Type} (f : BS → α → BS) (l : List α) (d : α) (k : Nat) (hk : k < l.length) (st : BS) : (l.take (k + 1)).foldl f st = f ((l.take k).foldl f st) (l.getD k d) := by
  rw [List.take_succ_eq_append_getElem hk, List.foldl_append, List.getD_eq_getElem?_getD, List.getElem?_eq_getElem hk]
  rfl
theorem bstS_yes {h o : Int} {a p : ByteArray} {st : BS} (q : st.2.1 * odO h o p a < odF h o p a * st.2.2) : bstS h o a st p = (p, odF h o p a, odO h o p a) := if_pos q
theorem bstS_no {h o : Int} {a p : ByteArray} {st : BS} (q : ¬ st.2.1 * odO h o p a < odF h o p a * st.2.2) : bstS h o a st p = st := if_neg q
theorem rac_two {a p : ByteArray} (ha : racG a = true) (hp : p ∈ allTx a.size) (hne : p ≠ a) : twoG p a = true := by
  obtain ⟨a1, a2, a3⟩ := rac_in ha
  obtain ⟨p1, p2⟩ := allTx_mem a.size p hp
  have hrp : racG p = true := by
    unfold racG patG tossG inB
    simp only [Bool.and_eq_true, decide_eq_true_iff]
    rw [p1]
    refine ⟨⟨⟨by omega, p2⟩, by omega, by omega⟩, by omega⟩
  unfold twoG
  rw [hrp, ha]
  simp [p1, hne]
/-- The numbers of such a state are no greater than those of odds. -/
def bsIn (st : BS) : Prop := 0 ≤ st.2.1 ∧ st.2.1 ≤ 400000 ∧ 0 ≤ st.2.2 ∧ st.2.2 ≤ 400000 ∧ 1 ≤ st.2.1 + st.2.2
theorem bst0_in : bsIn bst0 := by unfold bsIn bst0; simp
theorem bstS_in {h o : Int} {a p : ByteArray} {st : BS} (g : rcG h o = true) (t : twoG p a = true) (i : bsIn st) : bsIn (bstS h o a st p) := by
  obtain ⟨f1, f2, o1, o2, _⟩ := od_all g t
  unfold bstS
  split
  · unfold bsIn
    dsimp only
    omega
  · exact i
theorem fold_in {h o : Int} {a : ByteArray} (g : rcG h o = true) (ha : racG a = true) : ∀ (l : List ByteArray) (st : BS), (∀ p ∈ l, p ∈ allTx a.size) → bsIn st → bsIn (l.foldl (bstM h o a) st)
  | [], _, _, i => i
  | p :: l, st, hl, i => by
    rw [List.foldl_cons]
    refine fold_in g ha l _ (fun q hq => hl q (List.mem_cons_of_mem _ hq)) ?_
    unfold bstM
    split
    · exact i
    · rename_i hne
      exact bstS_in g (rac_two ha (hl p (by simp)) hne) i
/-- Chances are to each other as odds are. -/
theorem cross_iff (f s F S : Int) : f * (F + S) < F * (f + s) ↔ f * S < F * s := by
  rw [Int.mul_add, Int.mul_add, Int.mul_comm F f]
  omega

theorem prodB {x y m k : Int} (hx0 : 0 ≤ x) (hx : x ≤ m) (hy0 : 0 ≤ y) (hy : y ≤ k) : 0 ≤ x * y ∧ x * y ≤ m * k :=
  ⟨Int.mul_nonneg hx0 hy0, Int.mul_le_mul hx hy hy0 (by omega)⟩
set_option maxRecDepth 100000 in
set_option maxHeartbeats 3200000 in
theorem raBest_any (h o : Int) (a : ByteArray) (w : World) (g : rcG h o = true) (ha : racG a = true) :
    Calls Tryd.prog 58 #[cn h o, .string a] w fun e w' => e = .returned (.tuple #[.string (bst h o a).1, .int .i64 (bst h o a).2.1, .int .i64 ((bst h o a).2.1 + (bst h o a).2.2)]) ∧ Below w.heap.size w w' := by
  have bx0 := Lib.hid (Box2.new w (.int .i64 h) (.int .i64 o) 27)
  have bl0 : Below w.heap.size w (w.alloc (.cells #[.int .i64 h, .int .i64 o] 27)) := bel_alloc (Below.refl _ _) _
  obtain ⟨a1, a5, a3⟩ := rac_in ha
  have HA3 := Lib.hid a3
  have HA := Lib.hid ha
  have G := Lib.hid g
  clear a3 ha g
  go_enter Tryd.func58, Tryd.ntmps58
  go_wp2_with fail
  refine (raTexts_any a.size _ (by omega)).mono ?_
  rintro e w1 ⟨v, rfl, r1, b1⟩
  have hpos := tx_pos a.size
  rcases r1.form with ⟨hx, _⟩ | ⟨hx, gg, cap, rfl, hbg, hgl, hlc, hcm⟩
  · rw [hx] at hpos; simp at hpos
  unfold maxLen at hcm
  have hl := allTx_len a.size
  have hp := pow12 a.size (by omega)
  have R1 := Lib.hid r1
  have bx1 := Lib.hid (bx0.out.keep b1)
  have bl1 := bel_trans bl0 b1
  have hall := Lib.hid (bst_all h o a)
  have hmem := Lib.hid (fun (p : ByteArray) (hp : p ∈ allTx a.size) => hp)
  have hin := Lib.hid (fun (l : List ByteArray) (hl : ∀ p ∈ l, p ∈ allTx a.size) => fold_in G.out HA.out l bst0 hl bst0_in)
  have htw := Lib.hid (fun (p : ByteArray) (hp : p ∈ allTx a.size) (hne : p ≠ a) => rac_two HA.out hp hne)
  clear r1 b1
  rw [← hl] at hp
  clear hl
  generalize allTx a.size = xs at *
  generalize hN : xs.length = N at *
  have HN := Lib.hid hN
  clear hN hx
  go_wp2_with fail
  go_loopw [7, 8, 9, 18] (fun b x y i wr => ∃ k : Nat, k ≤ N ∧ i = .int .i64 k ∧ b = .string ((xs.take k).foldl (bstM h o a) bst0).1 ∧ x = .int .i64 ((xs.take k).foldl (bstM h o a) bst0).2.1 ∧ y = .int .i64 (((xs.take k).foldl (bstM h o a) bst0).2.1 + ((xs.take k).foldl (bstM h o a) bst0).2.2) ∧ Below w1.heap.size w1 wr) (fun _ _ _ i _ => N - (intOf i).toNat)
  case atStart => exact ⟨0, by omega, rfl, rfl, rfl, rfl, Below.refl _ _⟩
  case round =>
    obtain ⟨k, hk, rfl, rfl, rfl, rfl, hb⟩ := hrel
    obtain ⟨wa, rfl⟩ : ∃ wa : World, wa = wr := ⟨_, rfl⟩
    have hsa := hb.size
    by_cases hlt : k < N
    · have hrow := R1.out.below hb
      rw [← HN.out] at hrow
      have c0 := hrow.at_ k (by rw [HN.out]; exact hlt)
      have hft := Lib.hid (fold_take (bstM h o a) xs noS k (by rw [HN.out]; exact hlt) bst0)
      have hpm := Lib.hid (hmem.out _ (getD_mem (k := k) (by rw [HN.out]; exact hlt)))
      obtain ⟨i1, i2, i3, i4, i5⟩ := hin.out (xs.take k) (fun p hp => hmem.out p (List.mem_of_mem_take hp))
      obtain ⟨d0, d1, d2⟩ := bx1.out.keep hb
      clear hrow
      generalize (xs.take k).foldl (bstM h o a) bst0 = st at *
      obtain ⟨bb, f, s⟩ := st
      dsimp only at i1 i2 i3 i4 i5 ⊢
      generalize xs.getD k noS = p at *
      have hq := ba_beq p a
      by_cases hpa : p = a
      · have hz : Hid (bstM h o a (bb, f, s) p = (bb, f, s)) := Lib.hid (if_pos hpa)
        rw [decide_eq_true hpa] at hq
        have HPA := Lib.hid hpa
        clear hpa
        go_wp2_with fail
        repeat (go_quiet (fail); go_wp2_with fail)
        exact ⟨⟨k + 1, by omega, by go_num, by rw [hft.out, hz.out], by rw [hft.out, hz.out], by rw [hft.out, hz.out], hb⟩, by simp [intOf]; omega⟩
      · have t := htw.out p hpm.out hpa
        obtain ⟨f1, f2, o1, o2, _⟩ := od_all G.out t
        rw [decide_eq_false hpa] at hq
        have hz : Hid (bstM h o a (bb, f, s) p = bstS h o a (bb, f, s) p) := Lib.hid (if_neg hpa)
        have HC := Lib.hid (fun W => raChance_any h o p a W G.out t)
        have HPA := Lib.hid hpa
        have hS : Hid (bstS h o a (bb, f, s) p = if f * odO h o p a < odF h o p a * s then (p, odF h o p a, odO h o p a) else (bb, f, s)) := rfl
        clear hpa t
        generalize odF h o p a = F at *
        generalize odO h o p a = O at *
        obtain ⟨m1, m2⟩ := prodB (show 0 ≤ F by omega) f2 (show 0 ≤ f + s by omega) (show f + s ≤ 800000 by omega)
        obtain ⟨m3, m4⟩ := prodB i1 i2 (show 0 ≤ F + O by omega) (show F + O ≤ 800000 by omega)
        have hw1 : IntKind.i64.wrap (F * (f + s)) = F * (f + s) := IntWalk.i64_in _ (by omega)
        have hw2 : IntKind.i64.wrap (f * (F + O)) = f * (F + O) := IntWalk.i64_in _ (by omega)
        by_cases hc : f * (F + O) < F * (f + s)
        · have hS2 := Lib.hid (hS.out.trans (if_pos ((cross_iff f s F O).1 hc)))
          go_wp2_with fail
          repeat (go_quiet (fail); go_wp2_with fail)
          refine (HC.out _).mono ?_
          rintro e w2 ⟨rfl, hb2⟩
          go_wp2_with fail
          exact ⟨⟨k + 1, by omega, by go_num, by rw [hft.out, hz.out, hS2.out], by rw [hft.out, hz.out, hS2.out], by rw [hft.out, hz.out, hS2.out], bel_trans hb hb2⟩, by simp [intOf]; omega⟩
        · have hS2 := Lib.hid (hS.out.trans (if_neg (fun q => hc ((cross_iff f s F O).2 q))))
          go_wp2_with fail
          repeat (go_quiet (fail); go_wp2_with fail)
          refine (HC.out _).mono ?_
          rintro e w2 ⟨rfl, hb2⟩
          go_wp2_with fail
          exact ⟨⟨k + 1, by omega, by go_num, by rw [hft.out, hz.out, hS2.out], by rw [hft.out, hz.out, hS2.out], by rw [hft.out, hz.out, hS2.out], bel_trans hb hb2⟩, by simp [intOf]; omega⟩
    · obtain rfl : k = N := by omega
      rw [List.take_of_length_le (by rw [HN.out]; exact Nat.le_refl _), hall.out]
      have hbf := bel_trans bl1 hb
      go_wp2_with fail
      go_ret3
      exact ⟨rfl, hbf⟩
end Go.Proofs.YtjckmnbpfmcadabDoor
