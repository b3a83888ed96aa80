/- Best answers: the contract of the program. -/
import Derived.Test.YtjckmnbpfmcadabDoorBst
import Derived.Test.YtjckmnbpfmcadabDoorRiv
namespace Go.Proofs.YtjckmnbpfmcadabDoor
set_option linter.unusedSimpArgs false
open Go.ChangeShapes Go.WideShapes Go.ChangeAt Go.RowKit
set_option linter.unusedVariables false

theorem areAbove_any (f s F O : Int) (w : World) (h1 : 0 ≤ f ∧ f ≤ 400000) (h2 : 0 ≤ s ∧ s ≤ 400000) (h3 : 0 ≤ F ∧ F ≤ 400000) (h4 : 0 ≤ O ∧ O ≤ 400000) :
    Calls Tryd.prog 79 #[odV F O, odV f s] w fun e w' => e = .returned (.bool (decide (f * O < F * s))) ∧ Below w.heap.size w w' := by
  obtain ⟨m1, m2⟩ := prodB h3.1 h3.2 h2.1 h2.2
  obtain ⟨m3, m4⟩ := prodB h1.1 h1.2 h4.1 h4.2
  have hw1 : IntKind.i64.wrap (F * s) = F * s := IntWalk.i64_in _ (by omega)
  have hw2 : IntKind.i64.wrap (f * O) = f * O := IntWalk.i64_in _ (by omega)
  go_enter Tryd.func79, Tryd.ntmps79
  go_wp2
  go_ret
  exact ⟨rfl, bel_alloc (bel_alloc (Below.refl _ _) _) _⟩
theorem riv_mem {a p : ByteArray} (hp : p ∈ rivT a) : p ∈ allTx a.size ∧ p ≠ a := by
  unfold rivT at hp
  rw [List.mem_filter] at hp
  exact ⟨hp.1, by simpa using hp.2⟩
theorem foldS_in {h o : Int} {a : ByteArray} (g : rcG h o = true) (ha : racG a = true) : ∀ (l : List ByteArray) (st : BS), (∀ p ∈ l, p ∈ rivT a) → bsIn st → bsIn (l.foldl (bstS h o a) st)
  | [], _, _, i => i
  | p :: l, st, hl, i => by
    rw [List.foldl_cons]
    refine foldS_in g ha l _ (fun q hq => hl q (List.mem_cons_of_mem _ hq)) ?_
    obtain ⟨q1, q2⟩ := riv_mem (hl p (by simp))
    exact bstS_in g (rac_two ha q1 q2) i
theorem setTwo (W : World) (F O : Int) : Box2 (W.alloc (.cells #[.int .i64 F, .int .i64 O] 53)) W.heap.size (.int .i64 F) (.int .i64 O) := Box2.new _ _ _ _
theorem Box2.set2 {w : World} {k : Nat} {x y u v : Value} (h : Box2 w k x y) : Box2 ((w.setCell ⟨k, 0, none⟩ u).setCell ⟨k, 1, none⟩ v) k u v := by
  obtain ⟨a, b, c⟩ := h
  refine ⟨?_, ?_, ?_⟩ <;> simp [go_sem, a, b, c]
theorem Box2.set2_other {w : World} {k l : Nat} {x y u v : Value} (h : Box2 w k x y) (hne : k ≠ l) : Box2 ((w.setCell ⟨l, 0, none⟩ u).setCell ⟨l, 1, none⟩ v) k x y := by
  obtain ⟨a, b, c⟩ := h
  refine ⟨?_, ?_, ?_⟩ <;> simp [go_sem, a, b, c, hne]

/-- Two cells that may be written. -/
def FBox (w : World) (k : Nat) (x y : Value) : Prop := Box2 w k x y ∧ w.frozen? ⟨k, 0, none⟩ = false ∧ w.frozen? ⟨k, 1, none⟩ = false
theorem FBox.new (w : World) (x y : Value) (t : TypeId) : FBox (w.alloc (.cells #[x, y] t)) w.heap.size x y := by
  refine ⟨Box2.new _ _ _ _, ?_, ?_⟩ <;> simp [go_sem]
theorem FBox.keep {w w1 : World} {k : Nat} {x y : Value} (h : FBox w k x y) (hb : Below w.heap.size w w1) : FBox w1 k x y :=
  ⟨h.1.keep hb, (hb.frozen (p := ⟨k, 0, none⟩) h.1.2.2).trans h.2.1, (hb.frozen (p := ⟨k, 1, none⟩) h.1.2.2).trans h.2.2⟩
theorem FBox.set2 {w : World} {k : Nat} {x y : Value} (h : FBox w k x y) (u v : Value) : FBox ((w.setCell ⟨k, 0, none⟩ u).setCell ⟨k, 1, none⟩ v) k u v :=
  ⟨h.1.set2, by simp [h.2.1], by simp [h.2.2]⟩
theorem FBox.set2_other {w : World} {k l : Nat} {x y : Value} (h : FBox w k x y) (hne : k ≠ l) (u v : Value) : FBox ((w.setCell ⟨l, 0, none⟩ u).setCell ⟨l, 1, none⟩ v) k x y :=
  ⟨h.1.set2_other hne, by simp [h.2.1], by simp [h.2.2]⟩

set_option maxRecDepth 100000 in
set_option maxHeartbeats 3200000 in
theorem bestAnswer_any (h o : Int) (a : ByteArray) (w : World) (g : rcG h o = true) (ha : racG a = true) :
    Calls Tryd.prog 60 #[cn h o, .string a] w fun e w' => e = .returned (.tuple #[.string (bst h o a).1, odV (bst h o a).2.1 (bst h o a).2.2]) ∧ Below w.heap.size w w' := by
  obtain ⟨a1, a5, a3⟩ := rac_in ha
  have bxc := Lib.hid (((Box2.new w (.int .i64 h) (.int .i64 o) 27).keep (bel_alloc (Below.refl _ _) (.cells #[.int .i64 0, .int .i64 0] 53))).keep (bel_alloc (Below.refl _ _) (.cells #[.int .i64 0, .int .i64 1] 53)))
  have fb5 := ((FBox.new (w.alloc (.cells #[.int .i64 h, .int .i64 o] 27)) (.int .i64 0) (.int .i64 0) 53).keep (bel_alloc (Below.refl _ _) (.cells #[.int .i64 0, .int .i64 1] 53)))
  have fb7 := (FBox.new ((w.alloc (.cells #[.int .i64 h, .int .i64 o] 27)).alloc (.cells #[.int .i64 0, .int .i64 0] 53)) (.int .i64 0) (.int .i64 1) 53)
  rw [show (w.alloc (.cells #[.int .i64 h, .int .i64 o] 27)).heap.size = w.heap.size + 1 from by simp] at fb5
  rw [show ((w.alloc (.cells #[.int .i64 h, .int .i64 o] 27)).alloc (.cells #[.int .i64 0, .int .i64 0] 53)).heap.size = w.heap.size + 1 + 1 from by simp] at fb7
  have bl0 := bel_alloc (bel_alloc (bel_alloc (Below.refl _ w) (.cells #[.int .i64 h, .int .i64 o] 27)) (.cells #[.int .i64 0, .int .i64 0] 53)) (.cells #[.int .i64 0, .int .i64 1] 53)
  obtain ⟨W0, hW0⟩ : ∃ W0, W0 = ((w.alloc (.cells #[.int .i64 h, .int .i64 o] 27)).alloc (.cells #[.int .i64 0, .int .i64 0] 53)).alloc (.cells #[.int .i64 0, .int .i64 1] 53) := ⟨_, rfl⟩
  have sz0 : w.heap.size + 1 + 1 < W0.heap.size := by rw [hW0]; simp
  rw [← hW0] at bxc fb5 fb7 bl0
  have FB5 := Lib.hid fb5
  have FB7 := Lib.hid fb7
  have HW0 := Lib.hid hW0
  have HA := Lib.hid ha
  have G := Lib.hid g
  have hnb : Hid ((rivT a).foldl (bstS h o a) bst0 = bst h o a) := rfl
  have hin := Lib.hid (fun (l : List ByteArray) (hl : ∀ p ∈ l, p ∈ rivT a) => foldS_in g ha l bst0 hl bst0_in)
  have htw := Lib.hid (fun (p : ByteArray) (hp : p ∈ rivT a) => rac_two ha (riv_mem hp).1 (riv_mem hp).2)
  have hrl : (rivT a).length ≤ 4096 := by
    have h1 : (rivT a).length ≤ (allTx a.size).length := List.length_filter_le _ _
    have h2 := pow12 a.size (by omega)
    rw [allTx_len] at h1
    omega
  clear a3 ha g hW0 fb5 fb7
  go_enter Tryd.func60, Tryd.ntmps60
  go_wp2_with fail
  rw [← HW0.out]
  refine (rivals_any a _ (by omega)).mono ?_
  rintro e w1 ⟨v, rfl, r1, b1⟩
  have R1 := Lib.hid r1
  have hmem := Lib.hid (fun (p : ByteArray) (hp : p ∈ rivT a) => hp)
  have hform := r1.form
  generalize rivT a = xs at *
  have bl1 := bel_trans bl0 b1
  have bx1 := Lib.hid (bxc.out.keep b1)
  have f51 := Lib.hid (FB5.out.keep b1)
  have f71 := Lib.hid (FB7.out.keep b1)
  clear b1 bl0 bxc FB5 FB7 r1
  generalize hN : xs.length = N at *
  have HN := Lib.hid hN
  clear hN
  have hv : ∃ A cap, v = .slice A N cap ∧ (0 < N → ∃ gg, A = some ⟨gg, 0, none⟩ ∧ W0.heap.size ≤ gg) := by
    rcases hform with ⟨hx, A, cap, rfl⟩ | ⟨hx, gg, cap, rfl, hbg, _⟩
    · have : N = 0 := by rw [← HN.out, hx]; rfl
      subst this
      exact ⟨A, cap, rfl, fun h => by omega⟩
    · exact ⟨_, cap, rfl, fun _ => ⟨gg, rfl, hbg⟩⟩
  obtain ⟨A, cap, rfl, hA⟩ := hv
  have HAA := Lib.hid hA
  clear hform hA
  go_wp2_with fail
  go_loopw [6, 15] (fun b i wr => ∃ k : Nat, k ≤ N ∧ i = .int .i64 k ∧ b = .string ((xs.take k).foldl (bstS h o a) bst0).1 ∧ Hid (FBox wr (w.heap.size + 1 + 1) (.int .i64 ((xs.take k).foldl (bstS h o a) bst0).2.1) (.int .i64 ((xs.take k).foldl (bstS h o a) bst0).2.2)) ∧ Hid (FBox wr (w.heap.size + 1) (.int .i64 0) (.int .i64 0)) ∧ Hid (Box2 wr w.heap.size (.int .i64 h) (.int .i64 o)) ∧ Hid (SRow wr W0.heap.size (.slice A N cap) xs) ∧ Below w.heap.size w wr) (fun _ i _ => N - (intOf i).toNat)
  case atStart => exact ⟨0, by omega, rfl, rfl, f71.out, f51.out, bx1.out, R1.out, bl1⟩
  case round =>
    obtain ⟨k, hk, rfl, rfl, h7, h5, hc, hR, hb⟩ := hrel
    obtain ⟨wa, rfl⟩ : ∃ wa : World, wa = wr := ⟨_, rfl⟩
    have hsa := hb.size
    by_cases hlt : k < N
    · obtain ⟨gg, rfl, hgg⟩ := HAA.out (by omega)
      have hrow := hR.out
      rw [← HN.out] at hrow
      have c0 := hrow.at_ k (by rw [HN.out]; exact hlt)
      have hft := Lib.hid (fold_take (bstS h o a) xs noS k (by rw [HN.out]; exact hlt) bst0)
      have hpm := Lib.hid (hmem.out _ (getD_mem (k := k) (by rw [HN.out]; exact hlt)))
      obtain ⟨i1, i2, i3, i4, i5⟩ := hin.out (xs.take k) (fun p hp => hmem.out p (List.mem_of_mem_take hp))
      obtain ⟨d0, d1, d2⟩ := hc.out
      clear hrow
      generalize (xs.take k).foldl (bstS h o a) bst0 = st at *
      obtain ⟨bb, f, s⟩ := st
      dsimp only at i1 i2 i3 i4 i5 h7 ⊢
      generalize xs.getD k noS = p at *
      have t := htw.out p hpm.out
      obtain ⟨f1, f2, o1, o2, _⟩ := od_all G.out t
      have HC := Lib.hid (fun W => oddsOf_any h o p a W G.out t)
      have hS : Hid (bstS h o a (bb, f, s) p = if f * odO h o p a < odF h o p a * s then (p, odF h o p a, odO h o p a) else (bb, f, s)) := rfl
      clear t
      generalize odF h o p a = F at *
      generalize odO h o p a = O at *
      go_wp2_with fail
      refine (HC.out _).mono ?_
      rintro e w2 ⟨rfl, hb2⟩
      have fb10 := Lib.hid (Box2.new w2 (.int .i64 F) (.int .i64 O) 53)
      have b23 := hb2.trans ((bel_alloc (Below.refl _ w2) (.cells #[.int .i64 F, .int .i64 O] 53)).mono hb2.size)
      have h73 := Lib.hid (h7.out.keep b23)
      obtain ⟨q0, q1, q2⟩ := h73.out.1
      obtain ⟨z0, z1, z2⟩ := fb10.out
      obtain ⟨W3, hW3⟩ : ∃ W3, W3 = w2.alloc (.cells #[.int .i64 F, .int .i64 O] 53) := ⟨_, rfl⟩
      have HW3 := Lib.hid hW3
      rw [← hW3] at b23 h73 fb10
      clear hW3
      go_wp2_with fail
      rw [← HW3.out]
      refine (areAbove_any f s F O _ ⟨i1, i2⟩ ⟨i3, i4⟩ (by omega) (by omega)).mono ?_
      rintro e w4 ⟨rfl, hb4⟩
      have b24 := b23.trans (hb4.mono b23.size)
      have h74 := Lib.hid (h7.out.keep b24)
      have h54 := Lib.hid (h5.out.keep b24)
      have hc4 := Lib.hid (hc.out.keep b24)
      have hR4 := Lib.hid (hR.out.below b24)
      have hb4w := bel_trans hb b24
      have z4 := fb10.out.keep hb4
      clear q0 q1 q2 z0 z1 z2 d0 d1 d2 c0
      obtain ⟨y0, y1, y2⟩ := z4
      obtain ⟨⟨q0, q1, q2⟩, q3, q4⟩ := h74.out
      have hs5 := Lib.hid (h54.out.set2_other (l := w.heap.size + 1 + 1) (by omega) (.int .i64 F) (.int .i64 O))
      have hs7 := Lib.hid (h74.out.set2 (.int .i64 F) (.int .i64 O))
      have hsc := Lib.hid (hc4.out.set2_other (l := w.heap.size + 1 + 1) (u := .int .i64 F) (v := .int .i64 O) (by omega))
      have hsR : Hid (SRow ((w4.setCell ⟨w.heap.size + 1 + 1, 0, none⟩ (.int .i64 F)).setCell ⟨w.heap.size + 1 + 1, 1, none⟩ (.int .i64 O)) W0.heap.size (.slice (some ⟨gg, 0, none⟩) N cap) xs) := Lib.hid (ownsRow_setCell_below (ownsRow_setCell_below hR4.out (by show _ < _; omega) _) (by show _ < _; omega) _)
      have hsb : Below w.heap.size w ((w4.setCell ⟨w.heap.size + 1 + 1, 0, none⟩ (.int .i64 F)).setCell ⟨w.heap.size + 1 + 1, 1, none⟩ (.int .i64 O)) := (hb4w.setCell (by show w.heap.size ≤ w.heap.size + 1 + 1; omega) _).setCell (by show w.heap.size ≤ w.heap.size + 1 + 1; omega) _
      by_cases hc2 : f * O < F * s
      · have hS2 := Lib.hid (hS.out.trans (if_pos hc2))
        rw [decide_eq_true hc2]
        go_wp2_with fail
        go_region
        all_goals (go_wp2_with fail)
        all_goals exact ⟨⟨k + 1, by omega, by go_num, by rw [hft.out, hS2.out], by rw [hft.out, hS2.out]; exact hs7, hs5, hsc, hsR, hsb.drew⟩, by simp [intOf]; omega⟩
      · have hS2 := Lib.hid (hS.out.trans (if_neg hc2))
        rw [decide_eq_false hc2]
        go_wp2_with fail
        exact ⟨⟨k + 1, by omega, by go_num, by rw [hft.out, hS2.out], by rw [hft.out, hS2.out]; exact h74, h54, hc4, hR4, hb4w⟩, by simp [intOf]; omega⟩
    · obtain rfl : k = N := by omega
      rw [List.take_of_length_le (by rw [HN.out]; exact Nat.le_refl _), hnb.out] at h7 ⊢
      obtain ⟨⟨q0, q1, q2⟩, q3, q4⟩ := h7.out
      obtain ⟨⟨y0, y1, y2⟩, y3, y4⟩ := h5.out
      have hsb : Below w.heap.size w ((wa.setCell ⟨w.heap.size + 1, 0, none⟩ (.int .i64 (bst h o a).2.1)).setCell ⟨w.heap.size + 1, 1, none⟩ (.int .i64 (bst h o a).2.2)) := (hb.setCell (by show w.heap.size ≤ w.heap.size + 1; omega) _).setCell (by show w.heap.size ≤ w.heap.size + 1; omega) _
      go_wp2_with fail
      go_region
      all_goals (go_wp2_with fail)
      all_goals refine bodyPost_ret (v := .tuple #[.string (bst h o a).1, odV (bst h o a).2.1 (bst h o a).2.2]) (by simp [results, Tryd.results60, go_sem, q0, q1, q2, y0, y1, y2]) rfl ⟨rfl, hsb.drew⟩
end Go.Proofs.YtjckmnbpfmcadabDoor
