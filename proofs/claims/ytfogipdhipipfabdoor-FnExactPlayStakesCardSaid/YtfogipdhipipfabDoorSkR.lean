/- BoldPath: the contracts of the program and of its model, and the walk. -/
import Derived.Test.YtfogipdhipipfabDoorSkU
import Derived.RegionTactic
import Derived.Deep.RegionWith
namespace Go.Proofs.YtfogipdhipipfabDoor
set_option linter.unusedSimpArgs false
open Go.ChangeShapes Go.WideShapes Go.ChangeAt Go.RowKit
set_option linter.unusedVariables false

def bpG (p g : Int) (t : ByteArray) : Bool := skG p g && tossG t
def ansBP (p g : Int) (t : ByteArray) : List Int := if bpG p g t then boL t p g t.size else []
theorem ansBP_len (p g : Int) (t : ByteArray) : (ansBP p g t).length ≤ 1000 := by
  unfold ansBP
  cases h : bpG p g t
  · simp
  · unfold bpG tossG at h
    simp at h
    rw [if_pos rfl, boL_len]
    omega
theorem bel_setU {w W : World} {k : Nat} (h : Below w.heap.size w W) (hk : w.heap.size ≤ k) (a b : Value) : Below w.heap.size w ((W.setCell ⟨k, 0, none⟩ a).setCell ⟨k, 1, none⟩ b) :=
  (h.setCell (p := ⟨k, 0, none⟩) hk a).setCell (p := ⟨k, 1, none⟩) hk b
theorem BoxW.keepU {w w1 : World} {k b : Nat} {x y : Value} (h : BoxW w k x y) (hk : k < b) (hb : Below b w w1) : BoxW w1 k x y :=
  ⟨⟨(hb.cell (p := ⟨k, 0, none⟩) hk).trans h.1.1, (hb.cell (p := ⟨k, 1, none⟩) hk).trans h.1.2.1, Nat.lt_of_lt_of_le h.1.2.2 hb.size⟩, (hb.frozen (p := ⟨k, 0, none⟩) hk).trans h.2.1, (hb.frozen (p := ⟨k, 1, none⟩) hk).trans h.2.2⟩
set_option maxRecDepth 100000 in
set_option maxHeartbeats 6400000 in
theorem implBP_any (p g : Int) (t : ByteArray) (w : World) (hs : t.size ≤ maxLen) :
    Calls Tryd.prog 11 #[sk p g, .string t] w (RowAns (ansBP p g t) (bpG p g t) w) := by
  have HN := Lib.hid (BoxW.new w (.int .i64 p) (.int .i64 g) 27)
  have BL := Lib.hid (bel_alloc (Below.refl _ w) (.cells #[.int .i64 p, .int .i64 g] 27))
  cases h1 : skG p g
  · rw [show ansBP p g t = [] from by unfold ansBP bpG; rw [h1]; rfl, show bpG p g t = false from by unfold bpG; rw [h1]; rfl]
    go_enter Tryd.func11, Tryd.ntmps11
    go_wp2_with fail
    refine (implAreStakes_any _ _ _).mono ?_
    rintro e w1 ⟨rfl, hb1⟩
    rw [h1]
    go_wp2_with fail
    go_ret2
    exact ⟨_, rfl, IRow.nil _ _, bel_trans BL.out hb1⟩
  · cases h2 : tossG t
    · rw [show ansBP p g t = [] from by unfold ansBP bpG; rw [h1, h2]; rfl, show bpG p g t = false from by unfold bpG; rw [h1, h2]; rfl]
      go_enter Tryd.func11, Tryd.ntmps11
      go_wp2_with fail
      refine (implAreStakes_any _ _ _).mono ?_
      rintro e w1 ⟨rfl, hb1⟩
      rw [h1]
      go_wp2_with fail
      refine (implTosses_any t _ hs).mono ?_
      rintro e w2 ⟨rfl, hb2⟩
      rw [h2]
      go_wp2_with fail
      go_ret2
      exact ⟨_, rfl, IRow.nil _ _, bel_trans (bel_trans BL.out hb1) hb2⟩
    · rw [show ansBP p g t = boL t p g t.size from by unfold ansBP bpG; rw [h1, h2]; rfl, show bpG p g t = true from by unfold bpG; rw [h1, h2]; rfl]
      have h40 : t.size ≤ 40 ∧ allT t = true := by unfold tossG at h2; simpa using h2
      obtain ⟨h40, hall⟩ := h40
      have hgd := Lib.hid (boP_good t h1)
      have h00 := Lib.hid (show boL t p g 0 = [p] from rfl)
      go_enter Tryd.func11, Tryd.ntmps11
      go_wp2_with fail
      refine (implAreStakes_any _ _ _).mono ?_
      rintro e w1 ⟨rfl, hb1⟩
      rw [h1]
      have HN1 := Lib.hid (HN.out.keep hb1)
      have BL1 := Lib.hid (bel_trans BL.out hb1)
      clear hb1
      go_wp2_with fail
      refine (implTosses_any t _ hs).mono ?_
      rintro e w2 ⟨rfl, hb2⟩
      rw [h2]
      have HN2 := Lib.hid (HN1.out.keep hb2)
      have BL2 := Lib.hid (bel_trans BL1.out hb2)
      clear hb2
      obtain ⟨⟨c0, c1, c2⟩, c3, c4⟩ := HN2.out
      have R0 := Lib.hid (IRow.one w2 p)
      have hsz := BL2.out.size
      have bx3 := Lib.hid (HN2.out.keep (bel_alloc (Below.refl _ w2) (.cells #[.int .i64 p] 3)))
      have bl3 := Lib.hid (bel_alloc BL2.out (.cells #[.int .i64 p] 3))
      go_wp2_with fail
      clear c0 c1 c2 c3 c4
      go_loopw [6, 21] (fun v x wr => ∃ k : Nat, k ≤ t.size ∧ x = .int .i64 k ∧ Hid (IRow wr w2.heap.size v (boL t p g k)) ∧ Hid (BoxW wr w.heap.size (.int .i64 (boP t p g k)) (.int .i64 g)) ∧ Hid (Below w.heap.size w wr) ∧ Hid (w2.heap.size ≤ wr.heap.size)) (fun _ x _ => t.size - (intOf x).toNat)
      case atStart => exact ⟨0, by omega, rfl, by rw [h00.out]; exact R0, bx3, bl3, Lib.hid (by rw [← size1]; omega)⟩
      case round =>
        obtain ⟨k, hk, rfl, hI, hB, hb, hW⟩ := hrel
        obtain ⟨wa, rfl⟩ : ∃ wa : World, wa = wr := ⟨_, rfl⟩
        have hsa := (World.ownsRow.lt hI.out)
        have hbw : w.heap.size < w2.heap.size := HN2.out.1.2.2
        by_cases hlt : k < t.size
        · have hki : (k : Int) < (t.size : Int) := by omega
          have hG := hgd.out k
          obtain ⟨q1, q2, q3, q4⟩ := sk_in hG
          obtain ⟨z1, z2, z3, z4⟩ := bd_in hG
          have hc2 := sgnT_two t k hlt hall
          have hsuc := Lib.hid (boL_succ t p g k)
          have hstep : Hid (boP t p g (k + 1) = mvP (sgnT t k) (boP t p g k) (bd (boP t p g k) g)) := rfl
          have hlen := Lib.hid (boL_len t p g k)
          have hwk : IntKind.i64.wrap ((k : Int) + 1) = (k : Int) + 1 := IntWalk.i64_in _ (by omega)
          have hbe := Lib.hid (fun W => behind_any (sgnT t k) (boP t p g k) g (bd (boP t p g k) g) W hc2 q3 (by omega) z1 z2)
          rw [← extT t k hlt, ← hstep.out] at hbe
          have hbo := Lib.hid (fun W => bold_any (boP t p g k) g W hG)
          have hc5 : (0 : Int) ≤ (k : Int) + 1 := by omega
          have hc6 : (k : Int) ≤ (k : Int) + 1 := by omega
          have hc7 : (k : Int) + 1 ≤ (t.size : Int) := by omega
          clear hstep
          obtain ⟨⟨c0, c1, c2⟩, c3, c4⟩ := hB.out
          obtain ⟨p2, hp2⟩ : ∃ p2, p2 = boP t p g (k + 1) := ⟨_, rfl⟩
          rw [← hp2] at hbe hsuc
          have HP := Lib.hid hp2
          clear hp2
          generalize bd (boP t p g k) g = b1 at *
          generalize boP t p g k = p1 at *
          clear q1 q2 q3 q4 z1 z2 z3 z4 hG hc2
          go_wp2_with fail
          go_region_with (first | (go_at_call 40; refine (hbo.out _).mono ?_; rintro e w5 ⟨rfl, hb5⟩; have HB5 := Lib.hid (bel_undrawU hb5); obtain ⟨⟨d0, d1, d2⟩, d3, d4⟩ := hB.out.keep HB5.out) | (go_at_call 39; refine (hbe.out _).mono ?_; rintro e w6 ⟨rfl, hb6⟩; obtain ⟨⟨f0, f1, f2⟩, f3, f4⟩ := (hB.out.keep HB5.out).keep hb6))
          all_goals
            have HB6 := Lib.hid (bel_trans HB5.out hb6)
            have hset := Lib.hid ((hB.out.keep HB6.out).set (.int .i64 p2) (.int .i64 g))
            have hgs := Lib.hid (grown_set (w := w6) (k := w.heap.size) (.int .i64 p2) (.int .i64 g))
            have HI6 := Lib.hid ((hI.out.below HB6.out).setOther hgs.out hbw)
            have HBl := Lib.hid (bel_setU (bel_trans hb.out HB6.out) (Nat.le_refl _) (.int .i64 p2) (.int .i64 g))
            have hs7 : w2.heap.size ≤ ((w6.setCell ⟨w.heap.size, 0, none⟩ (.int .i64 p2)).setCell ⟨w.heap.size, 1, none⟩ (.int .i64 g)).heap.size := by simp only [World.setCell, Array.size_modify]; exact Nat.le_trans hW.out HB6.out.size
            clear hb5 hb6 d0 d1 d2 d3 d4 f0 f1 f2 f3 f4 c0 c1 c2 c3 c4
            generalize (w6.setCell ⟨w.heap.size, 0, none⟩ (.int .i64 p2)).setCell ⟨w.heap.size, 1, none⟩ (.int .i64 g) = w7 at *
            obtain ⟨⟨n0, n1, n2⟩, n3, n4⟩ := hset.out
            go_wp2_with (at_builtin; refine wpList_push1 rfl (.tmp 33) (.tmp 36) rfl _ _ _ HI6.out (by rw [hlen.out]; omega) hs7 p2 rfl rfl ?_)
            intro v' w8 hI8 hb8
            have HI8 := Lib.hid hI8
            rw [hsuc.out] at HI8
            have bx8 : Hid (BoxW w8 w.heap.size (.int .i64 p2) (.int .i64 g)) := Lib.hid (hset.out.keepU hbw hb8)
            have bl8 : Hid (Below w.heap.size w w8) := Lib.hid (HBl.out.trans (hb8.mono (by omega)))
            have hW8 : Hid (w2.heap.size ≤ w8.heap.size) := Lib.hid (Nat.le_trans hs7 hb8.size)
            clear hI8 hb8
            go_wp2_with fail
            exact ⟨⟨k + 1, by omega, by go_num, HI8, by rw [← HP.out]; exact bx8, bl8, hW8⟩, by simp [intOf]; omega⟩
        · have hki : ¬ (k : Int) < (t.size : Int) := by omega
          have HIf : Hid (IRow wa w.heap.size _ (boL t p g t.size)) := Lib.hid (by rw [show t.size = k from by omega]; exact hI.out.mono (by omega))
          clear hI hk hlt hsa
          go_wp2_with fail
          go_ret2
          exact ⟨_, rfl, HIf.out, hb.out⟩

set_option maxRecDepth 100000 in
set_option maxHeartbeats 6400000 in
theorem specBP_any (p g : Int) (t : ByteArray) (w : World) (hs : t.size ≤ maxLen) :
    Calls Tryd.prog 9 #[sk p g, .string t] w (RowAns (ansBP p g t) (bpG p g t) w) := by
  have HN := Lib.hid (BoxW.new w (.int .i64 p) (.int .i64 g) 27)
  have BL := Lib.hid (bel_alloc (Below.refl _ w) (.cells #[.int .i64 p, .int .i64 g] 27))
  cases h1 : skG p g
  · rw [show ansBP p g t = [] from by unfold ansBP bpG; rw [h1]; rfl, show bpG p g t = false from by unfold bpG; rw [h1]; rfl]
    go_enter Tryd.func9, Tryd.ntmps9
    go_wp2_with fail
    refine (skGood_any _ _ _).mono ?_
    rintro e w1 ⟨rfl, hb1⟩
    rw [h1]
    go_wp2_with fail
    go_ret2
    exact ⟨_, rfl, IRow.nil _ _, bel_trans BL.out hb1⟩
  · cases h2 : tossG t
    · rw [show ansBP p g t = [] from by unfold ansBP bpG; rw [h1, h2]; rfl, show bpG p g t = false from by unfold bpG; rw [h1, h2]; rfl]
      go_enter Tryd.func9, Tryd.ntmps9
      go_wp2_with fail
      refine (skGood_any _ _ _).mono ?_
      rintro e w1 ⟨rfl, hb1⟩
      rw [h1]
      go_wp2_with fail
      refine (ptTosses_any t _ hs).mono ?_
      rintro e w2 ⟨rfl, rfl⟩
      rw [h2]
      go_wp2_with fail
      go_ret2
      exact ⟨_, rfl, IRow.nil _ _, bel_trans BL.out hb1⟩
    · rw [show ansBP p g t = boL t p g t.size from by unfold ansBP bpG; rw [h1, h2]; rfl, show bpG p g t = true from by unfold bpG; rw [h1, h2]; rfl]
      have h40 : t.size ≤ 40 ∧ allT t = true := by unfold tossG at h2; simpa using h2
      obtain ⟨h40, hall⟩ := h40
      have hgd := Lib.hid (boP_good t h1)
      have h00 := Lib.hid (show boL t p g 0 = [p] from rfl)
      go_enter Tryd.func9, Tryd.ntmps9
      go_wp2_with fail
      refine (skGood_any _ _ _).mono ?_
      rintro e w1 ⟨rfl, hb1⟩
      rw [h1]
      have HN1 := Lib.hid (HN.out.keep hb1)
      have BL1 := Lib.hid (bel_trans BL.out hb1)
      clear hb1
      go_wp2_with fail
      refine (ptTosses_any t _ hs).mono ?_
      rintro e w2 ⟨rfl, rfl⟩
      rw [h2]
      obtain ⟨⟨c0, c1, c2⟩, c3, c4⟩ := HN1.out
      have R0 := Lib.hid (IRow.one w1 p)
      have hsz := BL1.out.size
      have bx3 := Lib.hid (HN1.out.keep (bel_alloc (Below.refl _ w1) (.cells #[.int .i64 p] 3)))
      have bl3 := Lib.hid (bel_alloc BL1.out (.cells #[.int .i64 p] 3))
      go_wp2_with fail
      clear c0 c1 c2 c3 c4
      go_loopw [6, 7] (fun v x wr => ∃ k : Nat, k ≤ t.size ∧ x = .int .i64 k ∧ Hid (IRow wr w1.heap.size v (boL t p g k)) ∧ Hid (BoxW wr w.heap.size (.int .i64 (boP t p g k)) (.int .i64 g)) ∧ Hid (Below w.heap.size w wr) ∧ Hid (w1.heap.size ≤ wr.heap.size)) (fun _ x _ => t.size - (intOf x).toNat)
      case atStart => exact ⟨0, by omega, rfl, by rw [h00.out]; exact R0, bx3, bl3, Lib.hid (by rw [← size1]; omega)⟩
      case round =>
        obtain ⟨k, hk, rfl, hI, hB, hb, hW⟩ := hrel
        obtain ⟨wa, rfl⟩ : ∃ wa : World, wa = wr := ⟨_, rfl⟩
        have hsa := (World.ownsRow.lt hI.out)
        have hbw : w.heap.size < w1.heap.size := HN1.out.1.2.2
        by_cases hlt : k < t.size
        · have hki : (k : Int) < (t.size : Int) := by omega
          have hG := hgd.out k
          obtain ⟨q1, q2, q3, q4⟩ := sk_in hG
          obtain ⟨z1, z2, z3, z4⟩ := bd_in hG
          have hc2 := sgnT_two t k hlt hall
          have hsuc := Lib.hid (boL_succ t p g k)
          have hstep : Hid (boP t p g (k + 1) = mvP (sgnT t k) (boP t p g k) (bd (boP t p g k) g)) := rfl
          have hlen := Lib.hid (boL_len t p g k)
          have hwk : IntKind.i64.wrap ((k : Int) + 1) = (k : Int) + 1 := IntWalk.i64_in _ (by omega)
          have hbe := Lib.hid (fun W => skToss_any (sgnT t k) (boP t p g k) (bd (boP t p g k) g) W hc2 q3 (by omega) z1 z2)
          rw [← hstep.out] at hbe
          have htk := sgnT_get t k hlt
          rw [← htk] at hbe
          have hbo := Lib.hid (fun W => skBold_any (boP t p g k) g W hG)
          clear hstep htk
          obtain ⟨⟨c0, c1, c2⟩, c3, c4⟩ := hB.out
          obtain ⟨p2, hp2⟩ : ∃ p2, p2 = boP t p g (k + 1) := ⟨_, rfl⟩
          rw [← hp2] at hbe hsuc
          have HP := Lib.hid hp2
          clear hp2
          generalize bd (boP t p g k) g = b1 at *
          generalize boP t p g k = p1 at *
          clear q1 q2 q3 q4 z1 z2 z3 z4 hG hc2
          go_wp2_with fail
          go_region_with (first | (go_at_call 36; refine (hbo.out _).mono ?_; rintro e w5 ⟨rfl, hb5⟩; have HB5 := Lib.hid (bel_undrawU hb5); obtain ⟨⟨d0, d1, d2⟩, d3, d4⟩ := hB.out.keep HB5.out) | (go_at_call 35; refine (hbe.out _).mono ?_; rintro e w6 ⟨rfl, rfl⟩))
          all_goals
            have hset := Lib.hid ((hB.out.keep HB5.out).set0 (.int .i64 p2)).1
            have hgs := Lib.hid ((hB.out.keep HB5.out).set0 (.int .i64 p2)).2
            have HI6 := Lib.hid ((hI.out.below HB5.out).setOther hgs.out hbw)
            have HBl : Hid (Below w.heap.size w (w5.setCell ⟨w.heap.size, 0, none⟩ (.int .i64 p2))) := Lib.hid ((bel_trans hb.out HB5.out).setCell (Nat.le_refl _) _)
            have hs7 : w1.heap.size ≤ (w5.setCell ⟨w.heap.size, 0, none⟩ (.int .i64 p2)).heap.size := by simp only [World.setCell, Array.size_modify]; exact Nat.le_trans hW.out HB5.out.size
            clear hb5 d0 d1 d2 d3 d4 c0 c1 c2 c3 c4
            generalize w5.setCell ⟨w.heap.size, 0, none⟩ (.int .i64 p2) = w7 at *
            obtain ⟨⟨n0, n1, n2⟩, n3, n4⟩ := hset.out
            go_wp2_with (at_builtin; refine wpList_push1 rfl (.tmp 34) (.tmp 37) rfl _ _ _ HI6.out (by rw [hlen.out]; omega) hs7 p2 rfl rfl ?_)
            intro v' w8 hI8 hb8
            have HI8 := Lib.hid hI8
            rw [hsuc.out] at HI8
            have bx8 : Hid (BoxW w8 w.heap.size (.int .i64 p2) (.int .i64 g)) := Lib.hid (hset.out.keepU hbw hb8)
            have bl8 : Hid (Below w.heap.size w w8) := Lib.hid (HBl.out.trans (hb8.mono (by omega)))
            have hW8 : Hid (w1.heap.size ≤ w8.heap.size) := Lib.hid (Nat.le_trans hs7 hb8.size)
            clear hI8 hb8
            go_wp2_with fail
            exact ⟨⟨k + 1, by omega, by go_num, HI8, by rw [← HP.out]; exact bx8, bl8, hW8⟩, by simp [intOf]; omega⟩
        · have hki : ¬ (k : Int) < (t.size : Int) := by omega
          have HIf : Hid (IRow wa w.heap.size _ (boL t p g t.size)) := Lib.hid (by rw [show t.size = k from by omega]; exact hI.out.mono (by omega))
          clear hI hk hlt hsa
          go_wp2_with fail
          go_ret2
          exact ⟨_, rfl, HIf.out, hb.out⟩

set_option maxHeartbeats 3200000 in
theorem walkExactBoldPath (p g : Int) (t : ByteArray) (w : World) (za : (Lit.int .i64 p).wf = true) (zb : (Lit.int .i64 g).wf = true) (hs : t.size ≤ maxLen) :
    Calls Tryd.prog 3 #[sk p g, .string t] w fun e w' => e = .returned (.bool true) ∧ Below w.heap.size w w' := by
  clear za zb
  have bx0 := Lib.hid (Box2.new w (.int .i64 p) (.int .i64 g) 23)
  have bl0 := Lib.hid (bel_alloc (Below.refl _ w) (.cells #[.int .i64 p, .int .i64 g] 23))
  by_cases z : t.size ≤ 1048576
  · have hlen : (ansBP p g t).length ≤ 1000 := ansBP_len p g t
    generalize hxs : ansBP p g t = xs at *
    have Hxs := Lib.hid hxs
    clear hxs
    generalize hok : bpG p g t = ok at *
    have Hok := Lib.hid hok
    clear hok
    obtain ⟨c0, c1, c2⟩ := bx0.out
    go_enter Tryd.func3, Tryd.ntmps3
    go_wp2_with fail
    refine (toStakes_any _ _ _).mono ?_
    rintro e wA ⟨rfl, hbA⟩
    have bxA := Lib.hid (bx0.out.keep hbA)
    have blA := Lib.hid (bel_trans bl0.out hbA)
    clear hbA c0 c1 c2
    go_wp2_with fail
    refine (specBP_any p g t _ hs).mono ?_
    rw [Hxs.out, Hok.out]
    rintro e w1 ⟨v0, rfl, r0, hb1⟩
    have R0 := Lib.hid r0
    have bx1 := Lib.hid (bxA.out.keep hb1)
    have bl1 := bel_trans blA.out hb1
    have hz1 := hb1.size
    clear r0 hb1
    obtain ⟨c0, c1, c2⟩ := bx1.out
    go_wp2_with fail
    refine (toStakes_any _ _ _).mono ?_
    rintro e wB ⟨rfl, hbB⟩
    have bxB := Lib.hid (bx1.out.keep hbB)
    have blB := Lib.hid (bel_trans bl1 hbB)
    have R0a := Lib.hid (R0.out.below hbB)
    have hzB := hbB.size
    clear hbB c0 c1 c2
    go_wp2_with fail
    refine (implBP_any p g t _ hs).mono ?_
    rw [Hxs.out, Hok.out]
    rintro e w2 ⟨v1, rfl, r1, hb2⟩
    have R1 := Lib.hid r1
    have bx2 := Lib.hid (bxB.out.keep hb2)
    clear r1
    have R0b := Lib.hid (R0a.out.below hb2)
    have bl2 := bel_trans blB.out hb2
    go_wp2_with fail
    refine (eqInt_same xs v1 v0 _ _ _ R1.out R0b.out).mono ?_
    rintro e w3 ⟨rfl, n3, rfl⟩
    go_wp2_with fail
    refine (mark_any xs v1 _ 1 _ (R1.out.drewN n3) (by omega) (by omega)).mono ?_
    rintro e w4 ⟨rfl, r4, hg4⟩
    have R4 := Lib.hid r4
    clear r4
    have bl4 := bel_grown (bel_drewN bl2 n3) hg4 (R1.out.drewN n3) (by have := blB.out.size; omega)
    have R0c := Lib.hid ((R0b.out.drewN n3).kept_by hg4 (R1.out.drewN n3) (w0 := wB) (by omega) (R0a.out))
    have bx4 : Hid (Box2 w4 w.heap.size (.int .i64 p) (.int .i64 g)) := by
      have hb3 : Box2 (w2.drewN n3) w.heap.size (.int .i64 p) (.int .i64 g) := bx2.out
      refine Lib.hid ?_
      have e := hg4.block w.heap.size hb3.2.2 (fun e => by have := (World.ownsRow.lt R1.out _ e.symm).1; have := bxB.out.2.2; omega)
      exact ⟨(World.cell?_of_block (w := w2.drewN n3) (a := ⟨w.heap.size, 0, none⟩) e).trans hb3.1, (World.cell?_of_block (w := w2.drewN n3) (a := ⟨w.heap.size, 1, none⟩) e).trans hb3.2.1, Nat.lt_of_lt_of_le hb3.2.2 hg4.size⟩
    go_wp2_with fail
    refine (held_any xs v1 _ 1 _ R4.out (by omega) (by omega)).mono ?_
    rintro e w5 ⟨rfl, n5, rfl⟩
    have t1 : decide ((1 : Int) + (xs.length : Int) < 0) = false := by simp; omega
    obtain ⟨c0, c1, c2⟩ := bx4.out
    go_wp2_with fail
    refine (toStakes_any _ _ _).mono ?_
    rintro e wC ⟨rfl, hbC⟩
    have hbC2 := bel_undrewN hbC
    have R0e := Lib.hid (R0c.out.below hbC2)
    have R1e := Lib.hid (R4.out.below hbC2)
    have blC := bel_trans bl4 hbC2
    clear hbC c0 c1 c2
    go_wp2_with fail
    refine (implBP_any p g t _ hs).mono ?_
    rw [Hxs.out, Hok.out]
    rintro e w6 ⟨v2, rfl, r6, hb6⟩
    have R2 := Lib.hid r6
    clear r6
    have R0d := Lib.hid (R0e.out.below hb6)
    have R1d := Lib.hid (R1e.out.below hb6)
    have bl6 := bel_trans blC hb6
    go_wp2_with fail
    refine (eqInt_same xs v2 v0 _ _ _ R2.out R0d.out).mono ?_
    rintro e w7 ⟨rfl, n7, rfl⟩
    go_wp2_with fail
    refine (held_any xs v1 _ 1 _ (R1d.out.drewN n7) (by omega) (by omega)).mono ?_
    rintro e w8 ⟨rfl, n8, rfl⟩
    go_wp2_with fail
    go_ret
    refine ⟨rfl, ?_⟩
    repeat (first | assumption | with_reducible exact Below.refl _ _ | refine bel_alloc ?_ _ | refine bel_drewN ?_ _ | refine Below.drew ?_ | (refine Below.setCell ?_ (by simp) _) | (refine bel_trans ?_ (by assumption)))
  · go_enter Tryd.func3, Tryd.ntmps3
    go_wp2
    go_ret
    exact ⟨rfl, bl0.out⟩

end Go.Proofs.YtfogipdhipipfabDoor
