/- ChanceBy: the model where it says yes. -/
import Derived.Test.YtjckmnbpfmcadacDoorCbyP
import Derived.Shelf.RegionOpenPlain
import Derived.Deep.CutRange
namespace Go.Proofs.YtjckmnbpfmcadacDoor
set_option linter.unusedSimpArgs false
open Go.ChangeShapes Go.WideShapes Go.ChangeAt Go.RowKit
set_option linter.unusedVariables false


set_option maxRecDepth 100000 in
set_option maxHeartbeats 6400000 in
theorem specBy_yes (p : ByteArray) (h o : Int) (t : Nat) (w : World) (g : coinG h o = true) (hp : patG p = true) (hs : p.size ≤ maxLen) (ht : t ≤ 8) :
    Calls Tryd.prog 16 #[cn h o, .string p, .int .i64 t] w fun e w' => e = .returned (lowV (accB p h (o - h) o t) (o ^ t)) ∧ Below w.heap.size w w' := by
  have hmk : ∀ W : World, (Instr.makeSlice 48 (.int .i64 ((p.size : Int) + 1)) (.int .i64 ((p.size : Int) + 1))).run Tryd.prog W = .ok (.slice (some ⟨W.heap.size, 0, none⟩) (p.size + 1) (p.size + 1)) (W.alloc (.cells (Array.replicate (p.size + 1) (.int .i64 0)) 3)) := fun W => by
    have := mk_ints (p.size + 1) (by have := (pat_in hp).2.1; omega) W
    simpa using this
  obtain ⟨p1, p2, p3⟩ := pat_in hp
  obtain ⟨r1, r2, r3, r4⟩ := coin_in g
  have bx0 := Lib.hid (Box2.new w (.int .i64 h) (.int .i64 o) 29)
  have bl0 : Below w.heap.size w (w.alloc (.cells #[.int .i64 h, .int .i64 o] 29)) := bel_alloc (Below.refl _ _) _
  have hi : inB (t : Int) 0 8 = true := (inB_iff _ _ _).2 (by omega)
  have Hp3 := Lib.hid p3
  have G := Lib.hid g
  unfold lowV
  have hb0 : (coinG h o && patG p) = true := by rw [g, hp]; rfl
  clear p3 g hp
  go_enter Tryd.func16, Tryd.ntmps16
  go_wp2_with fail
  refine (ptBoth_any h o p _ hs).mono ?_
  rintro e w1 ⟨rfl, hb1⟩
  rw [hb0]
  have bx1 := Lib.hid (bx0.out.keep hb1)
  have bl1 := bel_trans bl0 hb1
  go_wp2_with fail
  refine (l1In_any _ _ _ _).mono ?_
  rintro e w2 ⟨rfl, rfl⟩
  rw [hi]
  have hm0 := IRow.made w1 (p.size + 1) (by omega)
  rw [← rowF_zero] at hm0
  obtain ⟨hs1, hs2⟩ := rowF_store hm0 0 1 (rowB p h (o - h) o 0) (by unfold rowB; rw [if_pos (by omega)]; rfl) (fun i hi2 hi3 => by
    unfold rowB
    split
    · show (if i = 0 then (1 : Int) else 0) = 0
      rw [if_neg hi3]
    · rfl)
  have heq : (w1.alloc (.cells (Array.replicate (p.size + 1) (.int .i64 0)) 3)).setCell ⟨w1.heap.size, 0, none⟩ (.int .i64 1) = w1.alloc (.cells ((Array.replicate (p.size + 1) (.int .i64 0)).setIfInBounds 0 (.int .i64 1)) 3) := by simp [go_sem]
  rw [heq] at hs1
  have Hs1 := Lib.hid hs1
  have Hbl := Lib.hid (bel_alloc (Below.refl _ w1) (.cells ((Array.replicate (p.size + 1) (.int .i64 0)).setIfInBounds 0 (.int .i64 1)) 3))
  have hp0 : (0 : Int) < (p.size : Int) + 1 := by omega
  have hgt0 := bx1.out.2.2
  have Hgt := Lib.hid hgt0
  have Bl1 := Lib.hid bl1
  clear hm0 hs1 hs2 heq hb0 hi hgt0 bl1
  go_wp2_with fail
  generalize (Array.replicate (p.size + 1) (Value.int .i64 0)).setIfInBounds 0 (.int .i64 1) = A0 at *
  go_loopw [2, 9, 10] (fun x v y wr => ∃ r : Nat, r ≤ t ∧ x = .int .i64 r ∧ y = .int .i64 (o ^ (t - r)) ∧ Hid (IRow wr w1.heap.size v (rowF p.size (rowB p h (o - h) o (t - r)))) ∧ Below w1.heap.size w1 wr) (fun x _ _ _ => (intOf x).toNat)
  case atStart => exact ⟨t, Nat.le_refl _, rfl, by rw [Nat.sub_self, Int.pow_zero], by rw [Nat.sub_self]; exact Hs1, Hbl.out⟩
  case round =>
    obtain ⟨r, hr, rfl, rfl, hI, hb⟩ := hrel
    obtain ⟨wa, rfl⟩ : ∃ wa : World, wa = wr := ⟨_, rfl⟩
    have bxa := Lib.hid (bx1.out.keep hb)
    cases r with
    | zero =>
      rcases hI.out.form with ⟨hx, _⟩ | ⟨hx, gv, cap, rfl, hbg, hgl, hlc, hcm⟩
      · have := rowF_len p.size (rowB p h (o - h) o (t - 0))
        rw [hx] at this; simp at this
      · rw [rowF_len] at hlc ⊢
        unfold maxLen at hcm
        have hI2 := hI.out
        rw [rowF_len, Nat.sub_zero] at hI2
        obtain ⟨en, fn⟩ := rowF_cell hI2 p.size (Nat.le_refl _)
        have eb : rowB p h (o - h) o t p.size = accB p h (o - h) o t := by unfold rowB; rw [if_neg (Nat.lt_irrefl _)]
        rw [eb] at en
        rw [Nat.sub_zero]
        obtain ⟨z0, z1⟩ := pow_le8 o (by omega) r4 t ht
        have a0 := acc_nonneg p (a := h) (b := o - h) (o := o) (by omega) (by omega) (by omega) t
        have a1 : accB p h (o - h) o t ≤ o ^ t := by
          have hsum := acc_sum p p1 h (o - h) t
          rw [show h + (o - h) = o from by omega] at hsum
          have := sumJ_nonneg (g := cnt (gH p) (gT p) h (o - h) p.size t) p.size (fun q _ => cnt_nonneg (gH p) (gT p) (by omega) (by omega) p.size t q)
          generalize o ^ t = Z at *
          omega
        have hpl : (p.size : Int) < (p.size : Int) + 1 := by omega
        have hlow := fun W => cnLow_any (accB p h (o - h) o t) (o ^ t) W a0 z0 (by generalize o ^ t = Z at *; omega) (by generalize o ^ t = Z at *; omega)
        have Hlow := Lib.hid hlow
        have Hb2 := Lib.hid (bel_trans Bl1.out hb)
        clear hI2 hI hx hb hlow eb
        go_wp2_with fail
        refine (Hlow.out _).mono ?_
        rintro e w3 ⟨rfl, nq, rfl⟩
        go_wp2_with fail
        go_ret3
        exact ⟨rfl, bel_drewN Hb2.out _⟩
    | succ m =>
      rcases hI.out.form with ⟨hx, _⟩ | ⟨hx, gv, cap, rfl, hbg, hgl, hlc, hcm⟩
      · have := rowF_len p.size (rowB p h (o - h) o (t - (m + 1)))
        rw [hx] at this; simp at this
      · rw [rowF_len] at hlc ⊢
        unfold maxLen at hcm
        have hI2 := hI.out
        rw [rowF_len] at hI2
        obtain ⟨d0, d1, d2⟩ := bxa.out
        obtain ⟨en, fn⟩ := rowF_cell hI2 p.size (Nat.le_refl _)
        have hmx : Tryd.prog.follows Departure.mixedOrders = true := by kernel_rfl
        have hpl : (p.size : Int) < (p.size : Int) + 1 := by omega
        have hab : h + (o - h) = o := by omega
        obtain ⟨T, hT⟩ : ∃ T, T = t - (m + 1) := ⟨_, rfl⟩
        rw [← hT] at hI2 ⊢
        have hT1 : t - m = T + 1 := by omega
        have HT1 := Lib.hid hT1
        obtain ⟨q0, q1⟩ := pow_le8 o (by omega) r4 (T + 1) (by omega)
        obtain ⟨z0, z1⟩ := pow_le8 o (by omega) r4 T (by omega)
        have hmi := fun (i : Bool) (j k : Nat) (hj : j < p.size) => midC_in p p1 (a := h) (b := o - h) (by omega) (by omega) T j hj i k
        rw [hab] at hmi
        have Hmi := Lib.hid hmi
        have hmade := IRow.made wa (p.size + 1) (by omega)
        rw [← rowF_zero] at hmade
        obtain ⟨em, fm⟩ := rowF_cell hmade p.size (Nat.le_refl _)
        have hba := bel_alloc (Below.refl _ wa) (.cells (Array.replicate (p.size + 1) (.int .i64 0)) 3)
        have hIn := hI2.below hba
        obtain ⟨en, fn⟩ := rowF_cell hIn p.size (Nat.le_refl _)
        have eb : rowB p h (o - h) o T p.size = accB p h (o - h) o T := by unfold rowB; rw [if_neg (Nat.lt_irrefl _)]
        rw [eb] at en
        have em0 : midC p h (o - h) o T 0 false p.size = accB p h (o - h) o T * o := by
          unfold midC stp
          simp [sumJ]
        have hm0 := hmi false 0 p.size (by omega)
        rw [em0] at hm0
        have hwr : IntKind.i64.wrap (accB p h (o - h) o T * o) = accB p h (o - h) o T * o := IntWalk.i64_in _ (by omega)
        obtain ⟨hs1, hs2⟩ := rowF_store hmade p.size (accB p h (o - h) o T * o) (midC p h (o - h) o T 0 false) em0 (fun i _ hi => by
          unfold midC stp
          simp [sumJ, hi])
        have heq : (wa.alloc (.cells (Array.replicate (p.size + 1) (.int .i64 0)) 3)).setCell ⟨wa.heap.size, p.size, none⟩ (.int .i64 (accB p h (o - h) o T * o)) = wa.alloc (.cells ((Array.replicate (p.size + 1) (.int .i64 0)).setIfInBounds p.size (.int .i64 (accB p h (o - h) o T * o))) 3) := by simp [go_sem]
        have hbs : Below wa.heap.size wa ((wa.alloc (.cells (Array.replicate (p.size + 1) (.int .i64 0)) 3)).setCell ⟨wa.heap.size, p.size, none⟩ (.int .i64 (accB p h (o - h) o T * o))) := hba.setCell (Nat.le_refl _) _
        rw [heq] at hs1 hbs
        have Hs1 := Lib.hid hs1
        have Hbs := Lib.hid hbs
        clear hbs heq
        obtain ⟨e0, e1, e2⟩ := bxa.out.keep hba
        have HI2 := Lib.hid hI2
        have Hb := Lib.hid hb
        have HT := Lib.hid hT
        clear hI2 hI hx hb hmade hba hIn hs1 hs2 hmi hm0 hT hT1 em0 eb hab
        generalize accB p h (o - h) o T = AC at *
        go_wp2_with fail
        go_region_o
        all_goals
          go_wp2_with fail
          generalize (Array.replicate (p.size + 1) (Value.int .i64 0)).setIfInBounds p.size (.int .i64 (AC * o)) = A1 at *
          clear em fm en fn e0 e1 e2
          go_loopw [56] (fun i wr => ∃ j : Nat, j ≤ p.size ∧ i = .int .i64 j ∧ Hid (IRow wr wa.heap.size (.slice (some ⟨wa.heap.size, 0, none⟩) (p.size + 1) (p.size + 1)) (rowF p.size (midC p h (o - h) o T j false))) ∧ Below wa.heap.size wa wr) (fun i _ => p.size - (intOf i).toNat)
          case atStart => exact ⟨0, by omega, rfl, Hs1.out, Hbs.out.drew⟩
          case round =>
            obtain ⟨j, hj, rfl, hrow, hbi⟩ := hrel
            obtain ⟨wd, rfl⟩ : ∃ wd : World, wd = wr := ⟨_, rfl⟩
            have hsz := hbi.size
            have hglt : wa.heap.size < wd.heap.size := (World.ownsRow.lt hrow.out wa.heap.size rfl).2
            have Hglt := Lib.hid hglt
            by_cases hlt : j < p.size
            · obtain ⟨ec, fc⟩ := rowF_cell (HI2.out.below hbi) j (by omega)
              have er : rowB p h (o - h) o T j = cnt (gH p) (gT p) h (o - h) p.size T j := by unfold rowB; rw [if_pos hlt]
              rw [er] at ec
              have hbxc := Lib.hid (bxa.out.keep hbi)
              obtain ⟨d0, d1, d2⟩ := hbxc.out
              have hjl : (j : Int) < (p.size : Int) := by omega
              have hmn : ∀ k, midC p h (o - h) o T (j + 1) false k ≤ o ^ (T + 1) := fun k => (Hmi.out true j k hlt).2.2
              have Hmn := Lib.hid hmn
              clear er hglt fc hmn
              go_wp2_with fail
              go_cut [12] from 61 to 72 (fun x wx => x = .int .i64 j ∧ Hid (IRow wx wa.heap.size (.slice (some ⟨wa.heap.size, 0, none⟩) (p.size + 1) (p.size + 1)) (rowF p.size (midC p h (o - h) o T j true))) ∧ Below wa.heap.size wa wx)
              case first =>
                have hleK := goN_le p j sH
                have hk : gH p j ≤ p.size := by show goN p j sH ≤ _; omega
                obtain ⟨e0, f0⟩ := rowF_cell hrow.out (gH p j) hk
                have hone : midC p h (o - h) o T j true (gH p j) = midC p h (o - h) o T j false (gH p j) + cnt (gH p) (gT p) h (o - h) p.size T j * h := by
                  rw [midC_one]; unfold ind; rw [if_pos rfl, Int.mul_comm h]
                obtain ⟨x0, x1, _⟩ := Hmi.out false j (gH p j) hlt
                have y0 := cnt_nonneg (gH p) (gT p) (a := h) (b := o - h) (by omega) (by omega) p.size T j
                have y1 := Int.mul_nonneg y0 (show 0 ≤ h by omega)
                have y2 : midC p h (o - h) o T j true (gH p j) ≤ o ^ (T + 1) := (Hmi.out true j (gH p j) hlt).2.1
                rw [hone] at y2
                obtain ⟨hs1, hs2⟩ := rowF_store hrow.out (gH p j) (midC p h (o - h) o T j false (gH p j) + cnt (gH p) (gT p) h (o - h) p.size T j * h) (midC p h (o - h) o T j true) hone (fun q _ hne => by
                  rw [midC_one]; unfold ind; rw [if_neg (fun e => hne e.symm), Int.add_zero])
                have Hs1 := Lib.hid hs1
                have hbel : Below wa.heap.size wa (wd.setCell ⟨wa.heap.size, gH p j, none⟩ (.int .i64 (midC p h (o - h) o T j false (gH p j) + cnt (gH p) (gT p) h (o - h) p.size T j * h))) := hbi.setCell (Nat.le_refl _) _
                have Hbel := Lib.hid hbel
                have hki : ((gH p j : Nat) : Int) < (p.size : Int) + 1 := by omega
                have hk2 : gH p j < p.size + 1 := by omega
                have hcall : ∀ W : World, Calls Tryd.prog 41 #[.string p, .int .i64 j, .string sH] W fun e w' => e = .returned (.int .i64 (gH p j)) ∧ ∃ n, w' = W.drewN n := fun W => ptGo_any p j sH W hlt p2 rfl
                clear hs1 hs2 hleK hone hbel
                generalize gH p j = K at *
                generalize midC p h (o - h) o T j false K = X at *
                generalize cnt (gH p) (gT p) h (o - h) p.size T j = C at *
                have hX : Hid (X + C * h ≤ 100000000) := Lib.hid (by generalize o ^ (T + 1) = Z at *; omega)
                have hw0 : IntKind.i64.wrap (o - h) = o - h := IntWalk.i64_in _ (by omega)
                have hw1 : IntKind.i64.wrap (C * h) = C * h := IntWalk.i64_in _ (by have := hX.out; omega)
                have hw2 : IntKind.i64.wrap (X + C * h) = X + C * h := IntWalk.i64_in _ (by have := hX.out; omega)
                clear y2 x1
                go_region_with (go_at_call 41; refine (hcall _).mono ?_; rintro e w2 ⟨rfl, nq, rfl⟩)
                all_goals (go_wp2_with fail; go_meet; exact ⟨rfl, Hs1.out, ⟨Hbel.out.os, Hbel.out.tape, Hbel.out.output, Hbel.out.size, Hbel.out.block⟩⟩)
              case rest =>
                obtain ⟨rfl, hrow2, hb2⟩ := hcut
                obtain ⟨we, rfl⟩ : ∃ we : World, we = wc := ⟨_, rfl⟩
                have hbx2 := Lib.hid (bxa.out.keep hb2)
                obtain ⟨d3, d4, d5⟩ := hbx2.out
                go_wp2_with fail
                have hleK := goN_le p j sT
                have hk : gT p j ≤ p.size := by show goN p j sT ≤ _; omega
                obtain ⟨e0, f0⟩ := rowF_cell hrow2.out (gT p j) hk
                have hone : midC p h (o - h) o T (j + 1) false (gT p j) = midC p h (o - h) o T j true (gT p j) + cnt (gH p) (gT p) h (o - h) p.size T j * (o - h) := by
                  rw [midC_two]; unfold ind; rw [if_pos rfl, Int.mul_comm (o - h)]
                obtain ⟨x0, x1, _⟩ := Hmi.out true j (gT p j) hlt
                have y0 := cnt_nonneg (gH p) (gT p) (a := h) (b := o - h) (by omega) (by omega) p.size T j
                have y1 := Int.mul_nonneg y0 (show 0 ≤ (o - h) by omega)
                have y2 : midC p h (o - h) o T (j + 1) false (gT p j) ≤ o ^ (T + 1) := Hmn.out (gT p j)
                rw [hone] at y2
                obtain ⟨hs1, hs2⟩ := rowF_store hrow2.out (gT p j) (midC p h (o - h) o T j true (gT p j) + cnt (gH p) (gT p) h (o - h) p.size T j * (o - h)) (midC p h (o - h) o T (j + 1) false) hone (fun q _ hne => by
                  rw [midC_two]; unfold ind; rw [if_neg (fun e => hne e.symm), Int.add_zero])
                have Hs1 := Lib.hid hs1
                have hbel : Below wa.heap.size wa (we.setCell ⟨wa.heap.size, gT p j, none⟩ (.int .i64 (midC p h (o - h) o T j true (gT p j) + cnt (gH p) (gT p) h (o - h) p.size T j * (o - h)))) := hb2.setCell (Nat.le_refl _) _
                have Hbel := Lib.hid hbel
                have hki : ((gT p j : Nat) : Int) < (p.size : Int) + 1 := by omega
                have hk2 : gT p j < p.size + 1 := by omega
                have hcall : ∀ W : World, Calls Tryd.prog 41 #[.string p, .int .i64 j, .string sT] W fun e w' => e = .returned (.int .i64 (gT p j)) ∧ ∃ n, w' = W.drewN n := fun W => ptGo_any p j sT W hlt p2 rfl
                clear hs1 hs2 hleK hone hbel
                generalize gT p j = K at *
                generalize midC p h (o - h) o T j true K = X at *
                generalize cnt (gH p) (gT p) h (o - h) p.size T j = C at *
                have hX : Hid (X + C * (o - h) ≤ 100000000) := Lib.hid (by generalize o ^ (T + 1) = Z at *; omega)
                have hw0 : IntKind.i64.wrap (o - h) = o - h := IntWalk.i64_in _ (by omega)
                have hw1 : IntKind.i64.wrap (C * (o - h)) = C * (o - h) := IntWalk.i64_in _ (by have := hX.out; omega)
                have hw2 : IntKind.i64.wrap (X + C * (o - h)) = X + C * (o - h) := IntWalk.i64_in _ (by have := hX.out; omega)
                clear y2 x1
                go_region_with (go_at_call 41; refine (hcall _).mono ?_; rintro e w2 ⟨rfl, nq, rfl⟩)
                all_goals
                  go_wp2_with fail
                  go_roundw
                  case rel => (repeat apply Exists.intro); exact ⟨⟨j + 1, by omega, by go_num, Hs1.out, ⟨Hbel.out.os, Hbel.out.tape, Hbel.out.output, Hbel.out.size, Hbel.out.block⟩⟩, rfl⟩
                  all_goals (simp [intOf]; omega)
            · obtain rfl : j = p.size := by omega
              have hfin : rowF p.size (midC p h (o - h) o T p.size false) = rowF p.size (rowB p h (o - h) o (T + 1)) := rowF_congr _ fun k hk => midC_end p h (o - h) o T k hk
              rw [hfin] at hrow
              obtain ⟨d0, d1, d2⟩ := bxa.out.keep hbi
              have hwp : IntKind.i64.wrap (o ^ T * o) = o ^ (T + 1) := by rw [← Int.pow_succ]; generalize o ^ (T + 1) = X at q0 q1 ⊢; exact IntWalk.i64_in _ (by omega)
              have hnl : ¬ ((p.size : Int) < (p.size : Int)) := by omega
              clear hfin hglt
              go_wp2_with fail
              exact ⟨⟨m, by omega, rfl, by rw [HT1.out], by rw [HT1.out]; exact Lib.hid (hrow.out.mono Hb.out.size), bel_trans Hb.out hbi⟩, by simp [intOf]⟩

end Go.Proofs.YtjckmnbpfmcadacDoor
