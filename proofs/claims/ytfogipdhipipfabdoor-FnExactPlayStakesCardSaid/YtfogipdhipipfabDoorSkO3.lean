/- PlayStakes: the walk through the law. -/
import Derived.Test.YtfogipdhipipfabDoorSkO
import Derived.Test.YtfogipdhipipfabDoorSkO2
namespace Go.Proofs.YtfogipdhipipfabDoor
set_option linter.unusedSimpArgs false
open Go.ChangeShapes Go.WideShapes Go.ChangeAt Go.RowKit
set_option linter.unusedVariables false

theorem IRow.kept_af {w0 W w' : World} {b0 b1 : Nat} {v0 v1 : Value} {xs ys : List Int} (h : IRow W b0 v0 xs) (hg : W.grownBy w' v1.ownBlock) (h1 : IRow w0 b1 v1 ys) (hb : w0.heap.size ≤ b0) : IRow w' b0 v0 xs := by
  refine World.ownsRow.kept h hg ?_
  cases hv : v0.ownBlock with
  | none => exact .inl rfl
  | some k =>
    refine .inr fun he => ?_
    have l0 := (World.ownsRow.lt h k hv).1
    have l1 := (World.ownsRow.lt h1 k he.symm).2
    omega
theorem box_grown {W W' : World} {k b : Nat} {x y v : Value} {ys : List Int} (h : Box2 W k x y) (hg : W.grownBy W' v.ownBlock) (h1 : IRow W b v ys) (hb : k < b) : Box2 W' k x y := by
  have e := hg.block k h.2.2 (fun e => by have := (World.ownsRow.lt h1 _ e.symm).1; omega)
  exact ⟨(World.cell?_of_block (w := W) (a := ⟨k, 0, none⟩) e).trans h.1, (World.cell?_of_block (w := W) (a := ⟨k, 1, none⟩) e).trans h.2.1, Nat.lt_of_lt_of_le h.2.2 hg.size⟩

set_option maxHeartbeats 6400000 in
theorem walkExactPlayStakes (p g : Int) (xs : List Int) (lv : Value) (t : ByteArray) (w : World) (za : (Lit.int .i64 p).wf = true) (zb : (Lit.int .i64 g).wf = true) (hx : RdI w w.heap.size lv xs) (hs : t.size ≤ maxLen) :
    Calls Tryd.prog 4 #[sk p g, lv, .string t] w fun e w' => e = .returned (.bool true) ∧ Below w.heap.size w w' := by
  clear za zb
  have bx0 := Lib.hid (Box2.new w (.int .i64 p) (.int .i64 g) 23)
  have bl0 := Lib.hid (bel_alloc (Below.refl _ w) (.cells #[.int .i64 p, .int .i64 g] 23))
  obtain ⟨LA, lcap, rfl, hlc, hlm⟩ := hx.form
  have HX := Lib.hid hx
  clear hx
  have hsb : w.heap.size < (w.alloc (.cells #[.int .i64 p, .int .i64 g] 23)).heap.size := bx0.out.2.2
  by_cases zn : xs.length ≤ 1048576
  · by_cases z : t.size ≤ 1048576
    · have hlen : ((resPS p g xs t).getD []).length ≤ 1000 := resPS_len p g xs t
      generalize hys : (resPS p g xs t).getD [] = ys at *
      have Hys := Lib.hid hys
      clear hys
      generalize hok : (resPS p g xs t).isSome = ok at *
      have Hok := Lib.hid hok
      clear hok
      obtain ⟨c0, c1, c2⟩ := bx0.out
      go_enter Tryd.func4, Tryd.ntmps4
      go_wp2_with fail
      refine (toStakes_any _ _ _).mono ?_
      rintro e wA ⟨rfl, hbA⟩
      have bxA := Lib.hid (bx0.out.keep hbA)
      have blA := Lib.hid (bel_trans bl0.out hbA)
      clear hbA c0 c1 c2
      go_wp2_with fail
      refine (toIntS_any xs _ w.heap.size _ (HX.out.below blA.out (Nat.le_refl _)) blA.out.size zn).mono ?_
      rintro e wB ⟨l1, rfl, rl1, hbB⟩
      have L1 := Lib.hid rl1
      have bxB := Lib.hid (bxA.out.keep hbB)
      have blB := Lib.hid (bel_trans blA.out hbB)
      clear hbB rl1
      go_wp2_with fail
      refine (specPS_any p g xs l1 _ t _ hs L1.out.rd (Nat.le_refl _)).mono ?_
      rw [Hys.out, Hok.out]
      rintro e w1 ⟨v0, rfl, r0, hb1⟩
      have R0 := Lib.hid r0
      have bx1 := Lib.hid (bxB.out.keep hb1)
      have bl1 := Lib.hid (bel_trans blB.out hb1)
      have hz1 := hb1.size
      clear r0 hb1
      go_wp2_with fail
      refine (toIntS_any xs _ w.heap.size _ (HX.out.below bl1.out (Nat.le_refl _)) bl1.out.size zn).mono ?_
      rintro e wC ⟨x1, rfl, rx1, hbC⟩
      have X1 := Lib.hid rx1
      have bxC := Lib.hid (bx1.out.keep hbC)
      have blC := Lib.hid (bel_trans bl1.out hbC)
      have R0C := Lib.hid (R0.out.below hbC)
      have hzC := hbC.size
      clear hbC rx1
      obtain ⟨c0, c1, c2⟩ := bxC.out
      go_wp2_with fail
      refine (toStakes_any _ _ _).mono ?_
      rintro e wD ⟨rfl, hbD⟩
      have bxD := Lib.hid (bxC.out.keep hbD)
      have blD := Lib.hid (bel_trans blC.out hbD)
      have R0D := Lib.hid (R0C.out.below hbD)
      have X1D := Lib.hid (X1.out.below hbD)
      have hzD := hbD.size
      clear hbD c0 c1 c2
      go_wp2_with fail
      refine (implPS_any p g xs x1 _ t _ hs X1D.out.rd (Nat.le_refl _)).mono ?_
      rw [Hys.out, Hok.out]
      rintro e w2 ⟨v1, rfl, r1, hb2⟩
      have R1 := Lib.hid r1
      have bx2 := Lib.hid (bxD.out.keep hb2)
      have bl2 := Lib.hid (bel_trans blD.out hb2)
      have R02 := Lib.hid (R0D.out.below hb2)
      have X12 := Lib.hid (X1D.out.below hb2)
      have hz2 := hb2.size
      clear hb2 r1
      go_wp2_with fail
      refine (eqInt_same ys v1 v0 _ _ _ R1.out R02.out).mono ?_
      rintro e w3 ⟨rfl, n3, rfl⟩
      go_wp2_with fail
      refine (toIntS_any xs _ w.heap.size _ (HX.out.below (bel_drewN bl2.out n3) (Nat.le_refl _)) (bel_drewN bl2.out n3).size zn).mono ?_
      rintro e w4 ⟨l2, rfl, rl2, hb4'⟩
      have hb4 := bel_undrewN hb4'
      have L2 := Lib.hid rl2
      have bx4 := Lib.hid (bx2.out.keep hb4)
      have bl4 := Lib.hid (bel_trans bl2.out hb4)
      have R04 := Lib.hid (R02.out.below hb4)
      have X14 := Lib.hid (X12.out.below hb4)
      have R14 := Lib.hid (R1.out.below hb4)
      have hz4 := hb4.size
      clear hb4 hb4' rl2
      go_wp2_with fail
      refine (eqInt_same xs x1 l2 _ _ _ X14.out L2.out).mono ?_
      rintro e w5 ⟨rfl, n5, rfl⟩
      go_wp2_with fail
      refine (mark_any xs x1 _ 1 _ (X14.out.drewN n5) (by omega) (by omega)).mono ?_
      rintro e w6 ⟨rfl, r6, hg6⟩
      have bl6 := Lib.hid (bel_grown (bel_drewN bl4.out n5) hg6 (X14.out.drewN n5) (by have := bl1.out.size; omega))
      have bx6 : Hid (Box2 w6 w.heap.size (.int .i64 p) (.int .i64 g)) := Lib.hid (box_grown (W := w4.drewN n5) bx4.out hg6 (X14.out.drewN n5) (by have := bx1.out.2.2; omega))
      have R06 := Lib.hid ((R04.out.drewN n5).kept_by hg6 (X14.out.drewN n5) (w0 := w1) (Nat.le_refl _) R0.out)
      have R16 := Lib.hid ((R14.out.drewN n5).kept_af hg6 X1.out (by omega))
      have hz6 : w4.heap.size ≤ w6.heap.size := hg6.size
      clear hg6 r6
      have t0 : decide ((1 : Int) + (xs.length : Int) < 0) = false := by simp; omega
      have t1 : decide ((1 : Int) + (ys.length : Int) < 0) = false := by simp; omega
      go_wp2_with fail
      refine (eqInt_same ys v1 v0 _ _ _ R16.out R06.out).mono ?_
      rintro e w7 ⟨rfl, n7, rfl⟩
      go_wp2_with fail
      refine (mark_any ys v1 _ 1 _ (R16.out.drewN n7) (by omega) (by omega)).mono ?_
      rintro e w8 ⟨rfl, r8, hg8⟩
      have R18 := Lib.hid r8
      have bl8 := Lib.hid (bel_grown (bel_drewN bl6.out n7) hg8 (R16.out.drewN n7) (by have := bl1.out.size; omega))
      have bx8 : Hid (Box2 w8 w.heap.size (.int .i64 p) (.int .i64 g)) := Lib.hid (box_grown (W := w6.drewN n7) bx6.out hg8 (R16.out.drewN n7) (by have := bx1.out.2.2; omega))
      have R08 := Lib.hid ((R06.out.drewN n7).kept_by hg8 (R16.out.drewN n7) (w0 := w1) (Nat.le_refl _) R0.out (by omega))
      clear hg8 r8
      go_wp2_with fail
      refine (held_any ys v1 _ 1 _ R18.out (by omega) (by omega)).mono ?_
      rintro e w9 ⟨rfl, n9, rfl⟩
      obtain ⟨c0, c1, c2⟩ := bx8.out
      go_wp2_with fail
      refine (toStakes_any _ _ _).mono ?_
      rintro e wE ⟨rfl, hbE'⟩
      have hbE := bel_undrewN hbE'
      have blE := Lib.hid (bel_trans bl8.out hbE)
      have R0E := Lib.hid (R08.out.below hbE)
      have R1E := Lib.hid (R18.out.below hbE)
      clear hbE hbE' c0 c1 c2
      go_wp2_with fail
      refine (toIntS_any xs _ w.heap.size _ (HX.out.below blE.out (Nat.le_refl _)) blE.out.size zn).mono ?_
      rintro e wF ⟨l3, rfl, rl3, hbF⟩
      have L3 := Lib.hid rl3
      have blF := Lib.hid (bel_trans blE.out hbF)
      have R0F := Lib.hid (R0E.out.below hbF)
      have R1F := Lib.hid (R1E.out.below hbF)
      clear hbF rl3
      go_wp2_with fail
      refine (implPS_any p g xs l3 _ t _ hs L3.out.rd (Nat.le_refl _)).mono ?_
      rw [Hys.out, Hok.out]
      rintro e wG ⟨v2, rfl, r2, hbG⟩
      have R2 := Lib.hid r2
      have R0G := Lib.hid (R0F.out.below hbG)
      have R1G := Lib.hid (R1F.out.below hbG)
      have blG := bel_trans blF.out hbG
      clear r2
      go_wp2_with fail
      refine (eqInt_same ys v2 v0 _ _ _ R2.out R0G.out).mono ?_
      rintro e wH ⟨rfl, nH, rfl⟩
      go_wp2_with fail
      refine (held_any ys v1 _ 1 _ (R1G.out.drewN nH) (by omega) (by omega)).mono ?_
      rintro e wI ⟨rfl, nI, rfl⟩
      go_wp2_with fail
      go_ret
      refine ⟨rfl, ?_⟩
      repeat (first | assumption | with_reducible exact Below.refl _ _ | refine bel_alloc ?_ _ | refine bel_drewN ?_ _ | refine Below.drew ?_ | (refine Below.setCell ?_ (by simp) _) | (refine bel_trans ?_ (by assumption)))
    · go_enter Tryd.func4, Tryd.ntmps4
      go_wp2
      go_ret
      exact ⟨rfl, bl0.out⟩
  · go_enter Tryd.func4, Tryd.ntmps4
    go_wp2
    go_ret
    exact ⟨rfl, bl0.out⟩

end Go.Proofs.YtfogipdhipipfabDoor
