/- The walk of the law of StatesOfChain. -/
import Derived.Test.YthnjkjdfdhdcfaaSoc3
import Derived.Test.YthnjkjdfdhdcfaaStR
namespace Go.Proofs.Ythnjkjdfdhdcfaa
open Go.ChangeShapes Go.WideShapes Go.ChangeAt Go.RowKit
set_option linter.unusedVariables false

theorem RdMS.offB {w w' : World} {B lo hi : Nat} {v : Value} {m : List (List Int)} (h : RdM w B v m) (ho : Off lo hi w w') (hB : B ≤ lo) (hs : B ≤ w.heap.size) : RdM w' B v m :=
  h.keep fun p hp => World.cell?_of_block (w := w) (a := p) (ho.block p.block (by omega) (.inl (by omega)))
theorem Box3.off {w w' : World} {k lo hi : Nat} {x y z : Value} (h : Box3 w k x y z) (ho : Off lo hi w w') (hk : k < lo) : Box3 w' k x y z := by
  have e := ho.block k h.2.2.2 (.inl hk)
  exact ⟨(World.cell?_of_block (w := w) (a := ⟨k, 0, none⟩) e).trans h.1, (World.cell?_of_block (w := w) (a := ⟨k, 1, none⟩) e).trans h.2.1, (World.cell?_of_block (w := w) (a := ⟨k, 2, none⟩) e).trans h.2.2.1, Nat.lt_of_lt_of_le h.2.2.2 ho.size⟩
theorem Box2.offhi {w w' : World} {k lo hi : Nat} {x y : Value} (h : Box2 w k x y) (ho : Off lo hi w w') (hk : hi ≤ k) : Box2 w' k x y := by
  have e := ho.block k h.2.2 (.inr hk)
  exact ⟨(World.cell?_of_block (w := w) (a := ⟨k, 0, none⟩) e).trans h.1, (World.cell?_of_block (w := w) (a := ⟨k, 1, none⟩) e).trans h.2.1, Nat.lt_of_lt_of_le h.2.2 ho.size⟩
/-- What the walk knows of the model's answer: it reads as m, and lies below B. -/
def QM (w : World) (B : Nat) (v : Value) (m : List (List Int)) : Prop := RdM w B v m ∧ B ≤ w.heap.size
theorem QM.keep {w w' : World} {B : Nat} {v : Value} {m : List (List Int)} (h : QM w B v m) (hb : Below w.heap.size w w') : QM w' B v m := ⟨h.1.below hb h.2, Nat.le_trans h.2 hb.size⟩
theorem QM.off {w w' : World} {B lo hi : Nat} {v : Value} {m : List (List Int)} (h : QM w B v m) (ho : Off lo hi w w') (hB : B ≤ lo) : QM w' B v m := ⟨RdMS.offB h.1 ho hB h.2, Nat.le_trans h.2 ho.size⟩

theorem mS_small (a b c : Int) : (mS a b c).length ≤ 1000 ∧ offM (mS a b c) (mS a b c).length ≤ 1000 := by
  unfold mS rowsS
  split <;> simp [offM]

set_option maxRecDepth 100000 in
set_option maxHeartbeats 6400000 in
theorem walkExactStatesOfChain (a b c : Int) (w : World) (ha : (Lit.int .i64 a).wf = true) (hb : (Lit.int .i64 b).wf = true) (hc : (Lit.int .i64 c).wf = true) :
    Calls Try.prog 19 #[chn a b c] w fun e w' => e = .returned (.bool true) ∧ Below w.heap.size w w' := by
  clear ha hb hc
  have bx := Lib.hid (Box3.new w (.int .i64 a) (.int .i64 b) (.int .i64 c) 61)
  have SP := specSoc_any a b c
  have IM := implSoc_any a b c
  obtain ⟨hml, hof⟩ := mS_small a b c
  generalize lS a b c = l at *
  generalize mS a b c = m at *
  generalize good a b c = ok at *
  have HS := Lib.hid SP
  have HI := Lib.hid IM
  clear SP IM
  have t0 : decide ((1 : Int) + (offM m m.length : Int) < 0) = false := by simp; omega
  go_enter Try.func19, Try.ntmps19
  go_wp2_with fail
  refine (toChain_any a b c _).mono ?_
  rintro e w1 ⟨rfl, hb1⟩
  have bl1 := bel_trans (bel_alloc (Below.refl _ w) _) hb1
  have bx1 := Lib.hid (bx.out.keep hb1)
  go_wp2_with fail
  refine (HS.out _).mono ?_
  rintro e w2 ⟨v0, rfl, o0, hb2⟩
  obtain ⟨A0, cap0, rfl, _⟩ := o0.formS
  have q2 := Lib.hid (show QM w2 w2.heap.size _ m from ⟨o0.rd, Nat.le_refl _⟩)
  clear o0
  have bl2 := bel_trans bl1 hb2
  have bx2 := Lib.hid (bx1.out.keep hb2)
  have hb3 := bel_alloc (Below.refl _ w2) (.cells #[.int .i64 l, .slice A0 m.length cap0] 27)
  have by3 := Lib.hid (Box2.new w2 (.int .i64 l) (.slice A0 m.length cap0) 27)
  have bl3 := bel_trans bl2 hb3
  have bx3 := Lib.hid (bx2.out.keep hb3)
  have q3 := Lib.hid (q2.out.keep hb3)
  obtain ⟨x30, x31, x32, x33⟩ := bx3.out
  go_wp2_with fail
  refine (toChain_any a b c _).mono ?_
  rintro e w4 ⟨rfl, hb4⟩
  have bl4 := bel_trans bl3 hb4
  have bx4 := Lib.hid (bx3.out.keep hb4)
  have by4 := Lib.hid (by3.out.keep hb4)
  have q4 := Lib.hid (q3.out.keep hb4)
  have sz24 : w2.heap.size < w4.heap.size := by4.out.2.2
  go_wp2_with fail
  refine (HI.out _).mono ?_
  rintro e w5 ⟨v1, rfl, o1, hb5⟩
  obtain ⟨A1, cap1, rfl, _⟩ := o1.formS
  have o5 := Lib.hid o1
  clear o1
  have bl5 := bel_trans bl4 hb5
  have bx5 := Lib.hid (bx4.out.keep hb5)
  have by5 := Lib.hid (by4.out.keep hb5)
  have q5 := Lib.hid (q4.out.keep hb5)
  have hb6 := bel_alloc (Below.refl _ w5) (.cells #[.int .i64 l, .slice A1 m.length cap1] 27)
  have bz6 := Lib.hid (Box2.new w5 (.int .i64 l) (.slice A1 m.length cap1) 27)
  have bl6 := bel_trans bl5 hb6
  have bx6 := Lib.hid (bx5.out.keep hb6)
  have by6 := Lib.hid (by5.out.keep hb6)
  have q6 := Lib.hid (q5.out.keep hb6)
  have o6 := Lib.hid (o5.out.belowS hb6)
  obtain ⟨y60, y61, y62⟩ := by6.out
  obtain ⟨z60, z61, z62⟩ := bz6.out
  go_wp2_with fail
  refine (eqStates_same l m _ _ _ _ _ o6.out.rd q6.out.1 o6.out.1 q6.out.2).mono ?_
  rintro e w7 ⟨rfl, hb7⟩
  have bl7 := bel_trans bl6 hb7
  have bx7 := Lib.hid (bx6.out.keep hb7)
  have by7 := Lib.hid (by6.out.keep hb7)
  have bz7 := Lib.hid (bz6.out.keep hb7)
  have q7 := Lib.hid (q6.out.keep hb7)
  have o7 := Lib.hid (o6.out.belowS hb7)
  clear x30 x31 x32 x33 y60 y61 y62 z60 z61 z62
  obtain ⟨z70, z71, z72⟩ := bz7.out
  go_wp2_with fail
  refine (markStates_any l m _ _ _ 1 _ o7.out (by omega) (by omega) (by omega)).mono ?_
  rintro e w8 ⟨rfl, om, hoff⟩
  have szw : w.heap.size < w4.heap.size := bx4.out.2.2.2
  have bl8 := hoff.bel bl7 (by omega)
  have bx8 := Lib.hid (bx7.out.off hoff szw)
  have by8 := Lib.hid (by7.out.off hoff sz24)
  have bz8 := Lib.hid (bz7.out.offhi hoff (Nat.le_refl _))
  have q8 := Lib.hid (q7.out.off hoff (by omega))
  have om8 := Lib.hid om
  clear om z70 z71 z72
  obtain ⟨z80, z81, z82⟩ := bz8.out
  go_wp2_with fail
  refine (heldStates_any l m _ _ _ 1 _ om8.out (by omega) (by omega) (by omega)).mono ?_
  rintro e w9 ⟨rfl, hb9⟩
  have bl9 := bel_trans bl8 hb9
  have bx9 := Lib.hid (bx8.out.keep hb9)
  have by9 := Lib.hid (by8.out.keep hb9)
  have bz9 := Lib.hid (bz8.out.keep hb9)
  have q9 := Lib.hid (q8.out.keep hb9)
  have om9 := Lib.hid (om8.out.belowS hb9)
  clear z80 z81 z82
  obtain ⟨x90, x91, x92, x93⟩ := bx9.out
  go_wp2_with fail
  refine (toChain_any a b c _).mono ?_
  rintro e w10 ⟨rfl, hb10⟩
  have bl10 := bel_trans bl9 hb10
  have by10 := Lib.hid (by9.out.keep hb10)
  have bz10 := Lib.hid (bz9.out.keep hb10)
  have q10 := Lib.hid (q9.out.keep hb10)
  have om10 := Lib.hid (om9.out.belowS hb10)
  clear x90 x91 x92 x93
  go_wp2_with fail
  refine (HI.out _).mono ?_
  rintro e w11 ⟨v2, rfl, o2, hb11⟩
  obtain ⟨A2, cap2, rfl, _⟩ := o2.formS
  have o11 := Lib.hid o2
  clear o2
  have bl11 := bel_trans bl10 hb11
  have by11 := Lib.hid (by10.out.keep hb11)
  have bz11 := Lib.hid (bz10.out.keep hb11)
  have q11 := Lib.hid (q10.out.keep hb11)
  have om11 := Lib.hid (om10.out.belowS hb11)
  have hb12 := bel_alloc (Below.refl _ w11) (.cells #[.int .i64 l, .slice A2 m.length cap2] 27)
  have bu12 := Lib.hid (Box2.new w11 (.int .i64 l) (.slice A2 m.length cap2) 27)
  have bl12 := bel_trans bl11 hb12
  have by12 := Lib.hid (by11.out.keep hb12)
  have bz12 := Lib.hid (bz11.out.keep hb12)
  have q12 := Lib.hid (q11.out.keep hb12)
  have o12 := Lib.hid (o11.out.belowS hb12)
  have om12 := Lib.hid (om11.out.belowS hb12)
  obtain ⟨y120, y121, y122⟩ := by12.out
  obtain ⟨u120, u121, u122⟩ := bu12.out
  go_wp2_with fail
  refine (eqStates_same l m _ _ _ _ _ o12.out.rd q12.out.1 o12.out.1 q12.out.2).mono ?_
  rintro e w13 ⟨rfl, hb13⟩
  have bl13 := bel_trans bl12 hb13
  have bz13 := Lib.hid (bz12.out.keep hb13)
  have om13 := Lib.hid (om12.out.belowS hb13)
  clear y120 y121 y122 u120 u121 u122
  obtain ⟨z130, z131, z132⟩ := bz13.out
  go_wp2_with fail
  refine (heldStates_any l m _ _ _ 1 _ om13.out (by omega) (by omega) (by omega)).mono ?_
  rintro e w14 ⟨rfl, hb14⟩
  have bl14 := bel_trans bl13 hb14
  go_wp2
  go_ret
  exact ⟨rfl, bl14⟩
end Go.Proofs.Ythnjkjdfdhdcfaa
