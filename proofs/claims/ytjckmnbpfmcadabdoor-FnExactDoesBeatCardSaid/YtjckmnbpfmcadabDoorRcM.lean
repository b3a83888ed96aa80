/- MeanRace: the contract of the program. -/
import Derived.Test.YtjckmnbpfmcadabDoorRcL2
namespace Go.Proofs.YtjckmnbpfmcadabDoor
set_option linter.unusedSimpArgs false
open Go.ChangeShapes Go.WideShapes Go.ChangeAt Go.RowKit
set_option linter.unusedVariables false

def Held22 (w W : World) (k : Nat) (x y : Value) (l : Nat) (u v : Value) : Prop :=
  W.cell? ⟨k, 0, none⟩ = some x ∧ W.cell? ⟨k, 1, none⟩ = some y ∧ k < W.heap.size ∧ W.cell? ⟨l, 0, none⟩ = some u ∧ W.cell? ⟨l, 1, none⟩ = some v ∧ l < W.heap.size ∧ Below w.heap.size w W
theorem held22_start {w W : World} {k l : Nat} {x y u v : Value} (h : Box2 W k x y) (h2 : Box2 W l u v) (hb : Below w.heap.size w W) : let V := W.drew
    V.cell? ⟨k, 0, none⟩ = some x ∧ V.cell? ⟨k, 1, none⟩ = some y ∧ k < V.heap.size ∧ V.cell? ⟨l, 0, none⟩ = some u ∧ V.cell? ⟨l, 1, none⟩ = some v ∧ l < V.heap.size ∧ Below w.heap.size w V :=
  ⟨h.1, h.2.1, h.2.2, h2.1, h2.2.1, h2.2.2, hb.drew⟩
theorem held22_keep {w W w1 : World} {k l : Nat} {x y u v : Value} (h : W.cell? ⟨k, 0, none⟩ = some x ∧ W.cell? ⟨k, 1, none⟩ = some y ∧ k < W.heap.size ∧ W.cell? ⟨l, 0, none⟩ = some u ∧ W.cell? ⟨l, 1, none⟩ = some v ∧ l < W.heap.size ∧ Below w.heap.size w W)
    (hb : Below W.heap.size W w1) : w1.cell? ⟨k, 0, none⟩ = some x ∧ w1.cell? ⟨k, 1, none⟩ = some y ∧ k < w1.heap.size ∧ w1.cell? ⟨l, 0, none⟩ = some u ∧ w1.cell? ⟨l, 1, none⟩ = some v ∧ l < w1.heap.size ∧ Below w.heap.size w w1 := by
  have b : Box2 w1 k x y := Box2.keep ⟨h.1, h.2.1, h.2.2.1⟩ hb
  have c : Box2 w1 l u v := Box2.keep ⟨h.2.2.2.1, h.2.2.2.2.1, h.2.2.2.2.2.1⟩ hb
  exact ⟨b.1, b.2.1, b.2.2, c.1, c.2.1, c.2.2, bel_trans h.2.2.2.2.2.2 hb⟩
theorem held22_drewN {w W : World} {k l : Nat} {x y u v : Value} (h : W.cell? ⟨k, 0, none⟩ = some x ∧ W.cell? ⟨k, 1, none⟩ = some y ∧ k < W.heap.size ∧ W.cell? ⟨l, 0, none⟩ = some u ∧ W.cell? ⟨l, 1, none⟩ = some v ∧ l < W.heap.size ∧ Below w.heap.size w W) (n : Nat) :
    let V := W.drewN n
    V.cell? ⟨k, 0, none⟩ = some x ∧ V.cell? ⟨k, 1, none⟩ = some y ∧ k < V.heap.size ∧ V.cell? ⟨l, 0, none⟩ = some u ∧ V.cell? ⟨l, 1, none⟩ = some v ∧ l < V.heap.size ∧ Below w.heap.size w V :=
  ⟨h.1, h.2.1, h.2.2.1, h.2.2.2.1, h.2.2.2.2.1, h.2.2.2.2.2.1, bel_drewN h.2.2.2.2.2.2 n⟩
theorem held22_below {w W : World} {k l : Nat} {x y u v : Value} (h : W.cell? ⟨k, 0, none⟩ = some x ∧ W.cell? ⟨k, 1, none⟩ = some y ∧ k < W.heap.size ∧ W.cell? ⟨l, 0, none⟩ = some u ∧ W.cell? ⟨l, 1, none⟩ = some v ∧ l < W.heap.size ∧ Below w.heap.size w W) :
    Box2 W k x y ∧ Box2 W l u v ∧ Below w.heap.size w W := ⟨⟨h.1, h.2.1, h.2.2.1⟩, ⟨h.2.2.2.1, h.2.2.2.2.1, h.2.2.2.2.2.1⟩, h.2.2.2.2.2.2⟩

set_option maxRecDepth 100000 in
set_option maxHeartbeats 3200000 in
theorem implMR_any (h o : Int) (a b : ByteArray) (w : World) (ha : a.size ≤ maxLen) (hb : b.size ≤ maxLen) :
    Calls Tryd.prog 20 #[cn h o, .string a, .string b] w fun e w' => e = .returned (ansMR h o a b) ∧ Below w.heap.size w w' := by
  have bx0 := Lib.hid (Box2.new w (.int .i64 h) (.int .i64 o) 27)
  have bl0 : Below w.heap.size w (w.alloc (.cells #[.int .i64 h, .int .i64 o] 27)) := bel_alloc (Below.refl _ _) _
  cases h1 : (rcG h o && twoG a b)
  · rw [show ansMR h o a b = failV from by unfold ansMR; rw [h1]; rfl]
    unfold failV
    go_enter Tryd.func20, Tryd.ntmps20
    go_wp2_with fail
    refine (isRace_any h o a b _ ha hb).mono ?_
    rintro e w1 ⟨rfl, hb1⟩
    rw [h1]
    go_wp2_with fail
    go_ret3
    exact ⟨rfl, bel_trans bl0 hb1⟩
  · rw [show ansMR h o a b = lowV (mrN h o a b) (mrD h o a b) from by unfold ansMR; rw [h1]; rfl]
    unfold lowV mrN mrD
    obtain ⟨g, t⟩ := ask_in h1
    obtain ⟨f1, f2, o1, o2, hg⟩ := od_all g t
    obtain ⟨g1, r1, r2, r3, r4⟩ := rc_in g
    obtain ⟨ta, tb, ts, t1, t5, tn⟩ := two_use t
    obtain ⟨n0, n1⟩ := ldN_in h o a a r1 r2 r4 ta ta rfl t1 t5
    obtain ⟨m0, m1⟩ := ldN_in h o b a r1 r2 r4 tb ta ts.symm (by omega) (by omega)
    obtain ⟨p0, p1⟩ := pow_ht h o r1 r2 r4 a.size t5
    have RO := Lib.hid (fun W => oddsOf_any h o a b W g t)
    have LL := Lib.hid (leadI g t)
    have LO := Lib.hid (fun W => leadingOf_any h o a.size W g t5)
    generalize odF h o a b = F at *
    generalize odO h o a b = O at *
    have L1 := Lib.hid (fun W => LL.out a a W (by simp) (by simp))
    have L2 := Lib.hid (fun W => LL.out b a W (by simp) (by simp))
    generalize ldN h o a a = N at *
    generalize ldN h o b a = M at *
    generalize (h * (o - h)) ^ a.size = D at *
    obtain ⟨c0, c1⟩ := prod_in (show 0 ≤ F by omega) f2 n0 n1
    obtain ⟨d0, d1⟩ := prod_in (show 0 ≤ O by omega) o2 m0 m1
    obtain ⟨e0, e1⟩ := prod_in (show 0 ≤ F + O by omega) (show F + O ≤ 800000 by omega) (show 0 ≤ D by omega) p1
    have e2 : 1 ≤ (F + O) * D := by have := Int.mul_le_mul (show (1 : Int) ≤ F + O by omega) p0 (by omega) (by omega); omega
    have LT := Lib.hid (fun W => told_any (F * N + O * M) ((F + O) * D) W (by omega) e2 (by omega) (by omega))
    have hw1 : IntKind.i64.wrap (F * N) = F * N := IntWalk.i64_in _ (by omega)
    have hw2 : IntKind.i64.wrap (O * M) = O * M := IntWalk.i64_in _ (by omega)
    have hw3 : IntKind.i64.wrap (F * N + O * M) = F * N + O * M := IntWalk.i64_in _ (by omega)
    have hw4 : IntKind.i64.wrap (F + O) = F + O := IntWalk.i64_in _ (by omega)
    have hw5 : IntKind.i64.wrap ((F + O) * D) = (F + O) * D := IntWalk.i64_in _ (by omega)
    clear hg t g ta tb ts tn
    go_enter Tryd.func20, Tryd.ntmps20
    go_wp2_with fail
    refine (isRace_any h o a b _ ha hb).mono ?_
    rintro e w1 ⟨rfl, hb1⟩
    rw [h1]
    have bx1 := Lib.hid (bx0.out.keep hb1)
    have bl1 := bel_trans bl0 hb1
    obtain ⟨c0_1, c1_1, hk1⟩ := bx1.out
    go_wp2_with fail
    refine (RO.out _).mono ?_
    rintro e w2 ⟨rfl, hb2⟩
    have bx2 := Lib.hid (bx1.out.keep hb2)
    have bl2 := bel_trans bl1 hb2
    obtain ⟨c0_2, c1_2, hk2⟩ := bx2.out
    go_wp2_with fail
    have by3 := Lib.hid (Box2.new w2 (.int .i64 F) (.int .i64 O) 53)
    have bx3 := Lib.hid (bx2.out.keep (bel_alloc (Below.refl _ w2) (.cells #[.int .i64 F, .int .i64 O] 53)))
    have bl3 := bel_alloc bl2 (.cells #[.int .i64 F, .int .i64 O] 53)
    go_region_held3 (fun w' => w'.cell? ⟨w.heap.size, 0, none⟩ = some (.int .i64 h) ∧ w'.cell? ⟨w.heap.size, 1, none⟩ = some (.int .i64 o) ∧ w.heap.size < w'.heap.size ∧ w'.cell? ⟨w2.heap.size, 0, none⟩ = some (.int .i64 F) ∧ w'.cell? ⟨w2.heap.size, 1, none⟩ = some (.int .i64 O) ∧ w2.heap.size < w'.heap.size ∧ Below w.heap.size w w')
      (first | exact held22_start bx3.out by3.out bl3 | exact held22_keep (by assumption) hb5 | exact held22_drewN (by assumption) _ | assumption | go_keep)
      (first | (go_at_call_of 44 (Value.string b); refine (L2.out _).mono ?_; rintro e w5 ⟨rfl, hb5⟩) | (go_at_call 44; refine (L1.out _).mono ?_; rintro e w5 ⟨rfl, hb5⟩))
    all_goals
      obtain ⟨hbx4, hby4, hbl4⟩ := held22_below (by assumption)
      have bx4 := Lib.hid hbx4
      have by4 := Lib.hid hby4
      clear bx3 by3 bl3
      go_wp2_with fail
      go_region_held3 (fun w' => w'.cell? ⟨w.heap.size, 0, none⟩ = some (.int .i64 h) ∧ w'.cell? ⟨w.heap.size, 1, none⟩ = some (.int .i64 o) ∧ w.heap.size < w'.heap.size ∧ w'.cell? ⟨w2.heap.size, 0, none⟩ = some (.int .i64 F) ∧ w'.cell? ⟨w2.heap.size, 1, none⟩ = some (.int .i64 O) ∧ w2.heap.size < w'.heap.size ∧ Below w.heap.size w w')
        (first | exact held22_start bx4.out by4.out hbl4 | exact held22_keep (by assumption) hb5 | exact held22_drewN (by assumption) _ | assumption | go_keep)
        (first | (go_at_call 45; refine (LO.out _).mono ?_; rintro e w6 ⟨rfl, hb5⟩) | (go_at_call 43; refine (LT.out _).mono ?_; rintro e w7 ⟨rfl, n7, rfl⟩))
      all_goals
        obtain ⟨hbx9, hby9, hbl9⟩ := held22_below (by assumption)
        clear hbx9 hby9
        go_wp2
        go_ret3
        exact ⟨rfl, hbl9⟩
end Go.Proofs.YtjckmnbpfmcadabDoor
