/- ChanceBy: the program's contract. -/
import Derived.Test.YtjckmnbpfmcadacDoorCbyP
import Derived.Test.YtjckmnbpfmcadacDoorPat
import Derived.Shelf.RegionOpenPlain
namespace Go.Proofs.YtjckmnbpfmcadacDoor
set_option linter.unusedSimpArgs false
open Go.ChangeShapes Go.WideShapes Go.ChangeAt Go.RowKit
set_option linter.unusedVariables false

theorem held2_alloc {w W : World} {k : Nat} {x y : Value} (h : W.cell? ⟨k, 0, none⟩ = some x ∧ W.cell? ⟨k, 1, none⟩ = some y ∧ k < W.heap.size ∧ Below w.heap.size w W) (ob : Obj) :
    let V := W.alloc ob
    V.cell? ⟨k, 0, none⟩ = some x ∧ V.cell? ⟨k, 1, none⟩ = some y ∧ k < V.heap.size ∧ Below w.heap.size w V := by
  have b : Box2 (W.alloc ob) k x y := Box2.keep ⟨h.1, h.2.1, h.2.2.1⟩ (bel_alloc (Below.refl _ W) ob)
  exact ⟨b.1, b.2.1, b.2.2, bel_alloc h.2.2.2 ob⟩
set_option maxRecDepth 100000 in
set_option maxHeartbeats 1600000 in
theorem implBy_any (h o : Int) (s : ByteArray) (n : Int) (w : World) (hs : s.size ≤ maxLen) :
    Calls Tryd.prog 18 #[cn h o, .string s, .int .i64 n] w fun e w' => e = .returned (ansBy h o s n) ∧ Below w.heap.size w w' := by
  have bx0 := Lib.hid (Box2.new w (.int .i64 h) (.int .i64 o) 29)
  have bl0 : Below w.heap.size w (w.alloc (.cells #[.int .i64 h, .int .i64 o] 29)) := bel_alloc (Below.refl _ _) _
  cases h1 : (coinG h o && patG s)
  · rw [show ansBy h o s n = failV from by unfold ansBy; rw [h1]; rfl]
    unfold failV
    go_enter Tryd.func18, Tryd.ntmps18
    go_wp2_with fail
    refine (isTossed_any h o s _ hs).mono ?_
    rintro e w1 ⟨rfl, hb1⟩
    rw [h1]
    have bl1 := bel_trans bl0 hb1
    go_wp2_with fail
    go_ret3
    exact ⟨rfl, bl1⟩
  · cases h2 : inB n 0 8
    · rw [show ansBy h o s n = failV from by unfold ansBy; rw [h1, h2]; rfl]
      unfold failV
      have hn : ¬ (0 ≤ n ∧ n ≤ 8) := fun q => by rw [(inB_iff _ _ _).2 q] at h2; cases h2
      by_cases hn0 : n < 0
      · skip
        go_enter Tryd.func18, Tryd.ntmps18
        go_wp2_with fail
        refine (isTossed_any h o s _ hs).mono ?_
        rintro e w1 ⟨rfl, hb1⟩
        rw [h1]
        have bl1 := bel_trans bl0 hb1
        go_wp2_with fail
        go_ret3
        exact ⟨rfl, bl1⟩
      · have hn4 : 8 < n := by omega
        go_enter Tryd.func18, Tryd.ntmps18
        go_wp2_with fail
        refine (isTossed_any h o s _ hs).mono ?_
        rintro e w1 ⟨rfl, hb1⟩
        rw [h1]
        have bl1 := bel_trans bl0 hb1
        go_wp2_with fail
        all_goals
          go_ret3
          exact ⟨rfl, bl1⟩
    · obtain ⟨n0, n8⟩ := (inB_iff _ _ _).1 h2
      obtain ⟨t, rfl⟩ := Int.eq_ofNat_of_zero_le (show 0 ≤ n by omega)
      obtain ⟨g1, g2, g3, g4⟩ := both_in h1
      obtain ⟨r1, r2, r3, r4⟩ := coin_in g1
      have hab : h + (o - h) = o := by omega
      have hsum := acc_sum s (by omega) h (o - h) t
      rw [hab] at hsum
      have hs0 := sumJ_nonneg (g := cnt (gH s) (gT s) h (o - h) s.size t) s.size (fun q _ => cnt_nonneg (gH s) (gT s) (by omega) (by omega) s.size t q)
      have ha0 := acc_nonneg s (a := h) (b := o - h) (o := o) (by omega) (by omega) (by omega) t
      obtain ⟨z0, z1⟩ := pow_le8 o (by omega) r4 t (by omega)
      have htos : ∀ (v : Value) (base : Nat) (W : World), SRow W base v [s] → Calls Tryd.prog 38 #[v, .int .i64 h, .int .i64 (o - h), .int .i64 t] W fun e w' => ∃ v', e = .returned (.tuple #[.int .i64 (sumJ (cnt (gH s) (gT s) h (o - h) s.size t) s.size), v']) ∧ IRow w' W.heap.size v' (rowF 0 (fun k => cnt (gH s) (gT s) h (o - h) s.size t (s.size + k))) ∧ Below W.heap.size W w' := fun v base W hR => tossP_any s v base h (o - h) t W hR (by omega) (by omega) (by omega) (by omega) (by omega) (by omega) (by omega) (fun q hq => by rw [hab]; exact Int.le_trans (pow_le8 o (by omega) r4 q (by omega)).2 (by decide))
      have HT := Lib.hid htos
      clear htos
      rw [show ansBy h o s (t : Int) = lowV (o ^ t - sumJ (cnt (gH s) (gT s) h (o - h) s.size t) s.size) (o ^ t) from by
        unfold ansBy
        rw [h1, h2, ← hsum]
        show lowV (accB s h (o - h) o t) (o ^ t) = _
        rw [← hsum, Int.add_sub_cancel]]
      unfold lowV
      generalize hS : sumJ (cnt (gH s) (gT s) h (o - h) s.size t) s.size = S at *
      generalize accB s h (o - h) o t = AC at *
      have hlo : S ≤ o ^ t := by omega
      have hw : IntKind.i64.wrap (o ^ t - S) = o ^ t - S := IntWalk.i64_in _ (by generalize o ^ t = Z at *; omega)
      have htold := fun W => told_any (o ^ t - S) (o ^ t) W (by omega) z0 (by generalize o ^ t = Z at *; omega) (by generalize o ^ t = Z at *; omega)
      have Ht := Lib.hid htold
      clear htold hS hsum
      go_enter Tryd.func18, Tryd.ntmps18
      go_wp2_with fail
      refine (isTossed_any h o s _ hs).mono ?_
      rintro e w1 ⟨rfl, hb1⟩
      rw [h1]
      have bx1 := Lib.hid (bx0.out.keep hb1)
      have bl1 := bel_trans bl0 hb1
      obtain ⟨c0_1, c1_1, hk1⟩ := bx1.out
      go_wp2_with fail
      have hne0 := World.new_ne w1 ⟨w.heap.size, 0, none⟩ c0_1
      have hne1 := World.new_ne w1 ⟨w.heap.size, 1, none⟩ c1_1
      go_region_held3 (fun w' => w'.cell? ⟨w.heap.size, 0, none⟩ = some (.int .i64 h) ∧ w'.cell? ⟨w.heap.size, 1, none⟩ = some (.int .i64 o) ∧ w.heap.size < w'.heap.size ∧ Below w.heap.size w w')
        (first | exact held2_start bx1.out bl1 | exact held2_keep (by assumption) hb3 | exact held2_keep (by assumption) hb4 | exact held2_alloc (by assumption) _ | assumption | go_keep)
        (first | (go_at_call 44; refine (tails_any h o _ g1).mono ?_; rintro e w3 ⟨rfl, hb3⟩) | (go_at_call 38; refine (HT.out _ _ _ (by first | exact SRow.lit1 _ _ | exact SRow.below (show SRow _ w1.heap.size _ [s] from SRow.lit1 w1 s) hb3 | exact SRow.below (show SRow _ w1.heap.size _ [s] from SRow.lit1 w1.drew s) hb3)).mono ?_; rintro e w4 ⟨v4, rfl, rr4, hb4⟩))
      all_goals
        obtain ⟨hbx9, hbl9⟩ := held2_below (by assumption)
        obtain ⟨d0, d1, d2⟩ := hbx9
        go_wp2_with fail
        refine (power_any o t _ (by omega) r4 (by omega)).mono ?_
        rintro e w5 ⟨rfl, rfl⟩
        go_wp2_with fail
        refine (Ht.out _).mono ?_
        rintro e w6 ⟨rfl, n6, rfl⟩
        go_wp2_with fail
        go_ret3
        exact ⟨rfl, bel_drewN hbl9 _⟩

end Go.Proofs.YtjckmnbpfmcadacDoor
