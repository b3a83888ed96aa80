/- MeanPlaces: the contracts of the program and of its model, and the walk. -/
import Derived.Test.YtjckmnbpfmcadaaDoorPat
namespace Go.Proofs.YtjckmnbpfmcadaaDoor
set_option linter.unusedSimpArgs false
open Go.ChangeShapes Go.WideShapes Go.ChangeAt Go.RowKit
set_option linter.unusedVariables false


/-- At how many tosses it can come. -/
def endsN (n : Int) (k : Nat) : Int := if 0 < n - k + 1 then n - k + 1 else 0
def ansPl (h o : Int) (s : ByteArray) (n : Int) : Value := if (coinG h o && patG s) && inB n 0 40 then lowV (endsN n s.size * prA h o s) (o ^ s.size) else failV
theorem ansPl_form (h o : Int) (s : ByteArray) (n : Int) : ∃ (x y : Int) (ok : Bool), ansPl h o s n = .tuple #[.int .i64 x, .int .i64 y, .bool ok] := if_form _ (lowV_form _ _) failV_form
theorem ends_in {n : Int} {k : Nat} (h1 : 1 ≤ k) (h2 : n ≤ 40) : 0 ≤ endsN n k ∧ endsN n k ≤ 40 := by
  unfold endsN; split <;> omega
theorem ends_mul {e x : Int} (h1 : 0 ≤ e) (h2 : e ≤ 40) (h3 : 1 ≤ x) (h4 : x ≤ 100000000) : 0 ≤ e * x ∧ e * x ≤ 4000000000 := by
  constructor
  · exact Int.mul_nonneg h1 (by omega)
  · have := Int.mul_le_mul h2 h4 (by omega) (by omega); omega
theorem l1Most_any (a b : Int) (w : World) :
    Calls Tryd.prog 50 #[.int .i64 a, .int .i64 b] w fun e w' => e = .returned (.int .i64 (if b < a then a else b)) ∧ w = w' := by
  by_cases h : b < a
  · rw [if_pos h]
    go_enter Tryd.func50, Tryd.ntmps50
    go_wp2
    go_ret
    exact ⟨rfl, rfl⟩
  · rw [if_neg h]
    go_enter Tryd.func50, Tryd.ntmps50
    go_wp2
    go_ret
    exact ⟨rfl, rfl⟩
theorem most_ends (n : Int) (k : Nat) : (if n - (k : Int) + 1 < 0 then 0 else n - (k : Int) + 1) = endsN n k := by
  unfold endsN; split <;> split <;> omega

set_option maxRecDepth 100000 in
set_option maxHeartbeats 3200000 in
theorem specPl_any (h o : Int) (s : ByteArray) (n : Int) (w : World) (hs : s.size ≤ maxLen) :
    Calls Tryd.prog 30 #[cn h o, .string s, .int .i64 n] w fun e w' => e = .returned (ansPl h o s n) ∧ Below w.heap.size w w' := by
  have bx0 := Lib.hid (Box2.new w (.int .i64 h) (.int .i64 o) 27)
  have bl0 : Below w.heap.size w (w.alloc (.cells #[.int .i64 h, .int .i64 o] 27)) := bel_alloc (Below.refl _ _) _
  cases h1 : (coinG h o && patG s)
  · rw [show ansPl h o s n = failV from by unfold ansPl; rw [h1]; rfl]
    unfold failV
    go_enter Tryd.func30, Tryd.ntmps30
    go_wp2_with fail
    refine (ptBoth_any h o s _ hs).mono ?_
    rintro e w1 ⟨rfl, hb1⟩
    rw [h1]
    have bx1 := Lib.hid (bx0.out.keep hb1)
    have bl1 := bel_trans bl0 hb1
    obtain ⟨c0_1, c1_1, hk1⟩ := bx1.out
    go_wp2_with fail
    go_ret3
    exact ⟨rfl, bl1⟩
  · cases h2 : inB n 0 40
    · rw [show ansPl h o s n = failV from by unfold ansPl; rw [h1, h2]; rfl]
      unfold failV
      go_enter Tryd.func30, Tryd.ntmps30
      go_wp2_with fail
      refine (ptBoth_any h o s _ hs).mono ?_
      rintro e w1 ⟨rfl, hb1⟩
      rw [h1]
      have bx1 := Lib.hid (bx0.out.keep hb1)
      have bl1 := bel_trans bl0 hb1
      obtain ⟨c0_1, c1_1, hk1⟩ := bx1.out
      go_wp2_with fail
      refine (l1In_any _ _ _ _).mono ?_
      rintro e w2 ⟨rfl, rfl⟩
      rw [h2]
      go_wp2_with fail
      go_ret3
      exact ⟨rfl, bl1⟩
    · rw [show ansPl h o s n = lowV (endsN n s.size * prA h o s) (o ^ s.size) from by unfold ansPl; rw [h1, h2]; rfl]
      unfold lowV
      obtain ⟨g1, g2, g3, g4⟩ := both_in h1
      obtain ⟨r1, r2, r3, r4⟩ := coin_in g1
      obtain ⟨p0, p1⟩ := prK_le8 g1 s s.size g3
      obtain ⟨q0, q1⟩ := pow_le8 o (by omega) r4 s.size g3
      change 1 ≤ prA h o s at p0
      change prA h o s ≤ _ at p1
      obtain ⟨n0, n4⟩ := (inB_iff _ _ _).1 h2
      obtain ⟨e0, e4⟩ := ends_in (n := n) g2 n4
      obtain ⟨m0, m4⟩ := ends_mul e0 e4 p0 p1
      go_enter Tryd.func30, Tryd.ntmps30
      go_wp2_with fail
      refine (ptBoth_any h o s _ hs).mono ?_
      rintro e w1 ⟨rfl, hb1⟩
      rw [h1]
      have bx1 := Lib.hid (bx0.out.keep hb1)
      have bl1 := bel_trans bl0 hb1
      obtain ⟨c0_1, c1_1, hk1⟩ := bx1.out
      go_wp2_with fail
      refine (l1In_any _ _ _ _).mono ?_
      rintro e w2 ⟨rfl, rfl⟩
      rw [h2]
      have He := Lib.hid (most_ends n s.size)
      go_wp2_with fail
      refine (ptChance_any h o s _ g1 g4 g3).mono ?_
      rintro e w3 ⟨rfl, hb3⟩
      have bx3 := Lib.hid (bx1.out.keep hb3)
      have bl3 := bel_trans bl1 hb3
      obtain ⟨c0_3, c1_3, hk3⟩ := bx3.out
      have hw1 : IntKind.i64.wrap (n - (s.size : Int)) = n - (s.size : Int) := IntWalk.i64_in _ (by omega)
      have hw2 : IntKind.i64.wrap (n - (s.size : Int) + 1) = n - (s.size : Int) + 1 := IntWalk.i64_in _ (by omega)
      have hw3 : IntKind.i64.wrap (prA h o s * endsN n s.size) = endsN n s.size * prA h o s := by rw [Int.mul_comm]; exact IntWalk.i64_in _ (by omega)
      go_wp2_with fail
      refine (l1Most_any _ _ _).mono ?_
      rintro e w4 ⟨rfl, rfl⟩
      rw [He.out]
      go_wp2_with fail
      refine (cnLow_any (endsN n s.size * prA h o s) (o ^ s.size) _ (by omega) (by omega) (by omega) (by omega)).mono ?_
      rintro e w5 ⟨rfl, n5, rfl⟩
      go_wp2_with fail
      go_ret3
      exact ⟨rfl, bel_drewN bl3 n5⟩

set_option maxRecDepth 100000 in
set_option maxHeartbeats 3200000 in
theorem implPl_any (h o : Int) (s : ByteArray) (n : Int) (w : World) (hs : s.size ≤ maxLen) :
    Calls Tryd.prog 31 #[cn h o, .string s, .int .i64 n] w fun e w' => e = .returned (ansPl h o s n) ∧ Below w.heap.size w w' := by
  have bx0 := Lib.hid (Box2.new w (.int .i64 h) (.int .i64 o) 27)
  have bl0 : Below w.heap.size w (w.alloc (.cells #[.int .i64 h, .int .i64 o] 27)) := bel_alloc (Below.refl _ _) _
  cases h1 : (coinG h o && patG s)
  · rw [show ansPl h o s n = failV from by unfold ansPl; rw [h1]; rfl]
    unfold failV
    go_enter Tryd.func31, Tryd.ntmps31
    go_wp2_with fail
    refine (isTossed_any h o s _ hs).mono ?_
    rintro e w1 ⟨rfl, hb1⟩
    rw [h1]
    have bx1 := Lib.hid (bx0.out.keep hb1)
    have bl1 := bel_trans bl0 hb1
    obtain ⟨c0_1, c1_1, hk1⟩ := bx1.out
    go_wp2_with fail
    go_ret3
    exact ⟨rfl, bl1⟩
  · cases h2 : inB n 0 40
    · rw [show ansPl h o s n = failV from by unfold ansPl; rw [h1, h2]; rfl]
      unfold failV
      have hn : ¬ (0 ≤ n ∧ n ≤ 40) := fun q => by rw [(inB_iff _ _ _).2 q] at h2; cases h2
      by_cases hn0 : n < 0
      · skip
        go_enter Tryd.func31, Tryd.ntmps31
        go_wp2_with fail
        refine (isTossed_any h o s _ hs).mono ?_
        rintro e w1 ⟨rfl, hb1⟩
        rw [h1]
        have bx1 := Lib.hid (bx0.out.keep hb1)
        have bl1 := bel_trans bl0 hb1
        obtain ⟨c0_1, c1_1, hk1⟩ := bx1.out
        go_wp2_with fail
        go_ret3
        exact ⟨rfl, bl1⟩
      · have hn4 : 40 < n := by omega
        go_enter Tryd.func31, Tryd.ntmps31
        go_wp2_with fail
        refine (isTossed_any h o s _ hs).mono ?_
        rintro e w1 ⟨rfl, hb1⟩
        rw [h1]
        have bx1 := Lib.hid (bx0.out.keep hb1)
        have bl1 := bel_trans bl0 hb1
        obtain ⟨c0_1, c1_1, hk1⟩ := bx1.out
        go_wp2_with fail
        go_ret3
        exact ⟨rfl, bl1⟩
    · rw [show ansPl h o s n = lowV (endsN n s.size * prA h o s) (o ^ s.size) from by unfold ansPl; rw [h1, h2]; rfl]
      unfold lowV
      obtain ⟨g1, g2, g3, g4⟩ := both_in h1
      obtain ⟨r1, r2, r3, r4⟩ := coin_in g1
      obtain ⟨p0, p1⟩ := prK_le8 g1 s s.size g3
      obtain ⟨q0, q1⟩ := pow_le8 o (by omega) r4 s.size g3
      change 1 ≤ prA h o s at p0
      change prA h o s ≤ _ at p1
      obtain ⟨n0, n4⟩ := (inB_iff _ _ _).1 h2
      obtain ⟨e0, e4⟩ := ends_in (n := n) g2 n4
      obtain ⟨m0, m4⟩ := ends_mul e0 e4 p0 p1
      go_enter Tryd.func31, Tryd.ntmps31
      go_wp2_with fail
      refine (isTossed_any h o s _ hs).mono ?_
      rintro e w1 ⟨rfl, hb1⟩
      rw [h1]
      have bx1 := Lib.hid (bx0.out.keep hb1)
      have bl1 := bel_trans bl0 hb1
      obtain ⟨c0_1, c1_1, hk1⟩ := bx1.out
      have hw2 : IntKind.i64.wrap (endsN n s.size * prA h o s) = endsN n s.size * prA h o s := IntWalk.i64_in _ (by omega)
      have hmx : max 0 (n - (s.size : Int) + 1) = endsN n s.size := by unfold endsN; split <;> omega
      have Hmx := Lib.hid hmx
      clear hmx
      have Hn := Lib.hid (show n = n from rfl)
      go_wp2_with fail
      rw [Hmx.out]
      go_region_held3 (fun w' => w'.cell? ⟨w.heap.size, 0, none⟩ = some (.int .i64 h) ∧ w'.cell? ⟨w.heap.size, 1, none⟩ = some (.int .i64 o) ∧ w.heap.size < w'.heap.size ∧ Below w.heap.size w w')
        (first | exact held2_start bx1.out bl1 | exact held2_keep (by assumption) hb3 | exact held2_drewN (by assumption) _ | assumption | go_keep)
        (first | (go_at_call 41; refine (part_any h o s _ g1 g3).mono ?_; rintro e w3 ⟨rfl, hb3⟩) | (go_at_call 42; refine (power_any o s.size _ (by omega) r4 (by omega)).mono ?_; rintro e w4 ⟨rfl, rfl⟩) | (go_at_call 40; refine (told_any (endsN n s.size * prA h o s) (o ^ s.size) _ (by omega) (by omega) (by omega) (by omega)).mono ?_; rintro e w5 ⟨rfl, n5, rfl⟩))
      all_goals
        obtain ⟨hbx9, hbl9⟩ := held2_below (by assumption)
        go_wp2
        go_ret3
        exact ⟨rfl, hbl9⟩

set_option maxHeartbeats 800000 in
theorem walkExactMeanPlaces (h o : Int) (s : ByteArray) (n : Int) (w : World) (ha : (Lit.int .i64 h).wf = true) (hb : (Lit.int .i64 o).wf = true) (hs : s.size ≤ maxLen) (hn : (Lit.int .i64 n).wf = true) :
    Calls Tryd.prog 10 #[cn h o, .string s, .int .i64 n] w fun e w' => e = .returned (.bool true) ∧ Below w.heap.size w w' := by
  clear ha hb
  clear hn
  by_cases zs : s.size ≤ 1048576
  · skip
    obtain ⟨x, y, ok, hv⟩ := ansPl_form h o s n
    have Hv := Lib.hid hv
    clear hv
    have bx0 := Lib.hid (Box2.new w (.int .i64 h) (.int .i64 o) 24)
    have bl0 : Below w.heap.size w (w.alloc (.cells #[.int .i64 h, .int .i64 o] 24)) := bel_alloc (Below.refl _ _) _
    go_enter Tryd.func10, Tryd.ntmps10
    go_wp2_with fail
    refine (toCoin_any _ _ _).mono ?_
    rintro e w1 ⟨rfl, hb1⟩
    have bx1 := Lib.hid (bx0.out.keep hb1)
    have bl1 := bel_trans bl0 hb1
    obtain ⟨c0_1, c1_1, hk1⟩ := bx1.out
    go_wp2_with fail
    refine (specPl_any h o s n _ hs).mono ?_
    rintro e w2 ⟨rfl, hb2⟩
    rw [Hv.out]
    have bx2 := Lib.hid (bx1.out.keep hb2)
    have bl2 := bel_trans bl1 hb2
    obtain ⟨c0_2, c1_2, hk2⟩ := bx2.out
    go_wp2_with fail
    refine (toCoin_any _ _ _).mono ?_
    rintro e w3 ⟨rfl, hb3⟩
    have bx3 := Lib.hid (bx2.out.keep hb3)
    have bl3 := bel_trans bl2 hb3
    obtain ⟨c0_3, c1_3, hk3⟩ := bx3.out
    go_wp2_with fail
    refine (implPl_any h o s n _ hs).mono ?_
    rintro e w4 ⟨rfl, hb4⟩
    rw [Hv.out]
    have bx4 := Lib.hid (bx3.out.keep hb4)
    have bl4 := bel_trans bl3 hb4
    obtain ⟨c0_4, c1_4, hk4⟩ := bx4.out
    go_wp2_with fail
    go_ret
    exact ⟨rfl, bl4⟩
  · go_enter Tryd.func10, Tryd.ntmps10
    go_wp2
    go_ret
    exact ⟨rfl, bel_alloc (Below.refl _ _) _⟩

end Go.Proofs.YtjckmnbpfmcadaaDoor
