/- CountWithout and CountFirstAt: the contracts of the program and of its model, and the walks. -/
import Derived.Test.YtjckmnbpfmcadacDoorPtPres
namespace Go.Proofs.YtjckmnbpfmcadacDoor
set_option linter.unusedSimpArgs false
open Go.ChangeShapes Go.WideShapes Go.ChangeAt Go.RowKit
set_option linter.unusedVariables false

set_option maxRecDepth 100000 in
set_option maxHeartbeats 3200000 in
theorem ptWithout_any (p : ByteArray) (t : Nat) (w : World) (h1 : 1 ≤ p.size) (h8 : p.size ≤ 8) (ht : t ≤ 40) :
    Calls Tryd.prog 36 #[.string p, .int .i64 t] w fun e w' => e = .returned (.int .i64 (sumJ (cntS p t) p.size)) ∧ Below w.heap.size w w' := by
  go_enter Tryd.func36, Tryd.ntmps36
  go_wp2_with fail
  refine (ptCounts_any p t _ h1 h8 ht).mono ?_
  rintro e w1 ⟨v, rfl, r1, b1⟩
  rcases r1.form with ⟨hx, _⟩ | ⟨hx, g, cap, rfl, hbg, hgl, hlc, hcm⟩
  · have := rowF_len p.size (cntS p t)
    rw [hx] at this; simp at this
  · rw [rowF_len] at hlc
    have hr1 := r1
    rw [rowF_len] at hr1 ⊢
    unfold maxLen at hcm
    have R1 := Lib.hid hr1
    have hsum := Lib.hid (cntS_sum p t ht)
    have hnn := Lib.hid (cntS_nonneg p t)
    have B1 := Lib.hid b1
    clear r1 hr1 b1 hx
    generalize hfe : cntS p t = f at *
    have Hfe := Lib.hid hfe
    clear hfe
    go_wp2_with fail
    go_loop [5, 15] (fun x i => ∃ k : Nat, k ≤ p.size ∧ i = .int .i64 k ∧ x = .int .i64 (sumJ f k)) (fun _ i => p.size - (intOf i).toNat)
    case atStart => exact ⟨0, by omega, rfl, rfl⟩
    case round =>
      obtain ⟨k, hk, rfl, rfl⟩ := hrel
      by_cases hlt : k < p.size
      · obtain ⟨c0, f0⟩ := rowF_cell R1.out k (by omega)
        have hs : Hid (sumJ f (k + 1) = sumJ f k + f k) := rfl
        have h0 := sumJ_nonneg (g := f) k (fun i _ => hnn.out i)
        have hfk := hnn.out k
        have hle : sumJ f k + f k ≤ 1099511627776 := by
          have hmono : ∀ m, k + 1 ≤ m → m ≤ p.size → sumJ f (k + 1) ≤ sumJ f m := by
            intro m
            induction m with
            | zero => intro h _; omega
            | succ m ih =>
              intro h h'
              by_cases e : k + 1 = m + 1
              · rw [e]; exact Int.le_refl _
              · have := ih (by omega) (by omega)
                have := hnn.out m
                show sumJ f (k + 1) ≤ sumJ f m + f m
                omega
          have h3 := hmono p.size (by omega) (Nat.le_refl _)
          have h4 := hsum.out
          rw [hs.out] at h3
          omega
        generalize sumJ f k = S at *
        generalize f k = y at *
        go_wp2_with fail
        exact ⟨⟨k + 1, by omega, by go_num, by rw [hs.out]⟩, by simp [intOf]; omega⟩
      · obtain rfl : k = p.size := by omega
        go_wp2_with fail
        go_ret
        exact ⟨by rw [← Hfe.out]; rfl, B1.out⟩

def pairV (x : Int) : Value := .tuple #[.int .i64 x, .bool true]
def noV : Value := .tuple #[.int .i64 0, .bool false]
def ansCW (p : ByteArray) (n : Int) : Value := if patG p && inB n 0 40 then pairV (sumJ (cntS p n.toNat) p.size) else noV
def ansCF (p : ByteArray) (n : Int) : Value := if patG p && inB n 1 40 then pairV (cntS p n.toNat p.size) else noV
theorem pair_form (c : Bool) (x : Int) : ∃ (y : Int) (ok : Bool), (if c then pairV x else noV) = .tuple #[.int .i64 y, .bool ok] := by
  cases c
  · exact ⟨0, false, rfl⟩
  · exact ⟨x, true, rfl⟩
theorem tossS_any (p : ByteArray) (v : Value) (base t : Nat) (w : World) (hR : SRow w base v [p]) (h1 : 1 ≤ p.size) (h8 : p.size ≤ 8) (ht : t ≤ 40) :
    Calls Tryd.prog 38 #[v, .int .i64 1, .int .i64 1, .int .i64 t] w fun e w' => ∃ v', e = .returned (.tuple #[.int .i64 (sumJ (cntS p t) p.size), v']) ∧ IRow w' w.heap.size v' (rowF 0 (fun k => cntS p t (p.size + k))) ∧ Below w.heap.size w w' :=
  tossP_any p v base 1 1 t w hR h1 h8 ht (by omega) (by omega) (by omega) (by omega) (fun s hs => Int.le_trans (two_le s (by omega)) (by omega))

set_option maxRecDepth 100000 in
set_option maxHeartbeats 3200000 in
theorem specCountWithout_any (p : ByteArray) (n : Int) (w : World) (hp : p.size ≤ maxLen) :
    Calls Tryd.prog 12 #[.string p, .int .i64 n] w fun e w' => e = .returned (ansCW p n) ∧ Below w.heap.size w w' := by
  cases h1 : patG p
  · rw [show ansCW p n = noV from by unfold ansCW; rw [h1]; rfl]
    unfold noV
    go_enter Tryd.func12, Tryd.ntmps12
    go_wp2_with fail
    refine (ptGood_any p _ hp).mono ?_
    rintro e w1 ⟨rfl, rfl⟩
    rw [h1]
    go_wp2_with fail
    go_ret2
    exact ⟨rfl, Below.refl _ _⟩
  · cases h2 : inB n 0 40
    · rw [show ansCW p n = noV from by unfold ansCW; rw [h1, h2]; rfl]
      unfold noV
      go_enter Tryd.func12, Tryd.ntmps12
      go_wp2_with fail
      refine (ptGood_any p _ hp).mono ?_
      rintro e w1 ⟨rfl, rfl⟩
      rw [h1]
      go_wp2_with fail
      refine (l1In_any _ _ _ _).mono ?_
      rintro e w2 ⟨rfl, rfl⟩
      rw [h2]
      go_wp2_with fail
      go_ret2
      exact ⟨rfl, Below.refl _ _⟩
    · obtain ⟨n0, n4⟩ := (inB_iff _ _ _).1 h2
      obtain ⟨t, rfl⟩ := Int.eq_ofNat_of_zero_le (show 0 ≤ n by omega)
      rw [show ansCW p (t : Int) = pairV (sumJ (cntS p t) p.size) from by unfold ansCW; rw [h1, h2]; rfl]
      unfold pairV
      obtain ⟨p1, p2, p3⟩ := pat_in h1
      have Hp3 := Lib.hid p3
      clear p3
      go_enter Tryd.func12, Tryd.ntmps12
      go_wp2_with fail
      refine (ptGood_any p _ hp).mono ?_
      rintro e w1 ⟨rfl, rfl⟩
      rw [h1]
      go_wp2_with fail
      refine (l1In_any _ _ _ _).mono ?_
      rintro e w2 ⟨rfl, rfl⟩
      rw [h2]
      go_wp2_with fail
      refine (ptWithout_any p t _ p1 p2 (by omega)).mono ?_
      rintro e w3 ⟨rfl, b3⟩
      go_wp2_with fail
      go_ret2
      exact ⟨rfl, b3⟩

set_option maxRecDepth 100000 in
set_option maxHeartbeats 3200000 in
theorem implCountWithout_any (p : ByteArray) (n : Int) (w : World) (hp : p.size ≤ maxLen) :
    Calls Tryd.prog 13 #[.string p, .int .i64 n] w fun e w' => e = .returned (ansCW p n) ∧ Below w.heap.size w w' := by
  cases h1 : patG p
  · rw [show ansCW p n = noV from by unfold ansCW; rw [h1]; rfl]
    unfold noV
    go_enter Tryd.func13, Tryd.ntmps13
    go_wp2_with fail
    refine (implIsPattern_any p _ hp).mono ?_
    rintro e w1 ⟨rfl, b1⟩
    rw [h1]
    go_wp2_with fail
    go_ret2
    exact ⟨rfl, b1⟩
  · cases h2 : inB n 0 40
    · rw [show ansCW p n = noV from by unfold ansCW; rw [h1, h2]; rfl]
      unfold noV
      have hn : ¬ (0 ≤ n ∧ n ≤ 40) := fun q => by rw [(inB_iff _ _ _).2 q] at h2; cases h2
      by_cases hn0 : n < 0
      · skip
        go_enter Tryd.func13, Tryd.ntmps13
        go_wp2_with fail
        refine (implIsPattern_any p _ hp).mono ?_
        rintro e w1 ⟨rfl, b1⟩
        rw [h1]
        go_wp2_with fail
        go_ret2
        exact ⟨rfl, b1⟩
      · have hn4 : 40 < n := by omega
        go_enter Tryd.func13, Tryd.ntmps13
        go_wp2_with fail
        refine (implIsPattern_any p _ hp).mono ?_
        rintro e w1 ⟨rfl, b1⟩
        rw [h1]
        go_wp2_with fail
        all_goals
          go_ret2
          exact ⟨rfl, b1⟩
    · obtain ⟨n0, n4⟩ := (inB_iff _ _ _).1 h2
      obtain ⟨t, rfl⟩ := Int.eq_ofNat_of_zero_le (show 0 ≤ n by omega)
      rw [show ansCW p (t : Int) = pairV (sumJ (cntS p t) p.size) from by unfold ansCW; rw [h1, h2]; rfl]
      unfold pairV
      obtain ⟨p1, p2, p3⟩ := pat_in h1
      have Hp3 := Lib.hid p3
      clear p3
      have hq1 : ¬ (t : Int) < 0 := by omega
      have hq2 : ¬ 40 < (t : Int) := by omega
      go_enter Tryd.func13, Tryd.ntmps13
      go_wp2_with fail
      refine (implIsPattern_any p _ hp).mono ?_
      rintro e w1 ⟨rfl, b1⟩
      rw [h1]
      go_wp2_with fail
      all_goals first
        | (exfalso; omega)
        | (have hR1 := SRow.lit1 w1 p
           have bl1 := bel_alloc b1 (.cells #[.string p] 9)
           refine (tossS_any p _ _ t _ hR1 p1 p2 (by omega)).mono ?_
           rintro e w3 ⟨v3, rfl, r3, b3⟩
           go_wp2_with fail
           go_ret2
           exact ⟨rfl, bel_trans bl1 b3⟩)

set_option maxHeartbeats 1600000 in
theorem walkExactCountWithout (p : ByteArray) (n : Int) (w : World) (hs : p.size ≤ maxLen) (hn : (Lit.int .i64 n).wf = true) :
    Calls Tryd.prog 3 #[.string p, .int .i64 n] w fun e w' => e = .returned (.bool true) ∧ Below w.heap.size w w' := by
  clear hn
  by_cases z : p.size ≤ 1048576
  · obtain ⟨x, ok, hv⟩ : ∃ (x : Int) (ok : Bool), ansCW p n = .tuple #[.int .i64 x, .bool ok] := pair_form _ _
    have Hv := Lib.hid hv
    clear hv
    go_enter Tryd.func3, Tryd.ntmps3
    go_wp2_with fail
    refine (specCountWithout_any p n _ hs).mono ?_
    rw [Hv.out]
    rintro e w1 ⟨rfl, b1⟩
    go_wp2_with fail
    refine (implCountWithout_any p n _ hs).mono ?_
    rw [Hv.out]
    rintro e w2 ⟨rfl, b2⟩
    go_wp2_with fail
    go_ret
    exact ⟨rfl, bel_trans b1 b2⟩
  · go_enter Tryd.func3, Tryd.ntmps3
    go_wp2
    go_ret
    exact ⟨rfl, Below.refl _ _⟩

set_option maxRecDepth 100000 in
set_option maxHeartbeats 3200000 in
theorem specCountFirstAt_any (p : ByteArray) (n : Int) (w : World) (hp : p.size ≤ maxLen) :
    Calls Tryd.prog 14 #[.string p, .int .i64 n] w fun e w' => e = .returned (ansCF p n) ∧ Below w.heap.size w w' := by
  cases h1 : patG p
  · rw [show ansCF p n = noV from by unfold ansCF; rw [h1]; rfl]
    unfold noV
    go_enter Tryd.func14, Tryd.ntmps14
    go_wp2_with fail
    refine (ptGood_any p _ hp).mono ?_
    rintro e w1 ⟨rfl, rfl⟩
    rw [h1]
    go_wp2_with fail
    go_ret2
    exact ⟨rfl, Below.refl _ _⟩
  · cases h2 : inB n 1 40
    · rw [show ansCF p n = noV from by unfold ansCF; rw [h1, h2]; rfl]
      unfold noV
      go_enter Tryd.func14, Tryd.ntmps14
      go_wp2_with fail
      refine (ptGood_any p _ hp).mono ?_
      rintro e w1 ⟨rfl, rfl⟩
      rw [h1]
      go_wp2_with fail
      refine (l1In_any _ _ _ _).mono ?_
      rintro e w2 ⟨rfl, rfl⟩
      rw [h2]
      go_wp2_with fail
      go_ret2
      exact ⟨rfl, Below.refl _ _⟩
    · obtain ⟨n0, n4⟩ := (inB_iff _ _ _).1 h2
      obtain ⟨t, rfl⟩ := Int.eq_ofNat_of_zero_le (show 0 ≤ n by omega)
      rw [show ansCF p (t : Int) = pairV (cntS p t p.size) from by unfold ansCF; rw [h1, h2]; rfl]
      unfold pairV
      obtain ⟨p1, p2, p3⟩ := pat_in h1
      have Hp3 := Lib.hid p3
      clear p3
      go_enter Tryd.func14, Tryd.ntmps14
      go_wp2_with fail
      refine (ptGood_any p _ hp).mono ?_
      rintro e w1 ⟨rfl, rfl⟩
      rw [h1]
      go_wp2_with fail
      refine (l1In_any _ _ _ _).mono ?_
      rintro e w2 ⟨rfl, rfl⟩
      rw [h2]
      go_wp2_with fail
      refine (ptCounts_any p t _ p1 p2 (by omega)).mono ?_
      rintro e w3 ⟨v, rfl, r3, b3⟩
      rcases r3.form with ⟨hx, _⟩ | ⟨hx, g, cap, rfl, hbg, hgl, hlc, hcm⟩
      · have := rowF_len p.size (cntS p t)
        rw [hx] at this; simp at this
      · have hr3 := r3
        rw [rowF_len] at hr3 ⊢
        obtain ⟨c0, f0⟩ := rowF_cell hr3 p.size (Nat.le_refl _)
        clear r3 hr3 hx
        have hlt : (p.size : Int) < (p.size : Int) + 1 := by omega
        go_wp2_with fail
        go_ret2
        exact ⟨rfl, b3⟩

set_option maxRecDepth 100000 in
set_option maxHeartbeats 3200000 in
theorem implCountFirstAt_any (p : ByteArray) (n : Int) (w : World) (hp : p.size ≤ maxLen) :
    Calls Tryd.prog 15 #[.string p, .int .i64 n] w fun e w' => e = .returned (ansCF p n) ∧ Below w.heap.size w w' := by
  cases h1 : patG p
  · rw [show ansCF p n = noV from by unfold ansCF; rw [h1]; rfl]
    unfold noV
    go_enter Tryd.func15, Tryd.ntmps15
    go_wp2_with fail
    refine (implIsPattern_any p _ hp).mono ?_
    rintro e w1 ⟨rfl, b1⟩
    rw [h1]
    go_wp2_with fail
    go_ret2
    exact ⟨rfl, b1⟩
  · cases h2 : inB n 1 40
    · rw [show ansCF p n = noV from by unfold ansCF; rw [h1, h2]; rfl]
      unfold noV
      have hn : ¬ (1 ≤ n ∧ n ≤ 40) := fun q => by rw [(inB_iff _ _ _).2 q] at h2; cases h2
      by_cases hn0 : n < 1
      · skip
        go_enter Tryd.func15, Tryd.ntmps15
        go_wp2_with fail
        refine (implIsPattern_any p _ hp).mono ?_
        rintro e w1 ⟨rfl, b1⟩
        rw [h1]
        go_wp2_with fail
        go_ret2
        exact ⟨rfl, b1⟩
      · have hn4 : 40 < n := by omega
        go_enter Tryd.func15, Tryd.ntmps15
        go_wp2_with fail
        refine (implIsPattern_any p _ hp).mono ?_
        rintro e w1 ⟨rfl, b1⟩
        rw [h1]
        go_wp2_with fail
        all_goals
          go_ret2
          exact ⟨rfl, b1⟩
    · obtain ⟨n0, n4⟩ := (inB_iff _ _ _).1 h2
      obtain ⟨t, rfl⟩ := Int.eq_ofNat_of_zero_le (show 0 ≤ n by omega)
      rw [show ansCF p (t : Int) = pairV (cntS p t p.size) from by unfold ansCF; rw [h1, h2]; rfl]
      unfold pairV
      obtain ⟨p1, p2, p3⟩ := pat_in h1
      have Hp3 := Lib.hid p3
      clear p3
      have hq1 : ¬ (t : Int) < 1 := by omega
      have hq2 : ¬ 40 < (t : Int) := by omega
      go_enter Tryd.func15, Tryd.ntmps15
      go_wp2_with fail
      refine (implIsPattern_any p _ hp).mono ?_
      rintro e w1 ⟨rfl, b1⟩
      rw [h1]
      go_wp2_with fail
      all_goals first
        | (exfalso; omega)
        | (have hR1 := SRow.lit1 w1 p
           have bl1 := bel_alloc b1 (.cells #[.string p] 9)
           refine (tossS_any p _ _ t _ hR1 p1 p2 (by omega)).mono ?_
           rintro e w3 ⟨v3, rfl, r3, b3⟩
           rcases r3.form with ⟨hx, _⟩ | ⟨hx, g, cap, rfl, hbg, hgl, hlc, hcm⟩
           · have := rowF_len 0 (fun k => cntS p t (p.size + k))
             rw [hx] at this; simp at this
           · have hr3 := r3
             rw [rowF_len] at hr3
             obtain ⟨c0, f0⟩ := rowF_cell hr3 0 (Nat.le_refl _)
             rw [Nat.add_zero] at c0
             rw [rowF_len]
             clear r3 hr3 hx
             go_wp2_with fail
             go_ret2
             exact ⟨rfl, bel_trans bl1 b3⟩)

set_option maxHeartbeats 1600000 in
theorem walkExactCountFirstAt (p : ByteArray) (n : Int) (w : World) (hs : p.size ≤ maxLen) (hn : (Lit.int .i64 n).wf = true) :
    Calls Tryd.prog 4 #[.string p, .int .i64 n] w fun e w' => e = .returned (.bool true) ∧ Below w.heap.size w w' := by
  clear hn
  by_cases z : p.size ≤ 1048576
  · obtain ⟨x, ok, hv⟩ : ∃ (x : Int) (ok : Bool), ansCF p n = .tuple #[.int .i64 x, .bool ok] := pair_form _ _
    have Hv := Lib.hid hv
    clear hv
    go_enter Tryd.func4, Tryd.ntmps4
    go_wp2_with fail
    refine (specCountFirstAt_any p n _ hs).mono ?_
    rw [Hv.out]
    rintro e w1 ⟨rfl, b1⟩
    go_wp2_with fail
    refine (implCountFirstAt_any p n _ hs).mono ?_
    rw [Hv.out]
    rintro e w2 ⟨rfl, b2⟩
    go_wp2_with fail
    go_ret
    exact ⟨rfl, bel_trans b1 b2⟩
  · go_enter Tryd.func4, Tryd.ntmps4
    go_wp2
    go_ret
    exact ⟨rfl, Below.refl _ _⟩
end Go.Proofs.YtjckmnbpfmcadacDoor
