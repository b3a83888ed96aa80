/- CountManyWonAt, CountManyOpen: the contracts of the program and of its model. -/
import Derived.Test.YtjckmnbpfmcadacDoorRaCnt
import Derived.Test.YtjckmnbpfmcadacDoorMany
import Derived.Test.YtjckmnbpfmcadacDoorCw
namespace Go.Proofs.YtjckmnbpfmcadacDoor
set_option linter.unusedSimpArgs false
open Go.ChangeShapes Go.WideShapes Go.ChangeAt Go.RowKit
set_option linter.unusedVariables false

theorem rowO_len (n : Nat) (f : Nat → Int) (o : Int) : (rowF n f ++ [o]).length = n + 1 + 1 := by simp [rowF_len]
theorem rowO_at (n : Nat) (f : Nat → Int) (o : Int) (k : Nat) (h : k ≤ n) : (rowF n f ++ [o]).getD k 0 = f k := by
  rw [List.getD_eq_getElem?_getD, List.getElem?_append_left (by rw [rowF_len]; omega), ← List.getD_eq_getElem?_getD, rowF_at _ _ _ h]
theorem rowO_last (n : Nat) (f : Nat → Int) (o : Int) : (rowF n f ++ [o]).getD (n + 1) 0 = o := by
  rw [List.getD_eq_getElem?_getD, List.getElem?_append_right (by rw [rowF_len]; omega), rowF_len]
  simp
theorem raCountM_any (xs : List ByteArray) (v : Value) (t base N1 : Nat) (w : World) (hR : SRow w base v xs) (hm : manyG xs = true) (hN : xs.length = N1 + 1) (ht : t ≤ 30) :
    Calls Tryd.prog 49 #[v, .int .i64 t] w (RowOne (rowF N1 (wonR xs t) ++ [opnR xs t]) w) := by
  obtain ⟨x2, x4, hok⟩ := many_in hm
  have hsz := ok_size hok
  have hp := pats_many hm
  obtain ⟨P, h5⟩ := hp
  have h1 := P.low
  generalize hL : (xs.getD 0 noS).size = L at *
  have hpos : 1 ≤ 2 ^ L := Nat.pow_pos (by omega)
  have hle : 2 ^ L ≤ 2 ^ 5 := Nat.pow_le_pow_right (by omega) h5
  obtain ⟨Z1, hZ⟩ : ∃ z, 2 * 2 ^ L = z + 1 := ⟨2 * 2 ^ L - 1, by omega⟩
  have h := raCount_any xs v t base L Z1 N1 (2 ^ L) w hR h5 hsz rfl hZ hpos (by omega) hN (by omega) ht
  have e1 : cntR xs t = cntM (fun i => mvM (lsM xs) L (2 * i + 1)) (fun i => mvM (lsM xs) L (2 * i)) (Z1 + 1) 1 t := by
    unfold cntR
    rw [hL, hZ]
    rfl
  have e2 : (fun k => cntM (fun i => mvM (lsM xs) L (2 * i + 1)) (fun i => mvM (lsM xs) L (2 * i)) (Z1 + 1) 1 t (Z1 + 1 + k)) = wonR xs t := by
    funext k
    unfold wonR
    rw [hL, hZ, e1]
  have e3 : sumJ (cntM (fun i => mvM (lsM xs) L (2 * i + 1)) (fun i => mvM (lsM xs) L (2 * i)) (Z1 + 1) 1 t) (Z1 + 1) = opnR xs t := by
    unfold opnR
    rw [hL, hZ, e1]
  rw [e2, e3] at h
  exact h
theorem raTosses_any (n : Int) (w : World) : Calls Tryd.prog 48 #[.int .i64 n] w fun e w' => e = .returned (.bool (inB n 0 30)) ∧ w = w' := by
  go_enter Tryd.func48, Tryd.ntmps48
  go_wp2_with fail
  refine (l1In_any _ _ _ _).mono ?_
  rintro e w2 ⟨rfl, rfl⟩
  go_wp2_with fail
  go_ret
  exact ⟨rfl, rfl⟩
theorem raceLong_any (n : Int) (w : World) : Calls Tryd.prog 51 #[.int .i64 n] w fun e w' => e = .returned (.bool (inB n 0 30)) ∧ w = w' := by
  cases h : inB n 0 30
  · have hn : ¬ (0 ≤ n ∧ n ≤ 30) := fun q => by rw [(inB_iff _ _ _).2 q] at h; cases h
    by_cases h0 : 0 ≤ n
    · have h3 : ¬ n ≤ 30 := by omega
      go_enter Tryd.func51, Tryd.ntmps51
      go_wp2_with fail
      go_ret
      exact ⟨by simp [h0, h3], rfl⟩
    · go_enter Tryd.func51, Tryd.ntmps51
      go_wp2_with fail
      go_ret
      exact ⟨by simp [h0], rfl⟩
  · obtain ⟨h0, h3⟩ := (inB_iff _ _ _).1 h
    go_enter Tryd.func51, Tryd.ntmps51
    go_wp2_with fail
    go_ret
    exact ⟨by simp [h0, h3], rfl⟩
def ansMO (xs : List ByteArray) (n : Int) : Value := if manyG xs && inB n 0 30 then pairV (opnR xs n.toNat) else noV
def ansMW (xs : List ByteArray) (k n : Int) : Value := if manyG xs && (inB k 0 ((xs.length : Int) - 1) && inB n 0 30) then pairV (wonR xs n.toNat k.toNat) else noV

set_option maxRecDepth 100000 in
set_option maxHeartbeats 3200000 in
theorem specMO_any (xs : List ByteArray) (v : Value) (base : Nat) (n : Int) (w : World) (hR : SRow w base v xs) (hs : ∀ x ∈ xs, x.size ≤ maxLen) :
    Calls Tryd.prog 28 #[v, .int .i64 n] w fun e w' => e = .returned (ansMO xs n) ∧ Below w.heap.size w w' := by
  obtain ⟨A, cap, rfl, hA⟩ := sl_formR hR
  have HR := Lib.hid hR
  have HS := Lib.hid hs
  clear hR hs hA
  cases h1 : manyG xs
  · rw [show ansMO xs n = noV from by unfold ansMO; rw [h1]; rfl]
    unfold noV
    go_enter Tryd.func28, Tryd.ntmps28
    go_wp2_with fail
    refine (specMany_any xs _ _ _ HR.out HS.out).mono ?_
    rintro e w1 ⟨rfl, n1, rfl⟩
    rw [h1]
    go_wp2_with fail
    go_ret2
    exact ⟨rfl, bel_drewN (Below.refl _ _) n1⟩
  · cases h2 : inB n 0 30
    · rw [show ansMO xs n = noV from by unfold ansMO; rw [h1, h2]; rfl]
      unfold noV
      go_enter Tryd.func28, Tryd.ntmps28
      go_wp2_with fail
      refine (specMany_any xs _ _ _ HR.out HS.out).mono ?_
      rintro e w1 ⟨rfl, n1, rfl⟩
      rw [h1]
      go_wp2_with fail
      refine (raTosses_any _ _).mono ?_
      rintro e w2 ⟨rfl, rfl⟩
      rw [h2]
      go_wp2_with fail
      go_ret2
      exact ⟨rfl, bel_drewN (Below.refl _ _) n1⟩
    · obtain ⟨n0, n4⟩ := (inB_iff _ _ _).1 h2
      obtain ⟨t, rfl⟩ := Int.eq_ofNat_of_zero_le (show 0 ≤ n by omega)
      rw [show ansMO xs (t : Int) = pairV (opnR xs t) from by unfold ansMO; rw [h1, h2]; rfl]
      unfold pairV
      obtain ⟨x2, x4, _⟩ := many_in h1
      obtain ⟨N1, hN⟩ : ∃ m, xs.length = m + 1 := ⟨xs.length - 1, by omega⟩
      have HN := Lib.hid hN
      rw [hN]
      clear hN
      have HR2 := HR.out
      rw [HN.out] at HR2
      have HR3 := Lib.hid HR2
      clear HR2
      go_enter Tryd.func28, Tryd.ntmps28
      go_wp2_with fail
      refine (specMany_any xs _ _ _ HR3.out HS.out).mono ?_
      rintro e w1 ⟨rfl, n1, rfl⟩
      rw [h1]
      go_wp2_with fail
      refine (raTosses_any _ _).mono ?_
      rintro e w2 ⟨rfl, rfl⟩
      rw [h2]
      go_wp2_with fail
      refine (raCountM_any xs _ t _ N1 _ (HR3.out.drewN n1) h1 HN.out (by omega)).mono ?_
      rintro e w3 ⟨v, rfl, r3, b3⟩
      rcases r3.form with ⟨hx, _⟩ | ⟨hx, g, cap2, rfl, hbg, hgl, hlc, hcm⟩
      · have := rowO_len N1 (wonR xs t) (opnR xs t)
        rw [hx] at this; simp at this
      · have c0 := r3.at_ (N1 + 1) (by rw [rowO_len]; omega)
        rw [rowO_last] at c0
        rw [rowO_len]
        have hlt : (N1 : Int) + 1 < (N1 : Int) + 1 + 1 := by omega
        clear r3 hx hlc
        go_wp2_with fail
        go_ret2
        exact ⟨rfl, bel_trans (bel_drewN (Below.refl _ _) n1) b3⟩

set_option maxRecDepth 100000 in
set_option maxHeartbeats 3200000 in
theorem implMO_any (xs : List ByteArray) (v : Value) (base : Nat) (n : Int) (w : World) (hR : SRow w base v xs) (hs : ∀ x ∈ xs, x.size ≤ maxLen) :
    Calls Tryd.prog 29 #[v, .int .i64 n] w fun e w' => e = .returned (ansMO xs n) ∧ Below w.heap.size w w' := by
  obtain ⟨A, cap, rfl, hA⟩ := sl_formR hR
  have HR := Lib.hid hR
  have HS := Lib.hid hs
  clear hR hs hA
  cases h1 : manyG xs
  · rw [show ansMO xs n = noV from by unfold ansMO; rw [h1]; rfl]
    unfold noV
    go_enter Tryd.func29, Tryd.ntmps29
    go_wp2_with fail
    refine (implMany_any xs _ _ _ HR.out HS.out).mono ?_
    rintro e w1 ⟨rfl, b1⟩
    rw [h1]
    go_wp2_with fail
    go_ret2
    exact ⟨rfl, b1⟩
  · cases h2 : inB n 0 30
    · rw [show ansMO xs n = noV from by unfold ansMO; rw [h1, h2]; rfl]
      unfold noV
      go_enter Tryd.func29, Tryd.ntmps29
      go_wp2_with fail
      refine (implMany_any xs _ _ _ HR.out HS.out).mono ?_
      rintro e w1 ⟨rfl, b1⟩
      rw [h1]
      go_wp2_with fail
      refine (raceLong_any _ _).mono ?_
      rintro e w2 ⟨rfl, rfl⟩
      rw [h2]
      go_wp2_with fail
      go_ret2
      exact ⟨rfl, b1⟩
    · obtain ⟨n0, n4⟩ := (inB_iff _ _ _).1 h2
      obtain ⟨t, rfl⟩ := Int.eq_ofNat_of_zero_le (show 0 ≤ n by omega)
      rw [show ansMO xs (t : Int) = pairV (opnR xs t) from by unfold ansMO; rw [h1, h2]; rfl]
      unfold pairV
      go_enter Tryd.func29, Tryd.ntmps29
      go_wp2_with fail
      refine (implMany_any xs _ _ _ HR.out HS.out).mono ?_
      rintro e w1 ⟨rfl, b1⟩
      rw [h1]
      go_wp2_with fail
      refine (raceLong_any _ _).mono ?_
      rintro e w2 ⟨rfl, rfl⟩
      rw [h2]
      go_wp2_with fail
      refine (tossMany_any xs _ t base _ (HR.out.below b1) h1 (by omega)).mono ?_
      rintro e w3 ⟨v3, rfl, r3, b3⟩
      clear r3
      go_wp2_with fail
      go_ret2
      exact ⟨rfl, bel_trans b1 b3⟩

set_option maxRecDepth 100000 in
set_option maxHeartbeats 3200000 in
theorem specMW_any (xs : List ByteArray) (v : Value) (base : Nat) (k n : Int) (w : World) (hR : SRow w base v xs) (hs : ∀ x ∈ xs, x.size ≤ maxLen) :
    Calls Tryd.prog 24 #[v, .int .i64 k, .int .i64 n] w fun e w' => e = .returned (ansMW xs k n) ∧ Below w.heap.size w w' := by
  obtain ⟨A, cap, rfl, hA⟩ := sl_formR hR
  have HR := Lib.hid hR
  have HS := Lib.hid hs
  clear hR hs hA
  cases h1 : manyG xs
  · rw [show ansMW xs k n = noV from by unfold ansMW; rw [h1]; rfl]
    unfold noV
    go_enter Tryd.func24, Tryd.ntmps24
    go_wp2_with fail
    refine (specMany_any xs _ _ _ HR.out HS.out).mono ?_
    rintro e w1 ⟨rfl, n1, rfl⟩
    rw [h1]
    go_wp2_with fail
    go_ret2
    exact ⟨rfl, bel_drewN (Below.refl _ _) n1⟩
  · obtain ⟨x2, x4, _⟩ := many_in h1
    cases h3 : inB k 0 ((xs.length : Int) - 1)
    · rw [show ansMW xs k n = noV from by unfold ansMW; rw [h1, h3]; rfl]
      unfold noV
      go_enter Tryd.func24, Tryd.ntmps24
      go_wp2_with fail
      refine (specMany_any xs _ _ _ HR.out HS.out).mono ?_
      rintro e w1 ⟨rfl, n1, rfl⟩
      rw [h1]
      go_wp2_with fail
      refine (l1In_any _ _ _ _).mono ?_
      rintro e w2 ⟨rfl, rfl⟩
      rw [h3]
      go_wp2_with fail
      go_ret2
      exact ⟨rfl, bel_drewN (Below.refl _ _) n1⟩
    · cases h2 : inB n 0 30
      · rw [show ansMW xs k n = noV from by unfold ansMW; rw [h1, h2, h3]; rfl]
        unfold noV
        go_enter Tryd.func24, Tryd.ntmps24
        go_wp2_with fail
        refine (specMany_any xs _ _ _ HR.out HS.out).mono ?_
        rintro e w1 ⟨rfl, n1, rfl⟩
        rw [h1]
        go_wp2_with fail
        refine (l1In_any _ _ _ _).mono ?_
        rintro e w2 ⟨rfl, rfl⟩
        rw [h3]
        go_wp2_with fail
        refine (raTosses_any _ _).mono ?_
        rintro e w2 ⟨rfl, rfl⟩
        rw [h2]
        go_wp2_with fail
        go_ret2
        exact ⟨rfl, bel_drewN (Below.refl _ _) n1⟩
      · obtain ⟨n0, n4⟩ := (inB_iff _ _ _).1 h2
        obtain ⟨k0, k4⟩ := (inB_iff _ _ _).1 h3
        obtain ⟨t, rfl⟩ := Int.eq_ofNat_of_zero_le (show 0 ≤ n by omega)
        obtain ⟨q, rfl⟩ := Int.eq_ofNat_of_zero_le (show 0 ≤ k by omega)
        rw [show ansMW xs (q : Int) (t : Int) = pairV (wonR xs t q) from by unfold ansMW; rw [h1, h2, h3]; rfl]
        unfold pairV
        obtain ⟨N1, hN⟩ : ∃ m, xs.length = m + 1 := ⟨xs.length - 1, by omega⟩
        have hq : q ≤ N1 := by omega
        have HN := Lib.hid hN
        have h33 : inB (q : Int) 0 (N1 : Int) = true := (inB_iff _ _ _).2 ⟨by omega, by omega⟩
        have hw3 : wrap64 (N1 : Int) = (N1 : Int) := IntWalk.wrap64_in _ ⟨by omega, by omega⟩
        have HR2 := HR.out
        rw [HN.out] at HR2
        have HR3 := Lib.hid HR2
        rw [hN]
        clear HR2 h3 hN k0 k4
        go_enter Tryd.func24, Tryd.ntmps24
        go_wp2_with fail
        refine (specMany_any xs _ _ _ HR3.out HS.out).mono ?_
        rintro e w1 ⟨rfl, n1, rfl⟩
        rw [h1]
        go_wp2_with fail
        refine (l1In_any _ _ _ _).mono ?_
        rintro e w2 ⟨rfl, rfl⟩
        rw [hw3, h33]
        go_wp2_with fail
        refine (raTosses_any _ _).mono ?_
        rintro e w2 ⟨rfl, rfl⟩
        rw [h2]
        go_wp2_with fail
        refine (raCountM_any xs _ t _ N1 _ (HR3.out.drewN n1) h1 HN.out (by omega)).mono ?_
        rintro e w3 ⟨v, rfl, r3, b3⟩
        rcases r3.form with ⟨hx, _⟩ | ⟨hx, g, cap2, rfl, hbg, hgl, hlc, hcm⟩
        · have := rowO_len N1 (wonR xs t) (opnR xs t)
          rw [hx] at this; simp at this
        · have c0 := r3.at_ q (by rw [rowO_len]; omega)
          rw [rowO_at _ _ _ _ hq] at c0
          rw [rowO_len]
          have hlt : (q : Int) < (N1 : Int) + 1 + 1 := by omega
          clear r3 hx hlc
          go_wp2_with fail
          go_ret2
          exact ⟨rfl, bel_trans (bel_drewN (Below.refl _ _) n1) b3⟩

set_option maxRecDepth 100000 in
set_option maxHeartbeats 3200000 in
theorem implMW_any (xs : List ByteArray) (v : Value) (base : Nat) (k n : Int) (w : World) (hR : SRow w base v xs) (hs : ∀ x ∈ xs, x.size ≤ maxLen) :
    Calls Tryd.prog 26 #[v, .int .i64 k, .int .i64 n] w fun e w' => e = .returned (ansMW xs k n) ∧ Below w.heap.size w w' := by
  obtain ⟨A, cap, rfl, hA⟩ := sl_formR hR
  have HR := Lib.hid hR
  have HS := Lib.hid hs
  clear hR hs hA
  cases h1 : manyG xs
  · rw [show ansMW xs k n = noV from by unfold ansMW; rw [h1]; rfl]
    unfold noV
    go_enter Tryd.func26, Tryd.ntmps26
    go_wp2_with fail
    refine (implMany_any xs _ _ _ HR.out HS.out).mono ?_
    rintro e w1 ⟨rfl, b1⟩
    rw [h1]
    go_wp2_with fail
    go_ret2
    exact ⟨rfl, b1⟩
  · obtain ⟨x2, x4, _⟩ := many_in h1
    cases h3 : inB k 0 ((xs.length : Int) - 1)
    · rw [show ansMW xs k n = noV from by unfold ansMW; rw [h1, h3]; rfl]
      unfold noV
      have hn : ¬ (0 ≤ k ∧ k ≤ (xs.length : Int) - 1) := fun q => by rw [(inB_iff _ _ _).2 q] at h3; cases h3
      by_cases k0 : k < 0
      · go_enter Tryd.func26, Tryd.ntmps26
        go_wp2_with fail
        refine (implMany_any xs _ _ _ HR.out HS.out).mono ?_
        rintro e w1 ⟨rfl, b1⟩
        rw [h1]
        go_wp2_with fail
        all_goals
          go_ret2
          exact ⟨rfl, b1⟩
      · have k1 : (xs.length : Int) ≤ k := by omega
        go_enter Tryd.func26, Tryd.ntmps26
        go_wp2_with fail
        refine (implMany_any xs _ _ _ HR.out HS.out).mono ?_
        rintro e w1 ⟨rfl, b1⟩
        rw [h1]
        go_wp2_with fail
        all_goals
          go_ret2
          exact ⟨rfl, b1⟩
    · obtain ⟨k0, k4⟩ := (inB_iff _ _ _).1 h3
      obtain ⟨q, rfl⟩ := Int.eq_ofNat_of_zero_le (show 0 ≤ k by omega)
      obtain ⟨N1, hN⟩ : ∃ m, xs.length = m + 1 := ⟨xs.length - 1, by omega⟩
      have hq : q ≤ N1 := by omega
      have hq0 : ¬ (q : Int) < 0 := by omega
      have hq1 : (q : Int) < (N1 : Int) + 1 := by omega
      have HN := Lib.hid hN
      have hN2 : Hid (xs.length - 1 = N1) := Lib.hid (by omega)
      have HR2 := HR.out
      rw [HN.out] at HR2
      have HR3 := Lib.hid HR2
      have H3 := Lib.hid h3
      clear HR2 h3 k0 k4
      cases h2 : inB n 0 30
      · rw [show ansMW xs (q : Int) n = noV from by unfold ansMW; rw [h1, h2, H3.out]; rfl]
        unfold noV
        rw [hN]
        clear hN
        go_enter Tryd.func26, Tryd.ntmps26
        go_wp2_with fail
        refine (implMany_any xs _ _ _ HR3.out HS.out).mono ?_
        rintro e w1 ⟨rfl, b1⟩
        rw [h1]
        go_wp2_with fail
        all_goals first
          | (exfalso; omega)
          | (refine (raceLong_any _ _).mono ?_
             rintro e w2 ⟨rfl, rfl⟩
             rw [h2]
             go_wp2_with fail
             go_ret2
             exact ⟨rfl, b1⟩)
      · obtain ⟨n0, n4⟩ := (inB_iff _ _ _).1 h2
        obtain ⟨t, rfl⟩ := Int.eq_ofNat_of_zero_le (show 0 ≤ n by omega)
        rw [show ansMW xs (q : Int) (t : Int) = pairV (wonR xs t q) from by unfold ansMW; rw [h1, h2, H3.out]; rfl]
        unfold pairV
        rw [hN]
        clear hN
        go_enter Tryd.func26, Tryd.ntmps26
        go_wp2_with fail
        refine (implMany_any xs _ _ _ HR3.out HS.out).mono ?_
        rintro e w1 ⟨rfl, b1⟩
        rw [h1]
        go_wp2_with fail
        all_goals first
          | (exfalso; omega)
          | (refine (raceLong_any _ _).mono ?_
             rintro e w2 ⟨rfl, rfl⟩
             rw [h2]
             go_wp2_with fail
             refine (tossMany_any xs _ t base _ (HR3.out.below b1) h1 (by omega)).mono ?_
             rintro e w3 ⟨v3, rfl, r3, b3⟩
             rw [hN2.out] at r3
             rcases r3.form with ⟨hx, _⟩ | ⟨hx, g, cap2, rfl, hbg, hgl, hlc, hcm⟩
             · have := rowF_len N1 (wonR xs t)
               rw [hx] at this; simp at this
             · have hr3 := r3
               rw [rowF_len] at hr3
               obtain ⟨c0, f0⟩ := rowF_cell hr3 q hq
               rw [rowF_len]
               clear r3 hr3 hx hlc
               go_wp2_with fail
               go_ret2
               exact ⟨rfl, bel_trans b1 b3⟩)
end Go.Proofs.YtjckmnbpfmcadacDoor
