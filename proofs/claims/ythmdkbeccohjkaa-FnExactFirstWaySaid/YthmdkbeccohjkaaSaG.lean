/- Contracts of the model's test of states. -/
import Derived.Test.YthmdkbeccohjkaaSl4
namespace Go.Proofs.Ythmdkbeccohjkaa
set_option linter.unusedSimpArgs false
open Go.ChangeShapes Go.WideShapes Go.ChangeAt Go.RowKit
set_option linter.unusedVariables false

set_option maxHeartbeats 800000 in
theorem l1All_any (xs : List Int) (v : Value) (B : Nat) (lo hi : Int) (w : World) (h : RdI w B v xs) :
    Calls Try.prog 27 #[v, .int .i64 lo, .int .i64 hi] w fun e w' => e = .returned (.bool (xs.all (fun x => inB x lo hi))) ∧ w = w' := by
  obtain ⟨A, cap, rfl, l0, m0⟩ := h.form
  unfold maxLen at m0
  have H := Lib.hid h
  clear h
  generalize hN : xs.length = N at *
  have HN := Lib.hid hN
  clear hN
  go_enter Try.func27, Try.ntmps27
  go_wp2
  go_loop [11] (fun i => ∃ k : Nat, k ≤ N ∧ i = .int .i64 k ∧ Hid (∀ j, j < k → inB (xs.getD j 0) lo hi = true)) (fun i => N - (intOf i).toNat)
  case atStart => exact ⟨0, by omega, rfl, fun j hj => by omega⟩
  case round =>
    obtain ⟨k, hk, rfl, hall⟩ := hrel
    by_cases hlt : k < N
    · have hkx : k < xs.length := by rw [HN.out]; exact hlt
      obtain ⟨ad, rfl, _, e0⟩ := H.out.at_ hkx
      have Hkx := Lib.hid hkx
      clear hkx
      cases hx : inB (xs.getD k 0) lo hi with
      | false =>
        have HF : Hid (xs.all (fun x => inB x lo hi) = false) := all_no (p := fun x => inB x lo hi) Hkx.out hx
        have Hx := Lib.hid hx
        clear hx
        generalize xs.getD k 0 = x at *
        go_wp2_with fail
        refine (l1In_any x lo hi _).mono ?_
        rintro e w' ⟨rfl, rfl⟩
        rw [Hx.out]
        go_wp2
        go_ret
        exact ⟨by rw [HF.out]; rfl, rfl⟩
      | true =>
        have HF : Hid (∀ j, j < k + 1 → inB (xs.getD j 0) lo hi = true) := fun j hj => by
          rcases Nat.lt_or_ge j k with h1 | h1
          · exact hall.out j h1
          · obtain rfl : j = k := by omega
            exact hx
        have Hx := Lib.hid hx
        clear hx
        generalize xs.getD k 0 = x at *
        go_wp2_with fail
        refine (l1In_any x lo hi _).mono ?_
        rintro e w' ⟨rfl, rfl⟩
        rw [Hx.out]
        go_wp2
        exact ⟨⟨k + 1, by omega, by go_num, HF⟩, by simp [intOf]; omega⟩
    · have HE : Hid (xs.all (fun x => inB x lo hi) = true) := all_getD.2 fun i hi => hall.out i (by have := HN.out; omega)
      go_wp2
      go_ret
      exact ⟨by rw [HE.out]; rfl, rfl⟩

set_option maxHeartbeats 1600000 in
theorem saGood_any (lim : Int) (m : List (List Int)) (v : Value) (B : Nat) (w : World) (h : RdM w B v m) (hB : B ≤ w.heap.size) :
    Calls Try.prog 22 #[sts lim v] w fun e w' => e = .returned (.bool (saG lim m)) ∧ Below w.heap.size w w' := by
  obtain ⟨A, cap, rfl, l0, m0⟩ := h.form
  unfold maxLen at m0
  have hbl := bel_alloc (Below.refl _ w) (.cells #[.int .i64 lim, .slice A m.length cap] 29)
  have H := Lib.hid (h.below hbl hB)
  clear h
  cases h1 : inB lim 1 10 with
  | false =>
    have hr : saG lim m = false := by simp [saG, h1]
    rw [hr]; clear hr
    have H1 := Lib.hid h1
    clear h1
    go_enter Try.func22, Try.ntmps22
    go_wp2_with (go_at_call 23; refine (l1In_any _ _ _ _).mono ?_; rintro e w' ⟨rfl, rfl⟩; rw [H1.out])
    go_ret
    exact ⟨rfl, hbl⟩
  | true =>
    cases h2 : inB (m.length : Int) 1 5 with
    | false =>
      have hr : saG lim m = false := by simp [saG, h2]
      rw [hr]; clear hr
      have H1 := Lib.hid h1
      have H2 := Lib.hid h2
      clear h1 h2
      go_enter Try.func22, Try.ntmps22
      go_wp2_with (go_at_call 23; refine (l1In_any _ _ _ _).mono ?_; rintro e w' ⟨rfl, rfl⟩; first | rw [H1.out] | rw [H2.out])
      go_ret
      exact ⟨rfl, hbl⟩
    | true =>
      have hlim := (inB_iff _ _ _).1 h1
      have hlen := (inB_iff _ _ _).1 h2
      have H1 := Lib.hid h1
      have H2 := Lib.hid h2
      have hm5 : m.length ≤ 5 := by omega
      obtain ⟨hl1, hl10⟩ := hlim
      clear h1 h2 hlen
      have HE : Hid (preB lim m m.length → saG lim m = true) := fun hp => pre_all H1.out H2.out hp
      have hrow : ∀ k, k < m.length → ((rowB lim m.length (m.getD k []) = false → saG lim m = false) ∧ (preB lim m k → rowB lim m.length (m.getD k []) = true → preB lim m (k + 1))) := fun k hk => ⟨pre_no hk, pre_next⟩
      have HR := Lib.hid hrow
      clear hrow
      generalize hN : m.length = N at *
      have HN := Lib.hid hN
      clear hN
      go_enter Try.func22, Try.ntmps22
      go_wp2_with (go_at_call 23; refine (l1In_any _ _ _ _).mono ?_; rintro e w' ⟨rfl, rfl⟩; first | rw [H1.out] | rw [H2.out])
      go_loop [22] (fun i => ∃ k : Nat, k ≤ N ∧ i = .int .i64 k ∧ Hid (preB lim m k)) (fun i => N - (intOf i).toNat)
      case atStart => exact ⟨0, by omega, rfl, fun j hj => by omega⟩
      case round =>
        obtain ⟨k, hk, rfl, hpre⟩ := hrel
        by_cases hlt : k < N
        · obtain ⟨ad, A', cap', rfl, _, e0, r0, hl0, hm0⟩ := H.out.at_ (by rw [HN.out]; exact hlt)
          have R0 := Lib.hid r0
          obtain ⟨hno, hyes⟩ := HR.out k hlt
          have Hno := Lib.hid hno
          have Hyes := Lib.hid (hyes hpre.out)
          unfold maxLen at hm0
          clear r0 hno hyes
          generalize m.getD k [] = xs at *
          by_cases hlen : xs.length = N
          · clear HR HN HE
            subst hlen
            cases hall : xs.all (fun x => inB x 0 lim) with
            | false =>
              have HF : Hid (saG lim m = false) := Hno.out (by simp [rowB, hall])
              have HA := Lib.hid hall
              clear hall
              go_wp2_with fail
              refine (l1All_any xs _ B 0 lim _ R0.out).mono ?_
              rintro e w' ⟨rfl, rfl⟩
              rw [HA.out]
              go_wp2
              go_ret
              exact ⟨by rw [HF.out]; rfl, hbl⟩
            | true =>
              have hin : ∀ j, j ≤ xs.length → 0 ≤ sumK xs j ∧ sumK xs j ≤ j * lim := fun j hj => sumK_in xs lim (by omega) j (fun i hi => all_getD.1 hall i (by omega))
              have Hin := Lib.hid hin
              have HA := Lib.hid hall
              clear hall hin
              go_wp2_with fail
              refine (l1All_any xs _ B 0 lim _ R0.out).mono ?_
              rintro e w' ⟨rfl, rfl⟩
              rw [HA.out]
              have hR : Hid (sumK xs xs.length = lim → rowB lim xs.length xs = true) := fun e => by simp [rowB, HA.out, ← sumK_all, e]
              have hR0 : Hid (sumK xs xs.length ≠ lim → rowB lim xs.length xs = false) := fun e => by simp [rowB, HA.out, ← sumK_all, e]
              have h00 : Hid (sumK xs 0 = 0) := rfl
              go_wp2
              go_loop [5, 41] (fun x i => ∃ j : Nat, j ≤ xs.length ∧ i = .int .i64 j ∧ x = .int .i64 (sumK xs j)) (fun _ i => xs.length - (intOf i).toNat)
              case atStart => exact ⟨0, by omega, rfl, by rw [h00.out]⟩
              case round =>
                obtain ⟨j, hj, rfl, rfl⟩ := hrel
                obtain ⟨s0, s1⟩ := Hin.out j hj
                have s2 : (j : Int) * lim ≤ 50 := Int.le_trans (Int.mul_le_mul (show (j : Int) ≤ 5 by omega) hl10 (by omega) (by omega)) (by omega)
                by_cases hjl : j < xs.length
                · obtain ⟨ad2, rfl, _, e2⟩ := R0.out.at_ hjl
                  obtain ⟨p0, p1⟩ := (inB_iff _ _ _).1 (all_getD.1 HA.out j hjl)
                  have hS : Hid (sumK xs j + xs.getD j 0 = sumK xs (j + 1)) := rfl
                  generalize sumK xs j = y at *
                  generalize xs.getD j 0 = x at *
                  have s3 : y ≤ 50 := by omega
                  clear s1 s2
                  go_wp2
                  exact ⟨⟨j + 1, by omega, by go_num, by rw [hS.out]⟩, by simp [intOf]; omega⟩
                · obtain rfl : j = xs.length := by omega
                  by_cases he : sumK xs xs.length = lim
                  · have HP := Lib.hid (Hyes.out (hR.out he))
                    generalize sumK xs xs.length = y at *
                    subst he
                    clear s0 s1 s2
                    go_wp2
                    exact ⟨⟨k + 1, by omega, by go_num, HP⟩, by simp [intOf]; omega⟩
                  · have HF : Hid (saG lim m = false) := Hno.out (hR0.out he)
                    generalize sumK xs xs.length = y at *
                    clear s0 s1 s2
                    go_wp2
                    go_ret
                    exact ⟨by rw [HF.out]; rfl, hbl⟩
          · have HF : Hid (saG lim m = false) := Hno.out (by simp [rowB, hlen])
            have hlenI : ¬ ((xs.length : Int) = (N : Int)) := by omega
            go_wp2
            go_ret
            exact ⟨by rw [HF.out]; rfl, hbl⟩
        · have HF : Hid (saG lim m = true) := HE.out (by have : k = N := by omega
                                                         rw [← this]; exact hpre.out)
          go_wp2
          go_ret
          exact ⟨by rw [HF.out]; rfl, hbl⟩
end Go.Proofs.Ythmdkbeccohjkaa
