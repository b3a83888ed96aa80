/- WinnerOfMany and WinnerOfRace: the whole contracts. -/
import Derived.Test.YtjckmnbpfmcadacDoorWin
namespace Go.Proofs.YtjckmnbpfmcadacDoor
set_option linter.unusedSimpArgs false
open Go.ChangeShapes Go.WideShapes Go.ChangeAt Go.RowKit
set_option linter.unusedVariables false

theorem toss_in {t : ByteArray} (g : tossG t = true) : t.size ≤ 40 := by
  unfold tossG at g
  rw [Bool.and_eq_true, decide_eq_true_iff] at g
  exact g.1
set_option maxRecDepth 100000 in
set_option maxHeartbeats 1600000 in
theorem specWoM_any (xs : List ByteArray) (v : Value) (base : Nat) (t : ByteArray) (w : World) (hR : SRow w base v xs) (hs : ∀ x ∈ xs, x.size ≤ maxLen) (ht : t.size ≤ maxLen) :
    Calls Tryd.prog 32 #[v, .string t] w fun e w' => e = .returned (ansWin xs t) ∧ ∃ n, w' = w.drewN n := by
  have HR := Lib.hid hR
  have HS := Lib.hid hs
  clear hR hs
  cases h1 : manyG xs
  · rw [show ansWin xs t = noneV from by unfold ansWin; rw [h1]; rfl]
    unfold noneV
    go_enter Tryd.func32, Tryd.ntmps32
    go_wp2_with fail
    refine (specMany_any xs v _ _ HR.out HS.out).mono ?_
    rintro e w1 ⟨rfl, n1, rfl⟩
    rw [h1]
    go_wp2_with fail
    go_ret3
    exact ⟨rfl, n1, rfl⟩
  · cases h2 : tossG t
    · rw [show ansWin xs t = noneV from by unfold ansWin; rw [h1, h2]; rfl]
      unfold noneV
      go_enter Tryd.func32, Tryd.ntmps32
      go_wp2_with fail
      refine (specMany_any xs v _ _ HR.out HS.out).mono ?_
      rintro e w1 ⟨rfl, n1, rfl⟩
      rw [h1]
      go_wp2_with fail
      refine (ptTosses_any t _ ht).mono ?_
      rintro e w2 ⟨rfl, rfl⟩
      rw [h2]
      go_wp2_with fail
      go_ret3
      exact ⟨rfl, n1, rfl⟩
    · rw [show ansWin xs t = wonV 0 (win xs t) from by unfold ansWin; rw [h1, h2]; rfl]
      have HF := Lib.hid (fun n => raFirst_any xs v base t (w.drewN n) (HR.out.drewN n) h1 (toss_in h2))
      rcases hw : win xs t with _ | ⟨k, n⟩
      · rw [hw] at HF
        unfold frV at HF
        unfold wonV noneV
        go_enter Tryd.func32, Tryd.ntmps32
        go_wp2_with fail
        refine (specMany_any xs v _ _ HR.out HS.out).mono ?_
        rintro e w1 ⟨rfl, n1, rfl⟩
        rw [h1]
        go_wp2_with fail
        refine (ptTosses_any t _ ht).mono ?_
        rintro e w2 ⟨rfl, rfl⟩
        rw [h2]
        go_wp2_with fail
        refine (HF.out _).mono ?_
        rintro e w3 ⟨rfl, rfl⟩
        go_wp2_with fail
        go_ret3
        exact ⟨rfl, n1, rfl⟩
      · rw [hw] at HF
        unfold frV at HF
        unfold wonV
        have hkn : ¬ ((k : Int) < 0) := by omega
        have Hw := Lib.hid hw
        clear hw
        go_enter Tryd.func32, Tryd.ntmps32
        go_wp2_with fail
        refine (specMany_any xs v _ _ HR.out HS.out).mono ?_
        rintro e w1 ⟨rfl, n1, rfl⟩
        rw [h1]
        go_wp2_with fail
        refine (ptTosses_any t _ ht).mono ?_
        rintro e w2 ⟨rfl, rfl⟩
        rw [h2]
        go_wp2_with fail
        refine (HF.out _).mono ?_
        rintro e w3 ⟨rfl, rfl⟩
        go_wp2_with fail
        go_ret3
        exact ⟨rfl, n1, rfl⟩

set_option maxRecDepth 100000 in
set_option maxHeartbeats 3200000 in
theorem implWoM_any (xs : List ByteArray) (v : Value) (base : Nat) (t : ByteArray) (w : World) (hR : SRow w base v xs) (hs : ∀ x ∈ xs, x.size ≤ maxLen) (ht : t.size ≤ maxLen) :
    Calls Tryd.prog 33 #[v, .string t] w fun e w' => e = .returned (ansWin xs t) ∧ Below w.heap.size w w' := by
  have HR := Lib.hid hR
  have HS := Lib.hid hs
  clear hR hs
  cases h1 : manyG xs
  · rw [show ansWin xs t = noneV from by unfold ansWin; rw [h1]; rfl]
    unfold noneV
    go_enter Tryd.func33, Tryd.ntmps33
    go_wp2_with fail
    refine scope_jumps 0 (fun _ _ => False) (fun _ _ => 0) rfl (fun _ => ?_) (fun _ _ h => h.elim)
    go_wp2_with fail
    refine (implMany_any xs v _ _ HR.out HS.out).mono ?_
    rintro e w1 ⟨rfl, b1⟩
    rw [h1]
    go_wp2_with fail
    simp only [Exit.jump]
    go_ret3
    exact ⟨rfl, b1⟩
  · cases h2 : tossG t
    · rw [show ansWin xs t = noneV from by unfold ansWin; rw [h1, h2]; rfl]
      unfold noneV
      go_enter Tryd.func33, Tryd.ntmps33
      go_wp2_with fail
      refine scope_jumps 0 (fun _ _ => False) (fun _ _ => 0) rfl (fun _ => ?_) (fun _ _ h => h.elim)
      go_wp2_with fail
      refine (implMany_any xs v _ _ HR.out HS.out).mono ?_
      rintro e w1 ⟨rfl, b1⟩
      rw [h1]
      go_wp2_with fail
      refine (implTosses_any t _ ht).mono ?_
      rintro e w2 ⟨rfl, b2⟩
      rw [h2]
      go_wp2_with fail
      simp only [Exit.jump]
      go_ret3
      exact ⟨rfl, bel_trans b1 b2⟩
    · rw [show ansWin xs t = wonV 0 (win xs t) from by unfold ansWin; rw [h1, h2]; rfl]
      have t40 := toss_in h2
      obtain ⟨x2, x4, hok⟩ := many_in h1
      have HWF : Hid (winN xs t (t.size + 1) 0 = win xs t) := rfl
      go_enter Tryd.func33, Tryd.ntmps33
      go_wp2_with fail
      refine scope_jumps 0 (fun a2 w2 => ∃ (m : Nat) (u4 u5 u6 u8 u9 u10 u11 u12 u13 u14 u15 u16 u17 u18 u19 u20 u21 u22 u23 u24 u25 u26 u27 u28 u29 u30 u31 u32 u33 u34 u35 u36 u37 u38 : Value), a2 = { tmps := #[v, .string t, undef, undef, u4, u5, u6, .int .i64 m, u8, u9, u10, u11, u12, u13, u14, u15, u16, u17, u18, u19, u20, u21, u22, u23, u24, u25, u26, u27, u28, u29, u30, u31, u32, u33, u34, u35, u36, u37, u38], defers := [] } ∧ m ≤ t.size ∧ Hid (winN xs t (t.size + 1 - m) m = win xs t) ∧ Below w.heap.size w w2) (fun a2 _ => t.size - (intOf (a2.tmps.getD 7 undef)).toNat) rfl ?first ?pass
      case first =>
        intro pass
        go_wp2_with fail
        refine (implMany_any xs v _ _ HR.out HS.out).mono ?_
        rintro e w1 ⟨rfl, b1⟩
        rw [h1]
        go_wp2_with fail
        refine (implTosses_any t _ ht).mono ?_
        rintro e w2 ⟨rfl, b2⟩
        rw [h2]
        have b12 := bel_trans b1 b2
        clear b1 b2
        go_wp2_with fail
        go_step3
        rename_i hK
        exact hK _ _ (pass _ _ ⟨0, _, _, _, _, _, _, _, _, _, _, _, _, _, _, _, _, _, _, _, _, _, _, _, _, _, _, _, _, _, _, _, _, _, _, rfl, by omega, HWF, b12⟩)
      case pass =>
        rintro a' w' ⟨m, u4, u5, u6, u8, u9, u10, u11, u12, u13, u14, u15, u16, u17, u18, u19, u20, u21, u22, u23, u24, u25, u26, u27, u28, u29, u30, u31, u32, u33, u34, u35, u36, u37, u38, rfl, hm, hw, hb⟩
        rcases HR.out.form with ⟨hx, _⟩ | ⟨hx, g, cap, rfl, hbg, hgl, hlc, hcm⟩
        · rw [hx] at x2; simp at x2
        unfold maxLen at hcm
        have HRW := Lib.hid (HR.out.below hb)
        have hmi : (m : Int) ≤ (t.size : Int) := by omega
        obtain ⟨q, hq⟩ : ∃ q, t.size + 1 - m = q + 1 := ⟨t.size - m, by omega⟩
        rw [hq] at hw
        have Hq := Lib.hid hq
        clear hq
        generalize hN : xs.length = N at *
        have HN := Lib.hid hN
        clear hN
        go_wp2_with fail
        go_loop [20] (fun i => ∃ k : Nat, k ≤ N ∧ i = .int .i64 k ∧ Hid (firstK (hitB xs t m) (N - k) k = firstK (hitB xs t m) N 0)) (fun i => N - (intOf i).toNat)
        case atStart => exact ⟨0, by omega, rfl, rfl⟩
        case round =>
          obtain ⟨k, hk, rfl, hf⟩ := hrel
          by_cases hlt2 : k < N
          · have hrow := HRW.out
            rw [← HN.out] at hrow
            have c1 := hrow.at_ k (by rw [HN.out]; exact hlt2)
            have hhit : Hid (hitB xs t m k = (decide ((xs.getD k noS).size ≤ m) && plcB (xs.getD k noS) t m)) := rfl
            obtain ⟨q2, hq2⟩ : ∃ q2, N - k = q2 + 1 := ⟨N - k - 1, by omega⟩
            have hq3 : N - (k + 1) = q2 := by omega
            rw [hq2] at hf
            have Hq3 := Lib.hid hq3
            clear hq2 hq3 hrow
            generalize xs.getD k noS = p at *
            have hsx := suf_hit p t m hm
            rw [← hhit.out] at hsx
            cases hh : hitB xs t m k
            · have hz : Hid (firstK (hitB xs t m) (N - (k + 1)) (k + 1) = firstK (hitB xs t m) N 0) := by
                refine Lib.hid ?_
                rw [Hq3.out, ← hf.out, firstK_no hh]
              rw [hh] at hsx
              have Hsx := Lib.hid hsx
              clear hh hsx hhit
              go_wp2_with fail
              refine (suffix_any (t.extract 0 m) p _ (by rw [ext_size t 0 m hm]; omega)).mono ?_
              rintro e w5 ⟨rfl, rfl⟩
              rw [Hsx.out]
              go_wp2_with fail
              exact ⟨⟨k + 1, by omega, by go_num, hz⟩, by simp [intOf]; omega⟩
            · have hz : Hid (win xs t = some (k, m)) := by
                refine Lib.hid ?_
                rw [← hw.out]
                refine winN_yes ?_
                rw [HN.out, ← hf.out, firstK_yes hh]
              rw [hh] at hsx
              have Hsx := Lib.hid hsx
              clear hh hsx hhit
              go_wp2_with fail
              refine (suffix_any (t.extract 0 m) p _ (by rw [ext_size t 0 m hm]; omega)).mono ?_
              rintro e w5 ⟨rfl, rfl⟩
              rw [Hsx.out]
              go_wp2_with fail
              simp only [Exit.jump]
              go_ret3
              exact ⟨by rw [hz.out]; rfl, hb⟩
          · obtain rfl : k = N := by omega
            have hnone : Hid (winN xs t q (m + 1) = win xs t) := by
              refine Lib.hid ?_
              rw [← hw.out, winN_no]
              rw [HN.out, ← hf.out, Nat.sub_self]
              rfl
            have hqq := Hq.out
            by_cases hend : m < t.size
            · have hz : Hid (winN xs t (t.size + 1 - (m + 1)) (m + 1) = win xs t) := by
                refine Lib.hid ?_
                rw [show t.size + 1 - (m + 1) = q from by omega]
                exact hnone.out
              have hei : (m : Int) < (t.size : Int) := by omega
              clear hqq
              go_wp2_with fail
              go_step3
              exact ⟨rfl, ⟨m + 1, _, _, _, _, _, _, _, _, _, _, _, _, _, _, _, _, _, _, _, _, _, _, _, _, _, _, _, _, _, _, _, _, _, _, rfl, by omega, hz, hb⟩, by show t.size - (intOf (Value.int IntKind.i64 ((m : Int) + 1))).toNat < t.size - (intOf (Value.int IntKind.i64 (m : Int))).toNat; simp [intOf]; omega⟩
            · have hz : Hid (win xs t = none) := by
                refine Lib.hid ?_
                rw [← hnone.out, show q = 0 from by omega]
                rfl
              have hei : ¬ (m : Int) < (t.size : Int) := by omega
              clear hqq
              go_wp2_with fail
              simp only [Exit.jump]
              go_ret3
              exact ⟨by rw [hz.out]; rfl, hb⟩
end Go.Proofs.YtjckmnbpfmcadacDoor
