/- Numbers that are read: the contracts of the model and of the program. -/
import Derived.Test.YthmdkbeccohjkaaDoorRdN
namespace Go.Proofs.YthmdkbeccohjkaaDoor
set_option linter.unusedSimpArgs false
open Go.ChangeShapes Go.WideShapes Go.ChangeAt Go.RowKit
set_option linter.unusedVariables false

theorem lenR_iff (s : ByteArray) : lenR s.data.toList = inB s.size 1 6 := by
  unfold lenR inB
  rw [len_list, Bool.eq_iff_iff]
  simp
  omega

set_option maxHeartbeats 800000 in
theorem l1Read_any (s : ByteArray) (w : World) (hs : s.size ≤ maxLen) :
    Calls Tryd.prog 80 #[.string s] w fun e w' => e = .returned (.int .i64 (rdN s.data.toList)) ∧ w = w' := by
  unfold maxLen at hs
  cases h1 : lenR s.data.toList
  · rw [show rdN s.data.toList = -1 from by unfold rdN; rw [h1]; rfl]
    rw [lenR_iff] at h1
    go_enter Tryd.func80, Tryd.ntmps80
    go_wp2_with fail
    refine (l1In_any _ _ _ _).mono ?_
    rintro e w' ⟨rfl, rfl⟩
    rw [h1]
    go_wp2_with fail
    go_ret
    exact ⟨rfl, rfl⟩
  · have h1' := h1
    rw [lenR_iff] at h1'
    have hz := (inB_iff _ _ _).1 h1'
    have z1 : 0 < s.size := by omega
    have z2 : s.size ≤ 6 := by omega
    have hat0 := sgB_at s 0 z1
    clear hz
    by_cases e0 : s[0].toNat = 48
    · have d0 : ((s[0].toNat : Int) == 48) = true := by simp; omega
      by_cases e1 : 1 < s.size
      · have h2 : zerR s.data.toList = true := by unfold zerR; rw [hat0, len_list]; simp; omega
        have e2 : (1 : Int) < (s.size : Int) := by omega
        rw [show rdN s.data.toList = -1 from by unfold rdN; rw [h1, h2]; rfl]
        clear h1 h2 hat0 e0
        go_enter Tryd.func80, Tryd.ntmps80
        go_wp2_with fail
        refine (l1In_any _ _ _ _).mono ?_
        rintro e w' ⟨rfl, rfl⟩
        rw [h1']
        go_wp2_with fail
        go_ret
        exact ⟨rfl, rfl⟩
      · have h2 : zerR s.data.toList = false := by unfold zerR; rw [hat0, len_list]; simp; omega
        have e2 : ¬ (1 : Int) < (s.size : Int) := by omega
        clear hat0 e0
        have Hr : Hid (rdN s.data.toList = if digK s.data.toList s.data.toList.length then (valK s.data.toList s.data.toList.length : Int) else -1) := Lib.hid (by unfold rdN; rw [h1, h2]; rfl)
        clear h1 h2
        go_enter Tryd.func80, Tryd.ntmps80
        go_wp2_with fail
        refine (l1In_any _ _ _ _).mono ?_
        rintro e w' ⟨rfl, rfl⟩
        rw [h1']
        go_wp2_with fail
        go_loop [3, 4] (fun x i => ∃ k : Nat, k ≤ s.size ∧ i = .int .i64 k ∧ x = .int .i64 (valK s.data.toList k) ∧ Hid (digK s.data.toList k = true)) (fun _ i => s.size - (intOf i).toNat)
        case atStart => exact ⟨0, Nat.zero_le _, rfl, rfl, Lib.hid rfl⟩
        case round =>
          obtain ⟨k, hk, rfl, rfl, hD⟩ := hrel
          have hv := valK_lt hD.out
          have hp : 10 ^ k ≤ 1000000 := by
            have : 10 ^ k ≤ 10 ^ 6 := Nat.pow_le_pow_right (by omega) (by omega)
            omega
          have hv2 : valK s.data.toList k < 1000000 := by omega
          clear hv hp
          by_cases hlt : k < s.size
          · have hat := sgB_at s k hlt
            by_cases c0 : s[k].toNat < 48
            · have d0 : ((s[k].toNat : Int) < 48) := by omega
              have HD : Hid (digK s.data.toList s.data.toList.length = false) := Lib.hid (digK_not (k := k) (by rw [len_list]; exact hlt) (by rw [hat]; unfold isDig; simp; omega))
              clear hat c0
              go_wp2_with fail
              go_ret
              exact ⟨by rw [Hr.out, HD.out]; rfl, rfl⟩
            · by_cases c1 : 57 < s[k].toNat
              · have d0 : ¬ ((s[k].toNat : Int) < 48) := by omega
                have d1 : (57 < (s[k].toNat : Int)) := by omega
                have HD : Hid (digK s.data.toList s.data.toList.length = false) := Lib.hid (digK_not (k := k) (by rw [len_list]; exact hlt) (by rw [hat]; unfold isDig; simp; omega))
                clear hat c0 c1
                go_wp2_with fail
                go_ret
                exact ⟨by rw [Hr.out, HD.out]; rfl, rfl⟩
              · have d0 : ¬ ((s[k].toNat : Int) < 48) := by omega
                have d1 : ¬ (57 < (s[k].toNat : Int)) := by omega
                have hu : IntKind.u8.wrap ((s[k].toNat : Int) - 48) = ((s[k].toNat - 48 : Nat) : Int) := by rw [IntWalk.u8_in _ (by omega)]; omega
                have hu2 : (s[k].toNat : Int) - 48 = ((s[k].toNat - 48 : Nat) : Int) := by omega
                have hx : s[k].toNat - 48 ≤ 9 := by omega
                have HD : Hid (digK s.data.toList (k + 1) = true) := Lib.hid (by unfold digK; rw [hD.out, hat]; unfold isDig; simp; omega)
                have HV : Hid (valK s.data.toList (k + 1) = 10 * valK s.data.toList k + (s[k].toNat - 48)) := Lib.hid (by rw [← hat]; rfl)
                clear hat c0 c1
                generalize valK s.data.toList k = y at *
                go_wp2_with fail
                exact ⟨⟨k + 1, by omega, by go_num, by rw [HV.out]; first | done | rfl | (congr 1; omega), HD⟩, by simp [intOf]; omega⟩
          · have hks : k = s.size := by omega
            have hnk : ¬ ((k : Int) < (s.size : Int)) := by omega
            have HE : Hid (rdN s.data.toList = (valK s.data.toList k : Int)) := Lib.hid (by rw [Hr.out, len_list, ← hks, hD.out]; rfl)
            clear hks
            go_wp2_with fail
            go_ret
            exact ⟨by rw [HE.out]; rfl, rfl⟩
    · have d0 : ((s[0].toNat : Int) == 48) = false := by simp; omega
      have h2 : zerR s.data.toList = false := by unfold zerR; rw [hat0]; simp [e0]
      clear hat0 e0
      have Hr : Hid (rdN s.data.toList = if digK s.data.toList s.data.toList.length then (valK s.data.toList s.data.toList.length : Int) else -1) := Lib.hid (by unfold rdN; rw [h1, h2]; rfl)
      clear h1 h2
      go_enter Tryd.func80, Tryd.ntmps80
      go_wp2_with fail
      refine (l1In_any _ _ _ _).mono ?_
      rintro e w' ⟨rfl, rfl⟩
      rw [h1']
      go_wp2_with fail
      go_loop [3, 4] (fun x i => ∃ k : Nat, k ≤ s.size ∧ i = .int .i64 k ∧ x = .int .i64 (valK s.data.toList k) ∧ Hid (digK s.data.toList k = true)) (fun _ i => s.size - (intOf i).toNat)
      case atStart => exact ⟨0, Nat.zero_le _, rfl, rfl, Lib.hid rfl⟩
      case round =>
        obtain ⟨k, hk, rfl, rfl, hD⟩ := hrel
        have hv := valK_lt hD.out
        have hp : 10 ^ k ≤ 1000000 := by
          have : 10 ^ k ≤ 10 ^ 6 := Nat.pow_le_pow_right (by omega) (by omega)
          omega
        have hv2 : valK s.data.toList k < 1000000 := by omega
        clear hv hp
        by_cases hlt : k < s.size
        · have hat := sgB_at s k hlt
          by_cases c0 : s[k].toNat < 48
          · have d0 : ((s[k].toNat : Int) < 48) := by omega
            have HD : Hid (digK s.data.toList s.data.toList.length = false) := Lib.hid (digK_not (k := k) (by rw [len_list]; exact hlt) (by rw [hat]; unfold isDig; simp; omega))
            clear hat c0
            go_wp2_with fail
            go_ret
            exact ⟨by rw [Hr.out, HD.out]; rfl, rfl⟩
          · by_cases c1 : 57 < s[k].toNat
            · have d0 : ¬ ((s[k].toNat : Int) < 48) := by omega
              have d1 : (57 < (s[k].toNat : Int)) := by omega
              have HD : Hid (digK s.data.toList s.data.toList.length = false) := Lib.hid (digK_not (k := k) (by rw [len_list]; exact hlt) (by rw [hat]; unfold isDig; simp; omega))
              clear hat c0 c1
              go_wp2_with fail
              go_ret
              exact ⟨by rw [Hr.out, HD.out]; rfl, rfl⟩
            · have d0 : ¬ ((s[k].toNat : Int) < 48) := by omega
              have d1 : ¬ (57 < (s[k].toNat : Int)) := by omega
              have hu : IntKind.u8.wrap ((s[k].toNat : Int) - 48) = ((s[k].toNat - 48 : Nat) : Int) := by rw [IntWalk.u8_in _ (by omega)]; omega
              have hu2 : (s[k].toNat : Int) - 48 = ((s[k].toNat - 48 : Nat) : Int) := by omega
              have hx : s[k].toNat - 48 ≤ 9 := by omega
              have HD : Hid (digK s.data.toList (k + 1) = true) := Lib.hid (by unfold digK; rw [hD.out, hat]; unfold isDig; simp; omega)
              have HV : Hid (valK s.data.toList (k + 1) = 10 * valK s.data.toList k + (s[k].toNat - 48)) := Lib.hid (by rw [← hat]; rfl)
              clear hat c0 c1
              generalize valK s.data.toList k = y at *
              go_wp2_with fail
              exact ⟨⟨k + 1, by omega, by go_num, by rw [HV.out]; first | done | rfl | (congr 1; omega), HD⟩, by simp [intOf]; omega⟩
        · have hks : k = s.size := by omega
          have hnk : ¬ ((k : Int) < (s.size : Int)) := by omega
          have HE : Hid (rdN s.data.toList = (valK s.data.toList k : Int)) := Lib.hid (by rw [Hr.out, len_list, ← hks, hD.out]; rfl)
          clear hks
          go_wp2_with fail
          go_ret
          exact ⟨by rw [HE.out]; rfl, rfl⟩
end Go.Proofs.YthmdkbeccohjkaaDoor
