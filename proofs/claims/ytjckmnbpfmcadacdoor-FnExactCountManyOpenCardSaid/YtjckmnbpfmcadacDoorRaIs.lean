/- The index of the pattern that last signs are: the contract of the model. -/
import Derived.Test.YtjckmnbpfmcadacDoorManyT
namespace Go.Proofs.YtjckmnbpfmcadacDoor
set_option linter.unusedSimpArgs false
open Go.ChangeShapes Go.WideShapes Go.ChangeAt Go.RowKit
set_option linter.unusedVariables false

def isP (xs : List ByteArray) (to : Nat) : Nat → Bool := fun k => decide (codeL ((lsM xs).getD k []) = to)
def isV : Option Nat → Value
  | some k => .int .i64 k
  | none => .int .i64 (-1)
theorem code_take (p : ByteArray) (i : Nat) (hi : i < p.size) : codeL (p.data.toList.take (i + 1)) = 2 * codeL (p.data.toList.take i) + bitU p[i] := by
  rw [List.take_succ_eq_append_getElem (by simpa using hi), codeL_snoc]
  rfl
theorem code_le (p : ByteArray) (i : Nat) (hi : i ≤ 8) : codeL (p.data.toList.take i) ≤ 512 := by
  have h := (codeL_in (p.data.toList.take i)).2
  have hl : (p.data.toList.take i).length ≤ 8 := by rw [List.length_take]; omega
  have := Nat.pow_le_pow_right (show 0 < 2 by omega) hl
  omega
set_option maxRecDepth 100000 in
set_option maxHeartbeats 3200000 in
theorem raIs_any (xs : List ByteArray) (v : Value) (base to : Nat) (w : World) (hR : SRow w base v xs) (h8 : ∀ k, k < xs.length → (xs.getD k noS).size ≤ 8) (hn : xs.length ≤ 100) :
    Calls Tryd.prog 65 #[v, .int .i64 to] w fun e w' => e = .returned (isV (isM (lsM xs) to)) ∧ w = w' := by
  obtain ⟨A, cap, rfl, hA⟩ := sl_formR hR
  have HR := Lib.hid hR
  have hll : (lsM xs).length = xs.length := by unfold lsM; rw [List.length_map]
  have hpk : Hid (∀ k, k < xs.length → isP xs to k = decide (codeL (xs.getD k noS).data.toList = to)) := Lib.hid (fun k hk => by unfold isP; rw [lsM_getD xs k hk])
  have hdef : Hid (firstK (isP xs to) xs.length 0 = isM (lsM xs) to) := Lib.hid (by unfold isM isP; rw [hll])
  have HAA := Lib.hid hA
  have H8 := Lib.hid h8
  clear hR hA h8 hll
  generalize isP xs to = P at *
  generalize hN : xs.length = N at *
  have HN := Lib.hid hN
  clear hN
  go_enter Tryd.func65, Tryd.ntmps65
  go_wp2_with fail
  go_loop [11] (fun i => ∃ k : Nat, k ≤ N ∧ i = .int .i64 k ∧ Hid (firstK P (N - k) k = isM (lsM xs) to)) (fun i => N - (intOf i).toNat)
  case atStart => exact ⟨0, by omega, rfl, hdef.out⟩
  case round =>
    obtain ⟨k, hk, rfl, hf⟩ := hrel
    by_cases hlt : k < N
    · obtain ⟨gg, rfl, hgg⟩ := HAA.out (by omega)
      have hrow := HR.out
      rw [← HN.out] at hrow
      have c0 := hrow.at_ k (by rw [HN.out]; exact hlt)
      have hsz := H8.out k hlt
      have hpe := hpk.out k hlt
      obtain ⟨q, hq⟩ : ∃ q, N - k = q + 1 := ⟨N - k - 1, by omega⟩
      have hq2 : N - (k + 1) = q := by omega
      rw [hq] at hf
      have Hq2 := Lib.hid hq2
      clear hq hq2 hrow
      generalize xs.getD k noS = p at *
      have Hpe := Lib.hid hpe
      clear hpe
      go_wp2_with fail
      go_loop [7, 8] (fun x i => ∃ j : Nat, j ≤ p.size ∧ i = .int .i64 j ∧ x = .int .i64 (codeL (p.data.toList.take j))) (fun _ i => p.size - (intOf i).toNat)
      case atStart => exact ⟨0, by omega, rfl, rfl⟩
      case round =>
        obtain ⟨j, hj, rfl, rfl⟩ := hrel
        have hcl := code_le p j (by omega)
        by_cases hlt2 : j < p.size
        · have hst := code_take p j hlt2
          have hb := bitU_le p[j]
          have hcl2 := code_le p (j + 1) (by omega)
          by_cases hc : p[j] = 104
          · have hc2 : (p[j].toNat : Int) = 104 := by rw [hc]; rfl
            have hb1 : bitU p[j] = 1 := by unfold bitU; rw [if_pos hc]
            rw [hb1] at hst
            have Hst := Lib.hid hst
            have Hc := Lib.hid hc
            have Hb1 := Lib.hid hb1
            clear hst hc hb1 hb
            generalize codeL (p.data.toList.take j) = C at *
            go_wp2_with fail
            exact ⟨⟨j + 1, by omega, by go_num, by rw [Hst.out]; simp; omega⟩, by simp [intOf]; omega⟩
          · have hc2 : ¬ (p[j].toNat : Int) = 104 := by intro e; apply hc; apply UInt8.toNat.inj; show p[j].toNat = 104; omega
            have hb1 : bitU p[j] = 0 := by unfold bitU; rw [if_neg hc]
            rw [hb1] at hst
            have Hst := Lib.hid hst
            have Hc := Lib.hid hc
            have Hb1 := Lib.hid hb1
            clear hst hc hb1 hb
            generalize codeL (p.data.toList.take j) = C at *
            go_wp2_with fail
            exact ⟨⟨j + 1, by omega, by go_num, by rw [Hst.out]; simp; omega⟩, by simp [intOf]; omega⟩
        · obtain rfl : p.size = j := by omega
          have hall : p.data.toList.take p.size = p.data.toList := List.take_of_length_le (by rw [len_list]; exact Nat.le_refl _)
          rw [hall] at hcl ⊢
          by_cases he : codeL p.data.toList = to
          · have hz : Hid (isM (lsM xs) to = some k) := Lib.hid (by rw [← hf.out, firstK_yes (by rw [Hpe.out, decide_eq_true he])])
            have hei : ((codeL p.data.toList : Nat) : Int) = (to : Int) := by omega
            have He := Lib.hid he
            clear he hall
            generalize codeL p.data.toList = C at *
            go_wp2_with fail
            go_ret
            exact ⟨by rw [hz.out]; rfl, rfl⟩
          · have hz : Hid (firstK P (N - (k + 1)) (k + 1) = isM (lsM xs) to) := Lib.hid (by rw [Hq2.out, ← hf.out, firstK_no (by rw [Hpe.out, decide_eq_false he])])
            have hei : (((codeL p.data.toList : Nat) : Int) == (to : Int)) = false := by simp; omega
            have hei2 : ¬ ((codeL p.data.toList : Nat) : Int) = (to : Int) := by omega
            have He := Lib.hid he
            clear he hall
            generalize codeL p.data.toList = C at *
            go_wp2_with fail
            exact ⟨⟨k + 1, by omega, by go_num, hz⟩, by simp [intOf]; omega⟩
    · obtain rfl : k = N := by omega
      have hz : Hid (isM (lsM xs) to = none) := Lib.hid (by rw [← hf.out, Nat.sub_self]; rfl)
      go_wp2_with fail
      go_ret
      exact ⟨by rw [hz.out]; rfl, rfl⟩
end Go.Proofs.YtjckmnbpfmcadacDoor
