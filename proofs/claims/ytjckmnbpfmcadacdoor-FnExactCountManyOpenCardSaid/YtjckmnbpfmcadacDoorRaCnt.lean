/- The model's numbers of won and open races: the contract. -/
import Derived.Test.YtjckmnbpfmcadacDoorRaPur
namespace Go.Proofs.YtjckmnbpfmcadacDoor
set_option linter.unusedSimpArgs false
open Go.ChangeShapes Go.WideShapes Go.ChangeAt Go.RowKit
set_option linter.unusedVariables false

set_option maxRecDepth 100000 in
set_option maxHeartbeats 3200000 in
theorem raCount_any (xs : List ByteArray) (v : Value) (t base L Z1 N1 H : Nat) (w : World) (hR : SRow w base v xs) (hL : L ≤ 5) (hsz : ∀ k, k < xs.length → (xs.getD k noS).size = L) (hH : 2 ^ L = H) (hZ : 2 * H = Z1 + 1) (hH1 : 1 ≤ H) (hH4 : H ≤ 32) (hN : xs.length = N1 + 1) (hN4 : N1 ≤ 3) (ht : t ≤ 30) :
    Calls Tryd.prog 49 #[v, .int .i64 t] w (RowOne (rowF N1 (fun k => cntM (fun i => mvM (lsM xs) L (2 * i + 1)) (fun i => mvM (lsM xs) L (2 * i)) (Z1 + 1) 1 t (Z1 + 1 + k)) ++ [sumJ (cntM (fun i => mvM (lsM xs) L (2 * i + 1)) (fun i => mvM (lsM xs) L (2 * i)) (Z1 + 1) 1 t) (Z1 + 1)]) w) := by
  obtain ⟨A, cap, rfl, hA⟩ := sl_formR hR
  obtain ⟨gg, rfl, hgg⟩ := hA (by omega)
  have c0 := hR.at_ 0 (by omega)
  have hs0 := hsz 0 (by omega)
  have h8 := Lib.hid (fun k hk => by rw [hsz k hk]; omega : ∀ k, k < xs.length → (xs.getD k noS).size ≤ 8)
  generalize xs.getD 0 noS = p0 at *
  have HR := Lib.hid hR
  have HZ := Lib.hid hZ
  have HN := Lib.hid hN
  have HL := Lib.hid hH
  have hmk : ∀ W : World, (Instr.makeSlice 48 (.int .i64 ((Z1 : Int) + 1)) (.int .i64 ((Z1 : Int) + 1))).run Tryd.prog W = .ok (.slice (some ⟨W.heap.size, 0, none⟩) (Z1 + 1) (Z1 + 1)) (W.alloc (.cells (Array.replicate (Z1 + 1) (.int .i64 0)) 3)) := fun W => by
    have := mk_ints (Z1 + 1) (by omega) W
    simpa using this
  have hmk2 : ∀ W : World, (Instr.makeSlice 48 (.int .i64 ((N1 : Int) + 1)) (.int .i64 ((N1 : Int) + 1))).run Tryd.prog W = .ok (.slice (some ⟨W.heap.size, 0, none⟩) (N1 + 1) (N1 + 1)) (W.alloc (.cells (Array.replicate (N1 + 1) (.int .i64 0)) 3)) := fun W => by
    have := mk_ints (N1 + 1) (by omega) W
    simpa using this
  have hsh : wrap64 ((2 : Int) * 2 ^ L) = (Z1 : Int) + 1 := by
    have h1 : (2 : Int) * 2 ^ L = (Z1 : Int) + 1 := by
      have := congrArg (fun n : Nat => (n : Int)) hZ
      rw [← hH] at this
      simpa using this
    rw [h1]
    exact IntWalk.wrap64_in _ ⟨by omega, by omega⟩
  have hm0 := IRow.made w (Z1 + 1) (by omega)
  rw [← rowF_zero] at hm0
  obtain ⟨e0, f0⟩ := rowF_cell hm0 1 (by omega)
  obtain ⟨hs1, hs2⟩ := rowF_store hm0 1 1 (cntM (fun i => mvM (lsM xs) L (2 * i + 1)) (fun i => mvM (lsM xs) L (2 * i)) (Z1 + 1) 1 0) rfl (fun i _ hi => by show (if i = 1 then (1 : Int) else 0) = 0; rw [if_neg hi])
  have heq : (w.alloc (.cells (Array.replicate (Z1 + 1) (.int .i64 0)) 3)).setCell ⟨w.heap.size, 1, none⟩ (.int .i64 1) = w.alloc (.cells ((Array.replicate (Z1 + 1) (.int .i64 0)).setIfInBounds 1 (.int .i64 1)) 3) := by simp [go_sem]
  have hbl0 : Below w.heap.size w ((w.alloc (.cells (Array.replicate (Z1 + 1) (.int .i64 0)) 3)).setCell ⟨w.heap.size, 1, none⟩ (.int .i64 1)) := (bel_alloc (Below.refl _ w) (.cells (Array.replicate (Z1 + 1) (.int .i64 0)) 3)).setCell (Nat.le_refl _) _
  rw [heq] at hs1 hbl0
  generalize hA0 : (Array.replicate (Z1 + 1) (Value.int .i64 0)).setIfInBounds 1 (.int .i64 1) = A0 at *
  have hmW := IRow.made (w.alloc (.cells A0 3)) (N1 + 1) (by omega)
  have Hs1 := Lib.hid (World.ownsRow.alloc hs1 (.cells (Array.replicate (N1 + 1) (.int .i64 0)) 3))
  have Hbl0 := Lib.hid (bel_alloc hbl0 (.cells (Array.replicate (N1 + 1) (.int .i64 0)) 3))
  have HmW := Lib.hid hmW
  have HA0 := Lib.hid hA0
  clear hm0 hs1 hs2 hbl0 heq hmW hA0
  have hz1 : 1 ≤ Z1 := by omega
  have hz63 : Z1 ≤ 63 := by omega
  have hp0 : (0 : Int) < (Z1 : Int) + 1 := by omega
  have hp1 : (1 : Int) < (Z1 : Int) + 1 := by omega
  clear hR hA hZ hsz
  have hMM := Lib.hid (fun s hs => Int.le_trans (cntM_sum (fun i => mvM (lsM xs) L (2 * i + 1)) (fun i => mvM (lsM xs) L (2 * i)) (Z1 + 1) 1 s) (two_le s (by omega)) : ∀ s, s ≤ t → sumJ (cntM (fun i => mvM (lsM xs) L (2 * i + 1)) (fun i => mvM (lsM xs) L (2 * i)) (Z1 + 1) 1 s) (Z1 + 1) ≤ 1099511627776)
  have hNN := Lib.hid (fun s k => cntM_nonneg (fun i => mvM (lsM xs) L (2 * i + 1)) (fun i => mvM (lsM xs) L (2 * i)) (Z1 + 1) 1 s k)
  generalize hF : cntM (fun i => mvM (lsM xs) L (2 * i + 1)) (fun i => mvM (lsM xs) L (2 * i)) (Z1 + 1) 1 = C at *
  have HF := Lib.hid hF
  have HC := Lib.hid (fun s k => by rw [← hF]; rfl : ∀ s k, C (s + 1) k = stp (fun i => mvM (lsM xs) L (2 * i + 1)) (fun i => mvM (lsM xs) L (2 * i)) 1 1 (C s) (Z1 + 1) k)
  have HG := Lib.hid (fun i j hi => by
    match i, hi with
    | 0, _ => rfl
    | 1, _ => rfl : ∀ i j, i < 2 → gI (fun i => mvM (lsM xs) L (2 * i + 1)) (fun i => mvM (lsM xs) L (2 * i)) i j = mvM (lsM xs) L (2 * j + i))
  generalize (fun i => mvM (lsM xs) L (2 * i + 1)) = mH at *
  generalize (fun i => mvM (lsM xs) L (2 * i)) = mT at *
  clear hF
  rw [HN.out]
  go_enter Tryd.func49, Tryd.ntmps49
  go_wp2_with fail
  rw [HA0.out]
  rw [hsh]
  go_loopw [1, 7, 8] (fun x vn vw wr => ∃ r G B, r ≤ t ∧ x = .int .i64 r ∧ vn = .slice (some ⟨G, 0, none⟩) (Z1 + 1) (Z1 + 1) ∧ vw = .slice (some ⟨B, 0, none⟩) (N1 + 1) (N1 + 1) ∧ Hid (IRow wr w.heap.size (slV G Z1) (rowF Z1 (C (t - r)))) ∧ Hid (IRow wr w.heap.size (slV B N1) (rowF N1 (fun k => C (t - r) (Z1 + 1 + k)))) ∧ Below w.heap.size w wr) (fun x _ _ _ => (intOf x).toNat)
  case atStart =>
    refine ⟨t, w.heap.size, w.heap.size + 1, Nat.le_refl _, rfl, rfl, rfl, ?_, ?_, Hbl0.out⟩
    · rw [Nat.sub_self]; exact Hs1.out
    · rw [Nat.sub_self, rowF_congr N1 (g := fun _ => 0) (fun k _ => by rw [← HF.out]; show (if Z1 + 1 + k = 1 then (1 : Int) else 0) = 0; rw [if_neg (by omega)]), rowF_zero]
      have := HmW.out
      rw [show (w.alloc (.cells A0 3)).heap.size = w.heap.size + 1 from by show (w.heap.push _).size = _; simp] at this
      exact IRow.mono this (by omega)
  case round =>
    obtain ⟨r, G, B, hr, rfl, rfl, rfl, hI, hW, hb⟩ := hrel
    obtain ⟨wa, rfl⟩ : ∃ wa : World, wa = wr := ⟨_, rfl⟩
    have hsa := hb.size
    cases r with
    | zero =>
      rw [Nat.sub_zero] at hI hW
      have hMt := hMM.out t (Nat.le_refl _)
      go_wp2_with fail
      go_loop [15, 92] (fun x i => ∃ j : Nat, j ≤ Z1 + 1 ∧ i = .int .i64 j ∧ x = .int .i64 (sumJ (C t) j)) (fun _ i => Z1 + 1 - (intOf i).toNat)
      case atStart => exact ⟨0, by omega, rfl, rfl⟩
      case round =>
        obtain ⟨j, hj, rfl, rfl⟩ := hrel
        have m0 := sumJ_nonneg (g := C t) j (fun i _ => hNN.out t i)
        have m1 := sumJ_mono (f := C t) (Z1 + 1) j hj (fun i _ => hNN.out t i)
        by_cases hlt : j < Z1 + 1
        · obtain ⟨d0, d1⟩ := rowF_cell hI.out j (by omega)
          have m2 := sumJ_mono (f := C t) (Z1 + 1) (j + 1) hlt (fun i _ => hNN.out t i)
          have m3 : sumJ (C t) (j + 1) = sumJ (C t) j + C t j := rfl
          have m4 := hNN.out t j
          have hji : (j : Int) < (Z1 : Int) + 1 := by omega
          rw [m3] at m2
          have M3 := Lib.hid m3
          clear m3
          go_wp2_with fail
          exact ⟨⟨j + 1, by omega, by go_num, by rw [M3.out]⟩, by simp [intOf]; omega⟩
        · obtain rfl : j = Z1 + 1 := by omega
          generalize hSS : sumJ (C t) (Z1 + 1) = S at *
          have HSS := Lib.hid hSS
          clear hSS
          have hfin : Hid (IRow wa w.heap.size (.slice (some ⟨B, 0, none⟩) (N1 + 1) (N1 + 1)) (rowF N1 (fun k => C t (Z1 + 1 + k)))) := hW
          generalize hrw : rowF N1 (fun k => C t (Z1 + 1 + k)) = R at *
          have hRl : R.length = N1 + 1 := by rw [← hrw, rowF_len]
          generalize hV : Value.slice (some ⟨B, 0, none⟩) (N1 + 1) (N1 + 1) = V at *
          clear hV
          go_wp2_with (at_builtin; refine wpList_push1 rfl (.tmp 100) (.tmp 102) rfl _ _ _ hfin.out (by omega) hsa S rfl rfl ?_)
          intro v' w' hown hbel
          go_wp2_with fail
          go_ret
          exact ⟨v', rfl, by rw [HSS.out, hrw]; exact hown, hb.trans hbel⟩
    | succ m =>
      have hs : t - m = t - (m + 1) + 1 := by omega
      have Hs := Lib.hid hs
      clear hs
      generalize hsn : t - (m + 1) = s at *
      have hm1 := IRow.made wa (Z1 + 1) (by omega)
      rw [← rowF_zero] at hm1
      have Hm1 := Lib.hid (World.ownsRow.alloc hm1 (.cells (Array.replicate (N1 + 1) (.int .i64 0)) 3))
      have hm2 := IRow.made (wa.alloc (.cells (Array.replicate (Z1 + 1) (.int .i64 0)) 3)) (N1 + 1) (by omega)
      have hsz1 : (wa.alloc (.cells (Array.replicate (Z1 + 1) (.int .i64 0)) 3)).heap.size = wa.heap.size + 1 := by show (wa.heap.push _).size = _; simp
      rw [hsz1, ← rowF_zero] at hm2
      have Hm2 := Lib.hid (IRow.mono hm2 (show wa.heap.size ≤ wa.heap.size + 1 by omega))
      have Hb2 := Lib.hid (bel_alloc (bel_alloc (Below.refl _ wa) (.cells (Array.replicate (Z1 + 1) (.int .i64 0)) 3)) (.cells (Array.replicate (N1 + 1) (.int .i64 0)) 3))
      clear hm1 hm2 hsz1 hW
      have hMs := hMM.out s (by omega)
      have HR2 := HR.out
      rw [HN.out] at HR2
      have HR3 := Lib.hid HR2
      clear HR2
      have hc : ((m + 1 : Nat) : Int) = (m : Int) + 1 := by omega
      rw [hc]
      clear hc
      go_wp2_with fail
      go_loopw [42] (fun x wr => ∃ j : Nat, j ≤ Z1 + 1 ∧ x = .int .i64 j ∧ Hid (IRow wr wa.heap.size (slV wa.heap.size Z1) (rowF Z1 (stp mH mT 1 1 (C s) j))) ∧ Hid (IRow wr wa.heap.size (slV (wa.heap.size + 1) N1) (rowF N1 (fun k => stp mH mT 1 1 (C s) j (Z1 + 1 + k)))) ∧ Below wa.heap.size wa wr) (fun x _ => Z1 + 1 - (intOf x).toNat)
      case atStart => exact ⟨0, by omega, rfl, Hm1.out, Hm2.out, Hb2.out⟩
      case round =>
        obtain ⟨j, hj, rfl, hX, hY, hbj⟩ := hrel
        obtain ⟨wb, rfl⟩ : ∃ wb : World, wb = wr := ⟨_, rfl⟩
        have hsb := hbj.size
        by_cases hlt : j < Z1 + 1
        · obtain ⟨d0, d1⟩ := rowF_cell (hI.out.below hbj) j (by omega)
          have hfj := hNN.out s j
          have hfM : C s j ≤ 1099511627776 := Int.le_trans (sumJ_ge (Z1 + 1) (fun i _ => hNN.out s i) j hlt) hMs
          have hji : (j : Int) < (Z1 : Int) + 1 := by omega
          have Hbd := Lib.hid (fun i hi k => mdR_in mH mT (C s) (Z1 + 1) j hlt (fun i _ => hNN.out s i) i hi k : ∀ i, i ≤ 2 → ∀ k, 0 ≤ mdR mH mT (C s) j i k ∧ mdR mH mT (C s) j i k ≤ 2 * sumJ (C s) (Z1 + 1))
          have Hst := Lib.hid (fun i hi k => mdR_step mH mT (C s) j i hi k : ∀ i, i < 2 → ∀ k, mdR mH mT (C s) j (i + 1) k = mdR mH mT (C s) j i k + ind (gI mH mT i j) (C s j) k)
          have Hz := Lib.hid (fun h => mdR_zero mH mT (C s) j h : C s j = 0 → ∀ k, stp mH mT 1 1 (C s) j k = stp mH mT 1 1 (C s) (j + 1) k)
          have Hend : Hid (mdR mH mT (C s) j 2 = stp mH mT 1 1 (C s) (j + 1)) := Lib.hid rfl
          have Hbeg : Hid (mdR mH mT (C s) j 0 = stp mH mT 1 1 (C s) j) := Lib.hid rfl
          generalize C s j = y at *
          by_cases hy : y = 0
          · subst hy
            have hzz : stp mH mT 1 1 (C s) j = stp mH mT 1 1 (C s) (j + 1) := funext (Hz.out rfl)
            rw [hzz] at hX hY
            clear hzz
            go_wp2_with fail
            go_loopw [12] (fun x wr => x = .int .i64 0 ∧ wr = wb) (fun x _ => 0)
            case atStart => exact ⟨rfl, rfl⟩
            case round =>
              obtain ⟨rfl, hrr⟩ := hrel
              rw [hrr]
              clear hrr
              go_wp2_with fail
              exact ⟨⟨j + 1, by omega, by go_num, hX, hY, hbj⟩, by simp [intOf]; omega⟩
          · have hy1 : 0 < y := by omega
            rw [← Hbeg.out] at hX hY
            go_wp2_with fail
            go_loopw [12] (fun x wr => ∃ i : Nat, i ≤ 2 ∧ x = .int .i64 i ∧ Hid (IRow wr wa.heap.size (slV wa.heap.size Z1) (rowF Z1 (mdR mH mT (C s) j i))) ∧ Hid (IRow wr wa.heap.size (slV (wa.heap.size + 1) N1) (rowF N1 (fun k => mdR mH mT (C s) j i (Z1 + 1 + k)))) ∧ Below wa.heap.size wa wr) (fun x _ => 2 - (intOf x).toNat)
            case atStart => exact ⟨0, by omega, rfl, hX, hY, hbj⟩
            case round =>
              obtain ⟨i, hi, rfl, hP, hQ, hbi⟩ := hrel
              obtain ⟨wc, rfl⟩ : ∃ wc : World, wc = wr := ⟨_, rfl⟩
              have hsc := hbi.size
              by_cases hi2 : i < 2
              · have hii : (i : Int) < 2 := by omega
                have hgi := HG.out i j hi2
                unfold mvM at hgi
                rw [HL.out, HZ.out] at hgi
                obtain ⟨T, hT⟩ : ∃ T, toM L (2 * j + i) = T := ⟨_, rfl⟩
                rw [hT] at hgi
                have hcall : Calls Tryd.prog 65 #[.slice (some ⟨gg, 0, none⟩) (N1 + 1) cap, .int .i64 (T : Int)] wc fun e w' => e = .returned (isV (isM (lsM xs) T)) ∧ wc = w' := raIs_any xs _ base T wc (HR3.out.below (bel_trans hb hbi)) h8.out (by rw [HN.out]; omega)
                have hT2 : T = if 2 * j + i < Z1 + 1 then 2 * j + i else (2 * j + i) % H + H := by rw [← hT]; unfold toM; rw [HL.out, HZ.out]
                have hTlt : T < Z1 + 1 := by
                  have := Nat.mod_lt (2 * j + i) (show 0 < H by omega)
                  have hzz := HZ.out
                  rw [hT2]
                  split <;> omega
                have hll : (lsM xs).length = N1 + 1 := by unfold lsM; rw [List.length_map]; exact HN.out
                have Hcall := Lib.hid hcall
                clear hcall hT
                by_cases hx : 2 * j + i < Z1 + 1
                · rw [if_pos hx] at hT2
                  have hTi : 2 * (j : Int) + (i : Int) = (T : Int) := by omega
                  have HTi := Lib.hid hTi
                  clear hTi hT2
                  cases hm : isM (lsM xs) T with
                  | some k =>
                    rw [hm] at hgi
                    obtain ⟨k1, _⟩ := isM_some hm
                    rw [hll] at k1
                    have e0 : wc.cell? ⟨wa.heap.size + 1, k, none⟩ = some (.int .i64 (mdR mH mT (C s) j i (Z1 + 1 + k))) := (rowF_cell hQ.out k (by omega)).1
                    have f0 : wc.frozen? ⟨wa.heap.size + 1, k, none⟩ = false := (rowF_cell hQ.out k (by omega)).2
                    obtain ⟨s1, s2⟩ := add_high hP.out hQ.out (by omega) (show k ≤ N1 by omega) (F' := mdR mH mT (C s) j (i + 1)) (y := y) (fun q => by rw [Hst.out i hi2 q, hgi])
                    obtain ⟨m0, m1⟩ := Hbd.out i (by omega) (Z1 + 1 + k)
                    have Hbel : Hid (Below wa.heap.size wa (wc.setCell ⟨wa.heap.size + 1, k, none⟩ (.int .i64 (mdR mH mT (C s) j i (Z1 + 1 + k) + y)))) := hbi.setCell (by show wa.heap.size ≤ wa.heap.size + 1; omega) _
                    have hki : (k : Int) < (N1 : Int) + 1 := by omega
                    have Hs1 := Lib.hid s1
                    have Hs2 := Lib.hid s2
                    have Hm := Lib.hid hm
                    clear s1 s2 hm hgi hP hQ hbi
                    generalize mdR mH mT (C s) j i (Z1 + 1 + k) = X at *
                    have hw1 : IntKind.i64.wrap (X + y) = X + y := IntWalk.i64_in _ (by omega)
                    go_wp2_with fail
                    rw [HTi.out]
                    refine Hcall.out.mono ?_
                    rintro e w2 ⟨rfl, rfl⟩
                    rw [Hm.out, show isV (some k) = .int .i64 (k : Int) from rfl]
                    go_wp2_with fail
                    exact ⟨⟨i + 1, by omega, by go_num, Hs1.out, Hs2.out, Hbel.out⟩, by simp [intOf]; omega⟩
                  | none =>
                    rw [hm] at hgi
                    have e0 : wc.cell? ⟨wa.heap.size, T, none⟩ = some (.int .i64 (mdR mH mT (C s) j i T)) := (rowF_cell hP.out T (by omega)).1
                    have f0 : wc.frozen? ⟨wa.heap.size, T, none⟩ = false := (rowF_cell hP.out T (by omega)).2
                    obtain ⟨s1, s2⟩ := add_low hP.out hQ.out (by omega) (show T ≤ Z1 by omega) (F' := mdR mH mT (C s) j (i + 1)) (y := y) (fun q => by rw [Hst.out i hi2 q, hgi])
                    obtain ⟨m0, m1⟩ := Hbd.out i (by omega) T
                    have Hbel : Hid (Below wa.heap.size wa (wc.setCell ⟨wa.heap.size, T, none⟩ (.int .i64 (mdR mH mT (C s) j i T + y)))) := hbi.setCell (Nat.le_refl _) _
                    have hki : (T : Int) < (Z1 : Int) + 1 := by omega
                    have Hs1 := Lib.hid s1
                    have Hs2 := Lib.hid s2
                    have Hm := Lib.hid hm
                    clear s1 s2 hm hgi hP hQ hbi
                    generalize mdR mH mT (C s) j i T = X at *
                    have hw1 : IntKind.i64.wrap (X + y) = X + y := IntWalk.i64_in _ (by omega)
                    go_wp2_with fail
                    rw [HTi.out]
                    refine Hcall.out.mono ?_
                    rintro e w2 ⟨rfl, rfl⟩
                    rw [Hm.out, show isV none = .int .i64 (-1) from rfl]
                    go_wp2_with fail
                    exact ⟨⟨i + 1, by omega, by go_num, Hs1.out, Hs2.out, Hbel.out⟩, by simp [intOf]; omega⟩
                · rw [if_neg hx] at hT2
                  have hTi : wrap64 ((2 * (j : Int) + (i : Int)) % (((Z1 : Int) + 1) / 2) + ((Z1 : Int) + 1) / 2) = (T : Int) := by
                    have hzz := HZ.out
                    have hq : ((Z1 : Int) + 1) / 2 = (H : Int) := by omega
                    rw [hq, show (2 * (j : Int) + (i : Int)) % (H : Int) + (H : Int) = (T : Int) from by rw [hT2]; simp]
                    exact IntWalk.wrap64_in _ ⟨by omega, by omega⟩
                  have HTi := Lib.hid hTi
                  clear hTi hT2
                  cases hm : isM (lsM xs) T with
                  | some k =>
                    rw [hm] at hgi
                    obtain ⟨k1, _⟩ := isM_some hm
                    rw [hll] at k1
                    have e0 : wc.cell? ⟨wa.heap.size + 1, k, none⟩ = some (.int .i64 (mdR mH mT (C s) j i (Z1 + 1 + k))) := (rowF_cell hQ.out k (by omega)).1
                    have f0 : wc.frozen? ⟨wa.heap.size + 1, k, none⟩ = false := (rowF_cell hQ.out k (by omega)).2
                    obtain ⟨s1, s2⟩ := add_high hP.out hQ.out (by omega) (show k ≤ N1 by omega) (F' := mdR mH mT (C s) j (i + 1)) (y := y) (fun q => by rw [Hst.out i hi2 q, hgi])
                    obtain ⟨m0, m1⟩ := Hbd.out i (by omega) (Z1 + 1 + k)
                    have Hbel : Hid (Below wa.heap.size wa (wc.setCell ⟨wa.heap.size + 1, k, none⟩ (.int .i64 (mdR mH mT (C s) j i (Z1 + 1 + k) + y)))) := hbi.setCell (by show wa.heap.size ≤ wa.heap.size + 1; omega) _
                    have hki : (k : Int) < (N1 : Int) + 1 := by omega
                    have Hs1 := Lib.hid s1
                    have Hs2 := Lib.hid s2
                    have Hm := Lib.hid hm
                    clear s1 s2 hm hgi hP hQ hbi
                    generalize mdR mH mT (C s) j i (Z1 + 1 + k) = X at *
                    have hw1 : IntKind.i64.wrap (X + y) = X + y := IntWalk.i64_in _ (by omega)
                    go_wp2_with fail
                    rw [HTi.out]
                    refine Hcall.out.mono ?_
                    rintro e w2 ⟨rfl, rfl⟩
                    rw [Hm.out, show isV (some k) = .int .i64 (k : Int) from rfl]
                    go_wp2_with fail
                    exact ⟨⟨i + 1, by omega, by go_num, Hs1.out, Hs2.out, Hbel.out⟩, by simp [intOf]; omega⟩
                  | none =>
                    rw [hm] at hgi
                    have e0 : wc.cell? ⟨wa.heap.size, T, none⟩ = some (.int .i64 (mdR mH mT (C s) j i T)) := (rowF_cell hP.out T (by omega)).1
                    have f0 : wc.frozen? ⟨wa.heap.size, T, none⟩ = false := (rowF_cell hP.out T (by omega)).2
                    obtain ⟨s1, s2⟩ := add_low hP.out hQ.out (by omega) (show T ≤ Z1 by omega) (F' := mdR mH mT (C s) j (i + 1)) (y := y) (fun q => by rw [Hst.out i hi2 q, hgi])
                    obtain ⟨m0, m1⟩ := Hbd.out i (by omega) T
                    have Hbel : Hid (Below wa.heap.size wa (wc.setCell ⟨wa.heap.size, T, none⟩ (.int .i64 (mdR mH mT (C s) j i T + y)))) := hbi.setCell (Nat.le_refl _) _
                    have hki : (T : Int) < (Z1 : Int) + 1 := by omega
                    have Hs1 := Lib.hid s1
                    have Hs2 := Lib.hid s2
                    have Hm := Lib.hid hm
                    clear s1 s2 hm hgi hP hQ hbi
                    generalize mdR mH mT (C s) j i T = X at *
                    have hw1 : IntKind.i64.wrap (X + y) = X + y := IntWalk.i64_in _ (by omega)
                    go_wp2_with fail
                    rw [HTi.out]
                    refine Hcall.out.mono ?_
                    rintro e w2 ⟨rfl, rfl⟩
                    rw [Hm.out, show isV none = .int .i64 (-1) from rfl]
                    go_wp2_with fail
                    exact ⟨⟨i + 1, by omega, by go_num, Hs1.out, Hs2.out, Hbel.out⟩, by simp [intOf]; omega⟩
              · obtain rfl : i = 2 := by omega
                rw [Hend.out] at hP hQ
                go_wp2_with fail
                exact ⟨⟨j + 1, by omega, by go_num, hP, hQ, hbi⟩, by simp [intOf]; omega⟩
        · obtain rfl : j = Z1 + 1 := by omega
          have hfn : stp mH mT 1 1 (C s) (Z1 + 1) = C (s + 1) := (funext (HC.out s)).symm
          rw [hfn, ← Hs.out] at hX hY
          clear hfn
          go_wp2_with fail
          exact ⟨⟨m, wa.heap.size, wa.heap.size + 1, by omega, by go_num, rfl, rfl, IRow.mono hX.out hsa, IRow.mono hY.out hsa, bel_trans hb hbj⟩, by simp [intOf]⟩
end Go.Proofs.YtjckmnbpfmcadacDoor
