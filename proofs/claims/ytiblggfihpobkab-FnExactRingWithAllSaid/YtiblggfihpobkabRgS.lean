/- RingWithAll: the contract of the model, and the walk. -/
import Derived.Test.YtiblggfihpobkabRg
import Derived.Test.YtiblggfihpobkabRgA
namespace Go.Proofs.Ytiblggfihpobkab
set_option linter.unusedSimpArgs false
open Go.ChangeShapes Go.WideShapes Go.ChangeAt Go.RowKit
set_option linter.unusedVariables false

theorem ins_len (W : List ByteArray) (w : ByteArray) : (ins W w).length = W.length + 1 := by
  unfold ins
  rw [List.length_append, List.length_append, List.length_take, List.length_drop]
  have := (insAt_in W w W.length).1
  simp
  omega
theorem insAll_len : ∀ (ws W : List ByteArray), (ws.foldl ins W).length = W.length + ws.length
  | [], W => by simp
  | w :: ws, W => by
    rw [List.foldl_cons, insAll_len ws, ins_len, List.length_cons]
    omega
theorem ins_step (p W : List ByteArray) (i : Nat) (hi : i < p.length) : (p.take (i + 1)).foldl ins W = ins ((p.take i).foldl ins W) (p.getD i ByteArray.empty) := by
  rw [List.take_succ_eq_append_getElem hi, List.foldl_append, getD_of hi]
  rfl
theorem ins_ne (p W : List ByteArray) (i : Nat) (hi : i < p.length) : (p.take (i + 1)).foldl ins W = [] → False := by
  intro e
  have := congrArg List.length e
  rw [insAll_len, List.length_take] at this
  simp only [List.length_nil] at this
  omega
theorem pow_up (n j k : Nat) (n1 : 1 ≤ n) (h : j ≤ k) : n ^ j ≤ n ^ k := Nat.pow_le_pow_right n1 h
theorem ringK_len (n L : Nat) (n1 : 1 ≤ n) (hq : n ^ L ≤ 300) : ∀ k, k ≤ L → (ringK n L k).length ≤ k * 300
  | 0, _ => by simp [ringK]
  | k + 1, h => by
    have ih := ringK_len n L n1 hq k (by omega)
    unfold ringK
    split
    · rw [insAll_len]
      have := pwL_len n (k + 1) (n ^ (k + 1))
      have := pow_up n (k + 1) L n1 h
      generalize n ^ (k + 1) = q at *
      generalize n ^ L = r at *
      omega
    · refine Nat.le_trans ih ?_
      clear ih hq
      omega
theorem gt_lt (x w : ByteArray) : (!(ltS x w || decide (x = w))) = ltS w x := by
  cases h : ltS w x
  · by_cases e : x = w
    · simp [e]
    · simp [ltS_tri h (fun q => e q.symm)]
  · have h2 := ltS_asym h
    have hne : ¬ x = w := by rintro rfl; rw [h2] at h; cases h
    simp [h2, hne]
theorem bl_gt (x w : ByteArray) : (!(Op.bytesLess x.toList w.toList || x.toList == w.toList)) = ltS w x := by
  rw [bl_lt, ba_bq, gt_lt]
set_option maxRecDepth 100000 in
set_option maxHeartbeats 3200000 in
theorem specRg_any (a b : Int) (w : World) :
    Calls Try.prog 10 #[.int .i64 a, .int .i64 b] w fun e w' => e = .returned (ansRg a b) ∧ Below w.heap.size w w' := by
  cases h1 : fwG a b
  · rw [show ansRg a b = .tuple #[.string ⟨#[]⟩, .bool false] from by unfold ansRg; rw [h1]; rfl]
    go_enter Try.func10, Try.ntmps10
    go_wp2_with fail
    refine (woFew_any a b _).mono ?_
    rintro e w' ⟨rfl, rfl⟩
    rw [h1]
    go_wp2_with fail
    go_ret2
    exact ⟨rfl, Below.refl _ _⟩
  · obtain ⟨n, L, rfl, rfl, n1, n2, l1, l2, hq⟩ := fw_nat h1
    rw [show ansRg n L = .tuple #[.string (ccB (ringK n L L)), .bool true] from by unfold ansRg; rw [h1, ring_dfs n L n1 n2]; rfl]
    have Hq := Lib.hid hq
    have hsz8 : Hid (∀ x ∈ ringK n L L, x.size ≤ 8) := Lib.hid (by rw [ring_dfs n L n1 n2]; exact dfs_size n _ n1 n2 L l2)
    clear hq
    go_enter Try.func10, Try.ntmps10
    go_wp2_with fail
    refine (woFew_any n L _).mono ?_
    rintro e w' ⟨rfl, rfl⟩
    rw [h1]
    clear h1
    go_wp2_with fail
    go_loopw [6, 7] (fun v x wr => ∃ k : Nat, k ≤ L ∧ x = .int .i64 ((k : Int) + 1) ∧ Hid (SRow wr w.heap.size v (ringK n L k)) ∧ Hid (ringK n L k = [] → v = .slice none 0 0) ∧ Below w.heap.size w wr) (fun _ x _ => L + 1 - (intOf x).toNat)
    case atStart => exact ⟨0, by omega, rfl, SRow.nil _ _, Lib.hid (fun _ => rfl), Below.refl _ _⟩
    case round =>
      obtain ⟨k, hk, rfl, hI, hnil, hb⟩ := hrel
      obtain ⟨wa, rfl⟩ : ∃ wa : World, wa = wr := ⟨_, rfl⟩
      have hsa := hb.size
      by_cases hlt : k < L
      · have hn0 : ¬ ((k : Int) + 1) = 0 := by omega
        have hnb : (((k : Int) + 1) == 0) = false := by simpa using hn0
        have htm : (L : Int).tmod ((k : Int) + 1) = ((L % (k + 1) : Nat) : Int) := rem_nat L (k + 1)
        have hem : (L : Int) % ((k : Int) + 1) = ((L % (k + 1) : Nat) : Int) := rfl
        have hm8 : L % (k + 1) ≤ 8 := Nat.le_trans (Nat.mod_le _ _) l2
        have hz : ((k : Int) + 1) ≤ (L : Int) := by omega
        have hnx : ringK n L (k + 1) = if L % (k + 1) = 0 then (pwL n (k + 1) (n ^ (k + 1))).foldl ins (ringK n L k) else ringK n L k := rfl
        by_cases hq : L % (k + 1) = 0
        · rw [if_pos hq] at hnx
          rw [hq] at htm hem
          have hp3 := Nat.le_trans (pow_up n (k + 1) L n1 (by omega)) Hq.out
          have hpl := pwL_len n (k + 1) (n ^ (k + 1))
          have hrl := ringK_len n L n1 Hq.out k hk
          have Hnx := Lib.hid hnx
          have Hp3 := Lib.hid hp3
          clear hq hm8 hnx
          obtain ⟨pw, hpw⟩ : ∃ pw, pw = pwL n (k + 1) (n ^ (k + 1)) := ⟨_, rfl⟩
          rw [← hpw] at hpl Hnx
          have hpN : pw.length ≤ 300 := by omega
          have Hpw := Lib.hid hpw
          obtain ⟨W0, hW0⟩ : ∃ W0, W0 = ringK n L k := ⟨_, rfl⟩
          rw [← hW0] at hrl Hnx hI hnil
          have HW0 := Lib.hid hW0
          clear hpw hp3 hpl hW0
          have hrl2 : W0.length ≤ 2400 := by omega
          clear hrl
          go_wp2_with fail
          refine (woPrimes_any n (k + 1) _ n1 n2 (by omega) (by omega) Hp3.out).mono ?_
          rintro e w1 ⟨vp, rfl, rp, b1⟩
          rw [← Hpw.out] at rp
          have HRp0 := Lib.hid rp
          have hbl1 := bel_trans hb b1
          have HI1 := Lib.hid (hI.out.below b1)
          clear rp hI
          rcases HRp0.out.form with ⟨hxp, Ap, capp, rfl⟩ | ⟨hxp, gp, capp, rfl, _, hglp, hlcp, hcmp⟩
          · have hfin : Hid (ringK n L (k + 1) = W0) := Lib.hid (by rw [Hnx.out, hxp]; rfl)
            clear hxp HRp0
            go_wp2_with fail
            go_loopw [6, 32] (fun v x wr => x = .int .i64 0 ∧ Hid (SRow wr w.heap.size v W0) ∧ Hid (W0 = [] → v = .slice none 0 0) ∧ Below w.heap.size w wr) (fun _ _ _ => 0)
            case atStart => exact ⟨rfl, HI1, hnil, hbl1⟩
            case round =>
              obtain ⟨rfl, hI2, hnil2, hbl2⟩ := hrel
              go_wp2_with fail
              exact ⟨⟨k + 1, by omega, by go_num, by rw [hfin.out]; exact hI2, by rw [hfin.out]; exact hnil2, hbl2⟩, by simp [intOf]; omega⟩
          · unfold maxLen at hcmp
            generalize hNp : pw.length = Np at *
            have HNp := Lib.hid hNp
            clear hNp
            go_wp2_with fail
            go_loopw [6, 32] (fun v x wr => ∃ i : Nat, i ≤ Np ∧ x = .int .i64 i ∧ Hid (SRow wr w.heap.size v ((pw.take i).foldl ins W0)) ∧ Hid ((pw.take i).foldl ins W0 = [] → v = .slice none 0 0) ∧ Hid (SRow wr wa.heap.size (.slice (some ⟨gp, 0, none⟩) Np capp) pw) ∧ Below w.heap.size w wr) (fun _ x _ => Np - (intOf x).toNat)
            case atStart => exact ⟨0, by omega, rfl, HI1, hnil, HRp0, hbl1⟩
            case round =>
              obtain ⟨i, hi, rfl, hI2, hnil2, HRp, hbl2⟩ := hrel
              have hsr := hbl2.size
              by_cases hlt2 : i < Np
              · have hiN : i < pw.length := by rw [HNp.out]; exact hlt2
                have hld := HRp.out
                rw [← HNp.out] at hld
                replace hld := hld.at_ i hiN
                obtain ⟨tw, htw⟩ : ∃ tw, tw = pw.getD i ByteArray.empty := ⟨_, rfl⟩
                rw [← htw] at hld
                have HStep := Lib.hid (ins_step pw W0 i hiN)
                rw [← htw] at HStep
                clear htw
                obtain ⟨Wd, hWd⟩ : ∃ Wd, Wd = (pw.take i).foldl ins W0 := ⟨_, rfl⟩
                rw [← hWd] at HStep hI2 hnil2
                have hWl : Wd.length ≤ 2700 := by rw [hWd, insAll_len, List.length_take]; omega
                clear hWd
                rcases hI2.out.form with ⟨hxw, Aw, capw, hvw⟩ | ⟨hxw, gw, capw, rfl, hbw, hglw, hlcw, hcmw⟩
                · clear hvw
                  obtain rfl := hnil2.out hxw
                  subst hxw
                  clear hnil2 hI2
                  go_wp2_with fail
                  go_loopw [10] (fun c wr2 => c = .int .i64 0 ∧ wr2 = wr) (fun _ _ => 0)
                  case atStart => exact ⟨rfl, rfl⟩
                  case round =>
                    obtain ⟨rfl, rfl⟩ := hrel
                    go_wp2_with fail
                    refine (l1Own_any [] _ wr (.inl ⟨rfl, rfl⟩) (by simp)).mono ?_
                    rintro e w5 ⟨v5, rfl, r5, b5⟩
                    have R5 := Lib.hid r5
                    have s5 := b5.size
                    clear r5
                    go_wp2_with (at_builtin; refine wpList_pushS1 tw rfl (.tmp 54) (.tmp 56) rfl wr.heap.size v5 [] R5.out (by simp) s5 rfl rfl ?_)
                    intro v6 w6 r6 b6
                    have b56 := b5.trans b6
                    have R6 := Lib.hid r6
                    have HB56 := Lib.hid b56
                    have s6 := b56.size
                    clear r6 b6 b56
                    go_wp2_with (at_builtin; refine wpList_pushG [] rfl (.tmp 58) (.tmp 61) rfl wr.heap.size v6 _ _ R6.out (by simp) s6 rfl rfl (.inl ⟨rfl, rfl⟩) ?_)
                    intro v7 w7 r7 b7
                    have R7 := Lib.hid r7
                    have HB77 := Lib.hid (HB56.out.trans b7)
                    clear r7 b7
                    go_wp2_with fail
                    exact ⟨⟨i + 1, by omega, by go_num, by rw [HStep.out]; exact Lib.hid (R7.out.mono hsr), Lib.hid (fun e => (ins_ne _ _ _ hiN e).elim), Lib.hid (HRp.out.below HB77.out), bel_trans hbl2 HB77.out⟩, by simp [intOf]; omega⟩
                · clear hnil2
                  unfold maxLen at hcmw
                  obtain ⟨Nw, hNw⟩ : ∃ Nw, Nw = Wd.length := ⟨_, rfl⟩
                  rw [← hNw] at hxw hI2 hlcw hWl ⊢
                  have HNw := Lib.hid hNw
                  clear hNw
                  go_wp2_with fail
                  go_loopw [10] (fun c wr2 => ∃ m : Nat, m ≤ Nw ∧ c = .int .i64 m ∧ Hid (insAt Wd tw m = insAt Wd tw Wd.length) ∧ wr2 = wr) (fun c _ => (intOf c).toNat)
                  case atStart => exact ⟨Nw, Nat.le_refl _, rfl, Lib.hid (by rw [HNw.out]), rfl⟩
                  case round =>
                    obtain ⟨m, hm, rfl, hat, hwe⟩ := hrel
                    obtain rfl := hwe
                    rcases Nat.eq_zero_or_pos m with hm0 | hm0
                    · subst hm0
                      have hwf := hI2.out
                      rw [HNw.out] at hwf
                      have ha := Src.of_row (v := .bool true) hwf 0 0 capw (Nat.zero_le _) (by rw [← HNw.out]; omega)
                      rw [Nat.sub_zero, List.drop_zero] at ha
                      have HA := Lib.hid ha
                      have hbq := Src.of_row (v := .bool true) hwf 0 Wd.length (capw - 0) (by rw [← HNw.out]; omega) (Nat.le_refl _)
                      rw [List.take_length, ← HNw.out] at hbq
                      rw [List.drop_zero] at hbq
                      have HB := Lib.hid hbq
                      clear hwf ha hbq
                      have Hins : Hid (ins Wd tw = tw :: Wd) := Lib.hid (by unfold ins; rw [← hat.out]; rfl)
                      go_wp2_with fail
                      refine (l1Own_any (Wd.take 0) _ wr HA.out (by rw [List.length_take]; omega)).mono ?_
                      rintro e w5 ⟨v5, rfl, r5, b5⟩
                      have R5 := Lib.hid r5
                      have s5 := b5.size
                      clear r5
                      go_wp2_with (at_builtin; refine wpList_pushS1 tw rfl (.tmp 54) (.tmp 56) rfl wr.heap.size v5 (Wd.take 0) R5.out (by rw [List.length_take]; omega) s5 rfl rfl ?_)
                      intro v6 w6 r6 b6
                      have b56 := b5.trans b6
                      have R6 := Lib.hid r6
                      have HB56 := Lib.hid b56
                      have s6 := b56.size
                      clear r6 b6 b56
                      go_wp2_with (at_builtin; refine wpList_pushG Wd rfl (.tmp 58) (.tmp 61) rfl wr.heap.size v6 _ _ R6.out (by have := HNw.out; simp; omega) s6 rfl rfl (HB.out.below HB56.out) ?_)
                      intro v7 w7 r7 b7
                      have R7 := Lib.hid r7
                      have HB77 := Lib.hid (HB56.out.trans b7)
                      clear r7 b7
                      go_wp2_with fail
                      exact ⟨⟨i + 1, by omega, by go_num, by rw [HStep.out, Hins.out]; exact Lib.hid (R7.out.mono hsr), Lib.hid (fun e => (ins_ne _ _ _ hiN e).elim), Lib.hid (HRp.out.below HB77.out), bel_trans hbl2 HB77.out⟩, by simp [intOf]; omega⟩
                    · obtain ⟨m, rfl⟩ : ∃ m', m = m' + 1 := ⟨m - 1, by omega⟩
                      have hwl := hI2.out
                      rw [HNw.out] at hwl
                      replace hwl := hwl.at_ m (by rw [← HNw.out]; omega)
                      obtain ⟨x, hx⟩ : ∃ x, x = Wd.getD m ByteArray.empty := ⟨_, rfl⟩
                      rw [← hx] at hwl
                      have hbg := bl_gt x tw
                      have hst : insAt Wd tw (m + 1) = if ltS tw x then insAt Wd tw m else m + 1 := by rw [hx]; rfl
                      clear hx
                      cases hc : ltS tw x
                      · rw [hc] at hst hbg
                        have Hst := Lib.hid hst
                        clear hst hc
                        have hwf := hI2.out
                        rw [HNw.out] at hwf
                        have ha := Src.of_row (v := .bool true) hwf 0 (m + 1) capw (Nat.zero_le _) (by rw [← HNw.out]; omega)
                        rw [Nat.sub_zero, List.drop_zero] at ha
                        have HA := Lib.hid ha
                        have hbq := Src.of_row (v := .bool true) hwf (m + 1) Wd.length (capw - (m + 1)) (by rw [← HNw.out]; omega) (Nat.le_refl _)
                        rw [List.take_length, ← HNw.out] at hbq
                        have HB := Lib.hid hbq
                        clear hwf ha hbq
                        have Hins : Hid (ins Wd tw = Wd.take (m + 1) ++ tw :: Wd.drop (m + 1)) := Lib.hid (by unfold ins; rw [← hat.out, Hst.out, List.append_assoc]; rfl)
                        by_cases hcap : capw = m + 1
                        · subst hcap
                          obtain rfl : Nw = m + 1 := by omega
                          have Hins2 : Hid (ins Wd tw = Wd.take (m + 1) ++ [tw]) := Lib.hid (by rw [Hins.out, List.drop_eq_nil_of_le (by rw [← HNw.out]; exact Nat.le_refl _)])
                          go_wp2_with fail
                          refine (l1Own_any (Wd.take (m + 1)) _ wr HA.out (by rw [List.length_take]; omega)).mono ?_
                          rintro e w5 ⟨v5, rfl, r5, b5⟩
                          have R5 := Lib.hid r5
                          have s5 := b5.size
                          clear r5
                          go_wp2_with (at_builtin; refine wpList_pushS1 tw rfl (.tmp 54) (.tmp 56) rfl wr.heap.size v5 (Wd.take (m + 1)) R5.out (by rw [List.length_take]; omega) s5 rfl rfl ?_)
                          intro v6 w6 r6 b6
                          have b56 := b5.trans b6
                          have R6 := Lib.hid r6
                          have HB56 := Lib.hid b56
                          have s6 := b56.size
                          clear r6 b6 b56
                          go_wp2_with (at_builtin; refine wpList_pushG [] rfl (.tmp 58) (.tmp 61) rfl wr.heap.size v6 _ _ R6.out (by have := HNw.out; simp; omega) s6 rfl rfl (by first | exact .inl ⟨rfl, rfl⟩ | exact .inr ⟨_, _, rfl, fun j hj => absurd hj (Nat.not_lt_zero _)⟩) ?_)
                          intro v7 w7 r7 b7
                          have R7 := Lib.hid r7
                          have HB77 := Lib.hid (HB56.out.trans b7)
                          clear r7 b7
                          go_wp2_with fail
                          exact ⟨⟨i + 1, by omega, by go_num, by rw [HStep.out, Hins2.out]; exact Lib.hid (R7.out.mono hsr), Lib.hid (fun e => (ins_ne _ _ _ hiN e).elim), Lib.hid (HRp.out.below HB77.out), bel_trans hbl2 HB77.out⟩, by simp [intOf]; omega⟩
                        · have hcap2 : m + 1 < capw := by omega
                          go_wp2_with fail
                          refine (l1Own_any (Wd.take (m + 1)) _ wr HA.out (by rw [List.length_take]; omega)).mono ?_
                          rintro e w5 ⟨v5, rfl, r5, b5⟩
                          have R5 := Lib.hid r5
                          have s5 := b5.size
                          clear r5
                          go_wp2_with (at_builtin; refine wpList_pushS1 tw rfl (.tmp 54) (.tmp 56) rfl wr.heap.size v5 (Wd.take (m + 1)) R5.out (by rw [List.length_take]; omega) s5 rfl rfl ?_)
                          intro v6 w6 r6 b6
                          have b56 := b5.trans b6
                          have R6 := Lib.hid r6
                          have HB56 := Lib.hid b56
                          have s6 := b56.size
                          clear r6 b6 b56
                          go_wp2_with (at_builtin; refine wpList_pushG (Wd.drop (m + 1)) rfl (.tmp 58) (.tmp 61) rfl wr.heap.size v6 _ _ R6.out (by have := HNw.out; simp; omega) s6 rfl rfl (HB.out.below HB56.out) ?_)
                          intro v7 w7 r7 b7
                          have R7 := Lib.hid r7
                          have HB77 := Lib.hid (HB56.out.trans b7)
                          clear r7 b7
                          go_wp2_with fail
                          exact ⟨⟨i + 1, by omega, by go_num, by rw [HStep.out, Hins.out]; exact Lib.hid (R7.out.mono hsr), Lib.hid (fun e => (ins_ne _ _ _ hiN e).elim), Lib.hid (HRp.out.below HB77.out), bel_trans hbl2 HB77.out⟩, by simp [intOf]; omega⟩
                      · rw [hc] at hst hbg
                        have Hst := Lib.hid hst
                        clear hst hc
                        go_wp2_with fail
                        exact ⟨⟨m, by omega, by go_num, Lib.hid (by rw [← hat.out, Hst.out]; rfl), trivial⟩, by simp [intOf]⟩
              · obtain rfl : i = Np := by omega
                have hfin : Hid (ringK n L (k + 1) = (pw.take i).foldl ins W0) := Lib.hid (by rw [Hnx.out, ← HNp.out, List.take_length])
                go_wp2_with fail
                exact ⟨⟨k + 1, by omega, by go_num, by rw [hfin.out]; exact hI2, by rw [hfin.out]; exact hnil2, hbl2⟩, by simp [intOf]; omega⟩
        · rw [if_neg hq] at hnx
          have Hnx := Lib.hid hnx
          clear hnx
          generalize L % (k + 1) = q at *
          have hqz : ¬ (q : Int) = 0 := by omega
          have hqi : ((q : Int) == 0) = false := by simpa using hqz
          have hqb : (q == 0) = false := by simpa using hq
          have hw1 : IntKind.i64.wrap (q : Int) = (q : Int) := IntWalk.i64_in _ (by omega)
          go_wp2_with fail
          exact ⟨⟨k + 1, by omega, by go_num, by rw [Hnx.out]; exact hI, by rw [Hnx.out]; exact hnil, hb⟩, by simp [intOf]; omega⟩
      · obtain rfl : k = L := by omega
        obtain ⟨Wd, hWd⟩ : ∃ Wd, Wd = ringK n k k := ⟨_, rfl⟩
        rw [← hWd] at hI hnil
        have hWl : Wd.length ≤ 2400 := by
          have := ringK_len n k n1 Hq.out k hk
          rw [← hWd] at this
          omega
        have HWd := Lib.hid hWd
        clear hWd
        rcases hI.out.form with ⟨hxw, Aw, capw, hvw⟩ | ⟨hxw, gw, capw, rfl, hbw, hglw, hlcw, hcmw⟩
        · clear hvw
          obtain rfl := hnil.out hxw
          clear hnil hI
          go_wp2_with fail
          go_loopw [12, 66] (fun s x wr2 => s = .string ⟨#[]⟩ ∧ x = .int .i64 0 ∧ wr2 = wa) (fun _ _ _ => 0)
          case atStart => exact ⟨rfl, rfl, rfl⟩
          case round =>
            obtain ⟨rfl, rfl, hwe⟩ := hrel
            obtain rfl := hwe
            go_wp2_with fail
            go_ret2
            refine ⟨?_, hb⟩
            rw [← HWd.out, hxw]
            rfl
        · clear hnil
          unfold maxLen at hcmw
          obtain ⟨Nw, hNw⟩ : ∃ Nw, Nw = Wd.length := ⟨_, rfl⟩
          rw [← hNw] at hxw hI hlcw hWl ⊢
          have HNw := Lib.hid hNw
          clear hNw
          go_wp2_with fail
          go_loopw [12, 66] (fun s x wr2 => ∃ i : Nat, i ≤ Nw ∧ s = .string (ccB (Wd.take i)) ∧ x = .int .i64 i ∧ wr2 = wa) (fun _ x _ => Nw - (intOf x).toNat)
          case atStart => exact ⟨0, Nat.zero_le _, rfl, rfl, rfl⟩
          case round =>
            obtain ⟨i, hi, rfl, rfl, hwe⟩ := hrel
            obtain rfl := hwe
            by_cases hlt3 : i < Nw
            · have hld := hI.out
              rw [HNw.out] at hld
              replace hld := hld.at_ i (by rw [← HNw.out]; exact hlt3)
              obtain ⟨x, hx⟩ : ∃ x, x = Wd.getD i ByteArray.empty := ⟨_, rfl⟩
              rw [← hx] at hld
              have Hx : Hid (ccB (Wd.take (i + 1)) = ccB (Wd.take i) ++ x) := Lib.hid (by
                have hiw : i < Wd.length := by rw [← HNw.out]; exact hlt3
                rw [List.take_succ_eq_append_getElem hiw, ccB_app, hx, getD_of hiw])
              have hsz : (ccB (Wd.take i)).size + x.size ≤ 100000 := by
                have h1 := cc_len 8 (Wd.take (i + 1)) (fun y hy => hsz8.out y (by rw [← HWd.out]; exact List.mem_of_mem_take hy))
                rw [← ccB_list, Hx.out, app_list, List.length_append, len_list, len_list, List.length_take] at h1
                omega
              have hsz2 : ¬ 9223372036854775807 < (ccB (Wd.take i)).size + x.size := by omega
              clear hx
              go_wp2_with fail
              exact ⟨⟨i + 1, by omega, by rw [Hx.out], by go_num, trivial⟩, by simp [intOf]; omega⟩
            · obtain rfl : i = Nw := by omega
              go_wp2_with fail
              go_ret2
              refine ⟨?_, hb⟩
              rw [HNw.out, List.take_length, HWd.out]
              rfl
end Go.Proofs.Ytiblggfihpobkab
