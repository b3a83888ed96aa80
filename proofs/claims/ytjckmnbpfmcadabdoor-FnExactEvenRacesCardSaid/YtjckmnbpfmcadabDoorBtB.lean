/- BeatenBy and EvenRaces: contracts of the program and of its model, and the walks. -/
import Derived.Test.YtjckmnbpfmcadabDoorRvW
namespace Go.Proofs.YtjckmnbpfmcadabDoor
set_option linter.unusedSimpArgs false
open Go.ChangeShapes Go.WideShapes Go.ChangeAt Go.RowKit
set_option linter.unusedVariables false

def qBeat (f s : Int) : Bool := decide (s < f)
def qEven (f s : Int) : Bool := decide (f = 1) && decide (s = 1)
theorem oddsEven_any (f s : Int) (w : World) : Calls Tryd.prog 64 #[odV f s] w fun e w' => e = .returned (.bool (qEven f s)) ∧ Below w.heap.size w w' := by
  by_cases h1 : f = 1
  · subst h1
    by_cases h2 : s = 1
    · subst h2
      go_enter Tryd.func64, Tryd.ntmps64
      go_wp2
      go_ret
      exact ⟨rfl, bel_alloc (Below.refl _ _) _⟩
    · have hq : qEven 1 s = false := by unfold qEven; simp [h2]
      have hd : (s == 1) = false := by simpa using h2
      rw [hq]
      go_enter Tryd.func64, Tryd.ntmps64
      go_wp2
      go_ret
      exact ⟨rfl, bel_alloc (Below.refl _ _) _⟩
  · have hq : qEven f s = false := by unfold qEven; simp [h1]
    have hd : (f == 1) = false := by simpa using h1
    rw [hq]
    go_enter Tryd.func64, Tryd.ntmps64
    go_wp2
    go_ret
    exact ⟨rfl, bel_alloc (Below.refl _ _) _⟩
theorem sgnI_zero (n : Int) : sgnI n = 0 ↔ n = 0 := by
  unfold sgnI
  split
  · omega
  · split <;> omega
theorem beat_q (F O : Int) : decide (0 < sgnI (F - O)) = qBeat F O := by
  unfold qBeat
  rw [decide_eq_decide, sgnI_pos]
  omega
theorem even_q (F O : Int) (h1 : 1 ≤ F) (h2 : 1 ≤ O) (hg : Int.gcd F O = 1) : (sgnI (F - O) == 0) = qEven F O := by
  rw [Bool.eq_iff_iff, beq_iff_eq, sgnI_zero]
  unfold qEven
  rw [Bool.and_eq_true, decide_eq_true_iff, decide_eq_true_iff]
  constructor
  · intro h
    have e : F = O := by omega
    subst e
    rw [Int.gcd_self] at hg
    omega
  · omega

theorem filtBeatenBy (h o : Int) (a : ByteArray) : (allTx a.size).filter (fun p => !decide (p = a) && qBeat (odF h o p a) (odO h o p a)) = rivW qBeat h o a := by
  unfold rivW rivT
  rw [List.filter_filter]
  apply List.filter_congr
  intro p _
  rw [Bool.and_comm]
set_option maxRecDepth 100000 in
set_option maxHeartbeats 3200000 in
theorem specBeatenBy_any (h o : Int) (a : ByteArray) (w : World) (ha : a.size ≤ maxLen) : Calls Tryd.prog 27 #[cn h o, .string a] w (RowSB (ansRW qBeat h o a) (okRiv h o a) w) := by
  have bx0 := Lib.hid (Box2.new w (.int .i64 h) (.int .i64 o) 27)
  have bl0 : Below w.heap.size w (w.alloc (.cells #[.int .i64 h, .int .i64 o] 27)) := bel_alloc (Below.refl _ _) _
  cases h1 : rcG h o
  · rw [show ansRW qBeat h o a = [] from by unfold ansRW okRiv; rw [h1]; rfl, show okRiv h o a = false from by unfold okRiv; rw [h1]; rfl]
    go_enter Tryd.func27, Tryd.ntmps27
    go_wp2_with fail
    refine (raCoin_any h o _).mono ?_
    rintro e w1 ⟨rfl, hb1⟩
    rw [h1]
    go_wp2_with fail
    go_ret2
    exact ⟨_, rfl, SRow.nil _ _, bel_trans bl0 hb1⟩
  · cases h2 : racG a
    · rw [show ansRW qBeat h o a = [] from by unfold ansRW okRiv; rw [h1, h2]; rfl, show okRiv h o a = false from by unfold okRiv; rw [h1, h2]; rfl]
      go_enter Tryd.func27, Tryd.ntmps27
      go_wp2_with fail
      refine (raCoin_any h o _).mono ?_
      rintro e w1 ⟨rfl, hb1⟩
      rw [h1]
      go_wp2_with fail
      refine (raPattern_any a _ ha).mono ?_
      rintro e w2 ⟨rfl, rfl⟩
      rw [h2]
      go_wp2_with fail
      go_ret2
      exact ⟨_, rfl, SRow.nil _ _, bel_trans bl0 hb1⟩
    · rw [show ansRW qBeat h o a = rivW qBeat h o a from by unfold ansRW okRiv; rw [h1, h2]; rfl, show okRiv h o a = true from by unfold okRiv; rw [h1, h2]; rfl]
      obtain ⟨a1, a5, _⟩ := rac_in h2
      have hrl : (allTx a.size).length ≤ 4096 := by have := pow12 a.size (by omega); rw [allTx_len]; exact this
      have HR := Lib.hid (fun W => raTexts_any a.size W (by omega))
      have hfin := Lib.hid (filtBeatenBy h o a)
      have hmem := Lib.hid (fun (p : ByteArray) (hp : p ∈ allTx a.size) (hne : p ≠ a) => rac_two h2 hp hne)
      have hft := Lib.hid (fun k hk => filt_take (fun p => !decide (p = a) && qBeat (odF h o p a) (odO h o p a)) (allTx a.size) noS k hk)
      have hfl := Lib.hid (fun k => filt_len (fun p => !decide (p = a) && qBeat (odF h o p a) (odO h o p a)) (allTx a.size) k)
      go_enter Tryd.func27, Tryd.ntmps27
      go_wp2_with fail
      refine (raCoin_any h o _).mono ?_
      rintro e w1 ⟨rfl, hb1⟩
      rw [h1]
      have bx1 := Lib.hid (bx0.out.keep hb1)
      have bl1 := bel_trans bl0 hb1
      clear hb1
      go_wp2_with fail
      refine (raPattern_any a _ ha).mono ?_
      rintro e w2 ⟨rfl, rfl⟩
      rw [h2]
      go_wp2_with fail
      refine (HR.out _).mono ?_
      rintro e w3 ⟨v, rfl, r3, hb3⟩
      obtain ⟨A, cap, rfl, hA⟩ := sl_form r3
      have bx3 := Lib.hid (bx1.out.keep hb3)
      have bl3 := bel_trans bl1 hb3
      have R3 := Lib.hid r3
      have HAA := Lib.hid hA
      clear r3 hA hb3
      generalize allTx a.size = xs at *
      generalize hN : xs.length = N at *
      have HN := Lib.hid hN
      clear hN
      go_wp2_with fail
      go_loopw [6, 21] (fun u i wr => ∃ k : Nat, k ≤ N ∧ i = .int .i64 k ∧ Hid (SRow wr w3.heap.size u ((xs.take k).filter fun p => !decide (p = a) && qBeat (odF h o p a) (odO h o p a))) ∧ Below w3.heap.size w3 wr) (fun _ i _ => N - (intOf i).toNat)
      case atStart => exact ⟨0, by omega, rfl, SRow.nil _ _, Below.refl _ _⟩
      case round =>
        obtain ⟨k, hk, rfl, hU, hb⟩ := hrel
        obtain ⟨wa, rfl⟩ : ∃ wa : World, wa = wr := ⟨_, rfl⟩
        have hsa := hb.size
        by_cases hlt : k < N
        · obtain ⟨gg, rfl, hgg⟩ := HAA.out (by omega)
          have hrow := R3.out.below hb
          rw [← HN.out] at hrow
          have c0 := hrow.at_ k (by rw [HN.out]; exact hlt)
          have hfk := hft.out k hlt
          have hfl2 := hfl.out k
          have hpm := Lib.hid (hmem.out _ (getD_mem (k := k) (by rw [HN.out]; exact hlt)))
          obtain ⟨d0, d1, d2⟩ := bx3.out.keep hb
          have HFK := Lib.hid hfk
          clear hrow hfk
          generalize xs.getD k noS = p at *
          have hqe := ba_beq p a
          have Hfl2 := Lib.hid hfl2
          clear hfl2
          by_cases hpa : p = a
          · have hz := HFK.out
            simp only [decide_eq_true hpa, Bool.not_true, Bool.false_and, Bool.false_eq_true, if_false, List.append_nil] at hz
            have HZ := Lib.hid hz
            rw [decide_eq_true hpa] at hqe
            have HPA := Lib.hid hpa
            clear hz HFK hpa
            go_wp2_with fail
            repeat (go_quiet (fail); go_wp2_with fail)
            exact ⟨⟨k + 1, by omega, by go_num, by rw [HZ.out]; exact hU, hb⟩, by simp [intOf]; omega⟩
          · have htw := hpm.out hpa
            obtain ⟨f1, f2, o1, o2, hgc⟩ := od_all h1 htw
            have HC := Lib.hid (fun W => raBeats_any h o p a W h1 htw)
            have hqs := beat_q (odF h o p a) (odO h o p a)
            rw [decide_eq_false hpa] at hqe
            have hz := HFK.out
            simp only [decide_eq_false hpa, Bool.not_false, Bool.true_and] at hz
            have HPA := Lib.hid hpa
            have HFZ := Lib.hid hz
            clear htw hz HFK hpa hgc
            generalize sgnI (odF h o p a - odO h o p a) = z at *
            cases hqq : qBeat (odF h o p a) (odO h o p a)
            · have hz := HFZ.out
              simp only [hqq, Bool.false_eq_true, if_false, List.append_nil] at hz
              have HZ := Lib.hid hz
              rw [hqq] at hqs
              clear hz hqq HFZ
              go_wp2_with fail
              repeat (go_quiet (fail); go_wp2_with fail)
              refine (HC.out _).mono ?_
              rintro e w4 ⟨rfl, hb4⟩
              have hU5 := Lib.hid (hU.out.below hb4)
              go_wp2_with fail
              exact ⟨⟨k + 1, by omega, by go_num, by rw [HZ.out]; exact hU5, bel_trans hb hb4⟩, by simp [intOf]; omega⟩
            · have hz := HFZ.out
              simp only [hqq, if_true] at hz
              have HZ := Lib.hid hz
              rw [hqq] at hqs
              clear hz hqq HFZ
              go_wp2_with fail
              repeat (go_quiet (fail); go_wp2_with fail)
              refine (HC.out _).mono ?_
              rintro e w4 ⟨rfl, hb4⟩
              have hU5 := Lib.hid (hU.out.below hb4)
              have hs5 := (bel_trans hb hb4).size
              go_wp2_with (at_builtin; refine wpList_pushS1 _ rfl (.tmp 35) (.tmp 37) rfl _ _ _ hU5.out (by have := Hfl2.out; omega) hs5 rfl rfl ?_)
              intro v' w6 hI6 hb6
              go_wp2_with fail
              exact ⟨⟨k + 1, by omega, by go_num, by rw [HZ.out]; exact hI6, (bel_trans hb hb4).trans hb6⟩, by simp [intOf]; omega⟩
        · obtain rfl : k = N := by omega
          have hf := hU.out
          rw [List.take_of_length_le (by rw [HN.out]; exact Nat.le_refl _), hfin.out] at hf
          have Hf := Lib.hid (hf.mono bl3.size)
          have hbf := bel_trans bl3 hb
          clear hf
          go_wp2_with fail
          go_ret2
          exact ⟨_, rfl, Hf.out, hbf⟩
set_option maxHeartbeats 1600000 in
theorem implBeatenBy_any (h o : Int) (a : ByteArray) (w : World) (ha : a.size ≤ maxLen) : Calls Tryd.prog 28 #[cn h o, .string a] w (RowSB (ansRW qBeat h o a) (okRiv h o a) w) := by
  have bl0 : Below w.heap.size w (w.alloc (.cells #[.int .i64 h, .int .i64 o] 27)) := bel_alloc (Below.refl _ _) _
  go_enter Tryd.func28, Tryd.ntmps28
  go_wp2_with fail
  refine (rivalsWith_any 56 qBeat (Go.Proofs.enters_of Tryd.func56 (by kernel_rfl) rfl) (fun f s W _ _ => oddsBeat_any f s W) h o a _ ha).mono ?_
  rintro e w1 ⟨v, rfl, r1, b1⟩
  have R1 := Lib.hid (r1.mono bl0.size)
  have bl1 := bel_trans bl0 b1
  clear r1 b1
  go_wp2_with fail
  go_ret2
  exact ⟨_, rfl, R1.out, bl1⟩

theorem filtEvenRaces (h o : Int) (a : ByteArray) : (allTx a.size).filter (fun p => !decide (p = a) && qEven (odF h o p a) (odO h o p a)) = rivW qEven h o a := by
  unfold rivW rivT
  rw [List.filter_filter]
  apply List.filter_congr
  intro p _
  rw [Bool.and_comm]
set_option maxRecDepth 100000 in
set_option maxHeartbeats 3200000 in
theorem specEvenRaces_any (h o : Int) (a : ByteArray) (w : World) (ha : a.size ≤ maxLen) : Calls Tryd.prog 32 #[cn h o, .string a] w (RowSB (ansRW qEven h o a) (okRiv h o a) w) := by
  have bx0 := Lib.hid (Box2.new w (.int .i64 h) (.int .i64 o) 27)
  have bl0 : Below w.heap.size w (w.alloc (.cells #[.int .i64 h, .int .i64 o] 27)) := bel_alloc (Below.refl _ _) _
  cases h1 : rcG h o
  · rw [show ansRW qEven h o a = [] from by unfold ansRW okRiv; rw [h1]; rfl, show okRiv h o a = false from by unfold okRiv; rw [h1]; rfl]
    go_enter Tryd.func32, Tryd.ntmps32
    go_wp2_with fail
    refine (raCoin_any h o _).mono ?_
    rintro e w1 ⟨rfl, hb1⟩
    rw [h1]
    go_wp2_with fail
    go_ret2
    exact ⟨_, rfl, SRow.nil _ _, bel_trans bl0 hb1⟩
  · cases h2 : racG a
    · rw [show ansRW qEven h o a = [] from by unfold ansRW okRiv; rw [h1, h2]; rfl, show okRiv h o a = false from by unfold okRiv; rw [h1, h2]; rfl]
      go_enter Tryd.func32, Tryd.ntmps32
      go_wp2_with fail
      refine (raCoin_any h o _).mono ?_
      rintro e w1 ⟨rfl, hb1⟩
      rw [h1]
      go_wp2_with fail
      refine (raPattern_any a _ ha).mono ?_
      rintro e w2 ⟨rfl, rfl⟩
      rw [h2]
      go_wp2_with fail
      go_ret2
      exact ⟨_, rfl, SRow.nil _ _, bel_trans bl0 hb1⟩
    · rw [show ansRW qEven h o a = rivW qEven h o a from by unfold ansRW okRiv; rw [h1, h2]; rfl, show okRiv h o a = true from by unfold okRiv; rw [h1, h2]; rfl]
      obtain ⟨a1, a5, _⟩ := rac_in h2
      have hrl : (allTx a.size).length ≤ 4096 := by have := pow12 a.size (by omega); rw [allTx_len]; exact this
      have HR := Lib.hid (fun W => raTexts_any a.size W (by omega))
      have hfin := Lib.hid (filtEvenRaces h o a)
      have hmem := Lib.hid (fun (p : ByteArray) (hp : p ∈ allTx a.size) (hne : p ≠ a) => rac_two h2 hp hne)
      have hft := Lib.hid (fun k hk => filt_take (fun p => !decide (p = a) && qEven (odF h o p a) (odO h o p a)) (allTx a.size) noS k hk)
      have hfl := Lib.hid (fun k => filt_len (fun p => !decide (p = a) && qEven (odF h o p a) (odO h o p a)) (allTx a.size) k)
      go_enter Tryd.func32, Tryd.ntmps32
      go_wp2_with fail
      refine (raCoin_any h o _).mono ?_
      rintro e w1 ⟨rfl, hb1⟩
      rw [h1]
      have bx1 := Lib.hid (bx0.out.keep hb1)
      have bl1 := bel_trans bl0 hb1
      clear hb1
      go_wp2_with fail
      refine (raPattern_any a _ ha).mono ?_
      rintro e w2 ⟨rfl, rfl⟩
      rw [h2]
      go_wp2_with fail
      refine (HR.out _).mono ?_
      rintro e w3 ⟨v, rfl, r3, hb3⟩
      obtain ⟨A, cap, rfl, hA⟩ := sl_form r3
      have bx3 := Lib.hid (bx1.out.keep hb3)
      have bl3 := bel_trans bl1 hb3
      have R3 := Lib.hid r3
      have HAA := Lib.hid hA
      clear r3 hA hb3
      generalize allTx a.size = xs at *
      generalize hN : xs.length = N at *
      have HN := Lib.hid hN
      clear hN
      go_wp2_with fail
      go_loopw [6, 21] (fun u i wr => ∃ k : Nat, k ≤ N ∧ i = .int .i64 k ∧ Hid (SRow wr w3.heap.size u ((xs.take k).filter fun p => !decide (p = a) && qEven (odF h o p a) (odO h o p a))) ∧ Below w3.heap.size w3 wr) (fun _ i _ => N - (intOf i).toNat)
      case atStart => exact ⟨0, by omega, rfl, SRow.nil _ _, Below.refl _ _⟩
      case round =>
        obtain ⟨k, hk, rfl, hU, hb⟩ := hrel
        obtain ⟨wa, rfl⟩ : ∃ wa : World, wa = wr := ⟨_, rfl⟩
        have hsa := hb.size
        by_cases hlt : k < N
        · obtain ⟨gg, rfl, hgg⟩ := HAA.out (by omega)
          have hrow := R3.out.below hb
          rw [← HN.out] at hrow
          have c0 := hrow.at_ k (by rw [HN.out]; exact hlt)
          have hfk := hft.out k hlt
          have hfl2 := hfl.out k
          have hpm := Lib.hid (hmem.out _ (getD_mem (k := k) (by rw [HN.out]; exact hlt)))
          obtain ⟨d0, d1, d2⟩ := bx3.out.keep hb
          have HFK := Lib.hid hfk
          clear hrow hfk
          generalize xs.getD k noS = p at *
          have hqe := ba_beq p a
          have Hfl2 := Lib.hid hfl2
          clear hfl2
          by_cases hpa : p = a
          · have hz := HFK.out
            simp only [decide_eq_true hpa, Bool.not_true, Bool.false_and, Bool.false_eq_true, if_false, List.append_nil] at hz
            have HZ := Lib.hid hz
            rw [decide_eq_true hpa] at hqe
            have HPA := Lib.hid hpa
            clear hz HFK hpa
            go_wp2_with fail
            repeat (go_quiet (fail); go_wp2_with fail)
            exact ⟨⟨k + 1, by omega, by go_num, by rw [HZ.out]; exact hU, hb⟩, by simp [intOf]; omega⟩
          · have htw := hpm.out hpa
            obtain ⟨f1, f2, o1, o2, hgc⟩ := od_all h1 htw
            have HC := Lib.hid (fun W => raBeats_any h o p a W h1 htw)
            have hqs := even_q (odF h o p a) (odO h o p a) f1 o1 hgc
            rw [decide_eq_false hpa] at hqe
            have hz := HFK.out
            simp only [decide_eq_false hpa, Bool.not_false, Bool.true_and] at hz
            have HPA := Lib.hid hpa
            have HFZ := Lib.hid hz
            clear htw hz HFK hpa hgc
            generalize sgnI (odF h o p a - odO h o p a) = z at *
            cases hqq : qEven (odF h o p a) (odO h o p a)
            · have hz := HFZ.out
              simp only [hqq, Bool.false_eq_true, if_false, List.append_nil] at hz
              have HZ := Lib.hid hz
              rw [hqq] at hqs
              clear hz hqq HFZ
              go_wp2_with fail
              repeat (go_quiet (fail); go_wp2_with fail)
              refine (HC.out _).mono ?_
              rintro e w4 ⟨rfl, hb4⟩
              have hU5 := Lib.hid (hU.out.below hb4)
              go_wp2_with fail
              exact ⟨⟨k + 1, by omega, by go_num, by rw [HZ.out]; exact hU5, bel_trans hb hb4⟩, by simp [intOf]; omega⟩
            · have hz := HFZ.out
              simp only [hqq, if_true] at hz
              have HZ := Lib.hid hz
              rw [hqq] at hqs
              clear hz hqq HFZ
              go_wp2_with fail
              repeat (go_quiet (fail); go_wp2_with fail)
              refine (HC.out _).mono ?_
              rintro e w4 ⟨rfl, hb4⟩
              have hU5 := Lib.hid (hU.out.below hb4)
              have hs5 := (bel_trans hb hb4).size
              go_wp2_with (at_builtin; refine wpList_pushS1 _ rfl (.tmp 35) (.tmp 37) rfl _ _ _ hU5.out (by have := Hfl2.out; omega) hs5 rfl rfl ?_)
              intro v' w6 hI6 hb6
              go_wp2_with fail
              exact ⟨⟨k + 1, by omega, by go_num, by rw [HZ.out]; exact hI6, (bel_trans hb hb4).trans hb6⟩, by simp [intOf]; omega⟩
        · obtain rfl : k = N := by omega
          have hf := hU.out
          rw [List.take_of_length_le (by rw [HN.out]; exact Nat.le_refl _), hfin.out] at hf
          have Hf := Lib.hid (hf.mono bl3.size)
          have hbf := bel_trans bl3 hb
          clear hf
          go_wp2_with fail
          go_ret2
          exact ⟨_, rfl, Hf.out, hbf⟩
set_option maxHeartbeats 1600000 in
theorem implEvenRaces_any (h o : Int) (a : ByteArray) (w : World) (ha : a.size ≤ maxLen) : Calls Tryd.prog 33 #[cn h o, .string a] w (RowSB (ansRW qEven h o a) (okRiv h o a) w) := by
  have bl0 : Below w.heap.size w (w.alloc (.cells #[.int .i64 h, .int .i64 o] 27)) := bel_alloc (Below.refl _ _) _
  go_enter Tryd.func33, Tryd.ntmps33
  go_wp2_with fail
  refine (rivalsWith_any 64 qEven (Go.Proofs.enters_of Tryd.func64 (by kernel_rfl) rfl) (fun f s W _ _ => oddsEven_any f s W) h o a _ ha).mono ?_
  rintro e w1 ⟨v, rfl, r1, b1⟩
  have R1 := Lib.hid (r1.mono bl0.size)
  have bl1 := bel_trans bl0 b1
  clear r1 b1
  go_wp2_with fail
  go_ret2
  exact ⟨_, rfl, R1.out, bl1⟩
end Go.Proofs.YtjckmnbpfmcadabDoor
