/- RootOfWord, IsPrimeWord: contracts and walks. -/
import Derived.Test.YtiblggfihpobkaaDoorWoTn
import Derived.Test.YtiblggfihpobkaaDoorWoRp
import Derived.Test.YtiblggfihpobkaaDoorShelfK
import Derived.Lib.OwnBridge
namespace Go.Proofs.YtiblggfihpobkaaDoor
set_option linter.unusedSimpArgs false
open Go.ChangeShapes Go.WideShapes Go.ChangeAt Go.RowKit
set_option linter.unusedVariables false

theorem ba_ne (a b : ByteArray) : (a.toList == b.toList) = decide (a = b) := ba_bq a b
set_option maxRecDepth 100000 in
set_option maxHeartbeats 1600000 in
theorem woRoot_any (s : ByteArray) (w : World) (h1 : 1 ≤ s.size) (h8 : s.size ≤ 8) :
    Calls Tryd.prog 61 #[.string s] w fun e w' => e = .returned (.int .i64 (rtS s)) ∧ ∃ n, w' = w.drewN n := by
  obtain ⟨r1, r2, r3, r4⟩ := rt_in s h1
  have r5 := rt_div s h1 h8
  have R4 := Lib.hid r4
  have R3 := Lib.hid r3
  have R5 := Lib.hid r5
  clear r3 r4 r5
  obtain ⟨r, hr⟩ : ∃ r, r = rtS s := ⟨_, rfl⟩
  rw [← hr] at r1 r2 R3 R4 R5
  rw [← hr]
  clear hr
  go_enter Tryd.func61, Tryd.ntmps61
  go_wp2_with fail
  go_loopw [3] (fun i wr => ∃ k : Nat, 1 ≤ k ∧ k ≤ r ∧ i = .int .i64 k ∧ ∃ n, wr = w.drewN n) (fun i _ => r - (intOf i).toNat)
  case atStart => exact ⟨1, by omega, r1, rfl, 0, rfl⟩
  case round =>
    obtain ⟨k, k1, k2, rfl, n, rfl⟩ := hrel
    have z1 := ext_size s k s.size (Nat.le_refl _)
    have z2 := ext_size s 0 k (by omega)
    have t1 : ¬ 9223372036854775807 < (s.extract k s.size).size + (s.extract 0 k).size := by omega
    have hk0 : ¬ (k : Int) = 0 := by omega
    have hkn : ¬ k = 0 := by omega
    have hkb : (k == 0) = false := by simpa using hkn
    have hk1 : ((k : Int) == 0) = false := by simpa using hk0
    have htm : (s.size : Int).tmod (k : Int) = ((s.size % k : Nat) : Int) := by rw [Int.tmod_eq_emod_of_nonneg (by omega)]; rfl
    have hem : (s.size : Int) % (k : Int) = ((s.size % k : Nat) : Int) := rfl
    have hbe : ((s.extract k s.size ++ s.extract 0 k).toList == s.toList) = decide (trn s k = s) := ba_bq _ _
    clear z1 z2
    have hm8 : s.size % k ≤ 8 := Nat.le_trans (Nat.mod_le _ _) h8
    have R5k : k = r → s.size % k = 0 := fun e => by rw [e]; exact R5.out
    generalize s.size % k = q at *
    have hw1 : IntKind.i64.wrap ((q : Int)) = (q : Int) := IntWalk.i64_in _ (by omega)
    by_cases hlt : k < r
    · have hne : decide (trn s k = s) = false := by simpa using R4.out k k1 hlt
      rw [hne] at hbe
      clear R5k
      by_cases hm : q = 0
      · subst hm
        clear hw1 hm8
        go_wp2_with fail
        go_quiet (fail)
        go_wp2_with fail
        exact ⟨⟨k + 1, by omega, by omega, by go_num, _, rfl⟩, by simp [intOf]; omega⟩
      · have hqb : (q == 0) = false := by simpa using hm
        have hqz : ¬ (q : Int) = 0 := by omega
        have hqi : ((q : Int) == 0) = false := by simpa using hqz
        go_wp2_with fail
        go_quiet (fail)
        go_wp2_with fail
        exact ⟨⟨k + 1, by omega, by omega, by go_num, _, rfl⟩, by simp [intOf]; omega⟩
    · obtain rfl : r = k := by omega
      have hne : decide (trn s (r) = s) = true := by simpa using R3.out
      rw [hne] at hbe
      obtain rfl : q = 0 := R5k rfl
      clear R5k hw1 hm8
      go_wp2_with fail
      go_quiet (fail)
      go_wp2
      go_ret
      exact ⟨rfl, _, World.drewN_drewN _ _ _⟩
def ansRt (s : ByteArray) : Value := if woG 26 s then .tuple #[.string (s.extract 0 (rtS s)), .int .i64 ((s.size / rtS s : Nat) : Int), .bool true] else .tuple #[.string ⟨#[]⟩, .int .i64 0, .bool false]
set_option maxRecDepth 100000 in
set_option maxHeartbeats 1600000 in
theorem specRt_any (s : ByteArray) (w : World) (hs : s.size ≤ maxLen) :
    Calls Tryd.prog 34 #[.string s] w fun e w' => e = .returned (ansRt s) ∧ Below w.heap.size w w' := by
  cases h1 : woG 26 s
  · rw [show ansRt s = .tuple #[.string ⟨#[]⟩, .int .i64 0, .bool false] from by unfold ansRt; rw [h1]; rfl]
    go_enter Tryd.func34, Tryd.ntmps34
    go_wp2_with fail
    refine (woAny_any s _ hs).mono ?_
    rintro e w' ⟨rfl, rfl⟩
    rw [h1]
    go_wp2_with fail
    go_ret3
    exact ⟨rfl, Below.refl _ _⟩
  · obtain ⟨p1, p2, p3⟩ := wo_in h1
    rw [show ansRt s = .tuple #[.string (s.extract 0 (rtS s)), .int .i64 ((s.size / rtS s : Nat) : Int), .bool true] from by unfold ansRt; rw [h1]; rfl]
    obtain ⟨r1, r2, _, _⟩ := rt_in s p1
    obtain ⟨r, hr⟩ : ∃ r, r = rtS s := ⟨_, rfl⟩
    rw [← hr] at r1 r2
    rw [← hr]
    have Hr := Lib.hid hr
    clear hr
    obtain ⟨q, hq⟩ : ∃ q, q = s.size / r := ⟨_, rfl⟩
    rw [← hq]
    have hd8 : q ≤ 8 := by rw [hq]; exact Nat.le_trans (Nat.div_le_self _ _) p2
    have Hq := Lib.hid hq
    clear hq
    go_enter Tryd.func34, Tryd.ntmps34
    go_wp2_with fail
    refine (woAny_any s _ hs).mono ?_
    rintro e w' ⟨rfl, rfl⟩
    rw [h1]
    go_wp2_with fail
    refine (woRoot_any s _ p1 p2).mono ?_
    rintro e w2 ⟨rfl, n, rfl⟩
    rw [← Hr.out]
    clear Hr
    have hk0 : ¬ (r : Int) = 0 := by omega
    have hkn : ¬ r = 0 := by omega
    have hkb : (r == 0) = false := by simpa using hkn
    have hk1 : ((r : Int) == 0) = false := by simpa using hk0
    have htd : (s.size : Int).tdiv (r : Int) = (q : Int) := by rw [Int.tdiv_eq_ediv_of_nonneg (by omega), Hq.out]; rfl
    have hed : (s.size : Int) / (r : Int) = (q : Int) := by rw [Hq.out]; rfl
    have hw1 : IntKind.i64.wrap ((q : Int)) = (q : Int) := IntWalk.i64_in _ (by omega)
    go_wp2_with fail
    go_quiet (fail)
    go_wp2
    go_ret3
    exact ⟨rfl, bel_drewN (bel_drewN (Below.refl _ _) _) _⟩
set_option maxRecDepth 100000 in
set_option maxHeartbeats 1600000 in
theorem implRt_any (s : ByteArray) (w : World) (hs : s.size ≤ maxLen) :
    Calls Tryd.prog 35 #[.string s] w fun e w' => e = .returned (ansRt s) ∧ Below w.heap.size w w' := by
  cases h1 : woG 26 s
  · rw [show ansRt s = .tuple #[.string ⟨#[]⟩, .int .i64 0, .bool false] from by unfold ansRt; rw [h1]; rfl]
    go_enter Tryd.func35, Tryd.ntmps35
    go_wp2_with fail
    refine (isWord_any s _ hs).mono ?_
    rintro e w' ⟨rfl, hb⟩
    rw [h1]
    go_wp2_with fail
    go_ret3
    exact ⟨rfl, hb⟩
  · obtain ⟨p1, p2, p3⟩ := wo_in h1
    rw [show ansRt s = .tuple #[.string (s.extract 0 (rtS s)), .int .i64 ((s.size / rtS s : Nat) : Int), .bool true] from by unfold ansRt; rw [h1]; rfl]
    obtain ⟨r1, r2, r3, r4⟩ := rt_in s p1
    have R4 := Lib.hid r4
    have R3 := Lib.hid r3
    clear r3 r4
    obtain ⟨r, hr⟩ : ∃ r, r = rtS s := ⟨_, rfl⟩
    rw [← hr] at r1 r2 R3 R4
    rw [← hr]
    have Hr := Lib.hid hr
    clear hr
    obtain ⟨q, hq⟩ : ∃ q, q = s.size / r := ⟨_, rfl⟩
    rw [← hq]
    have hd8 : q ≤ 8 := by rw [hq]; exact Nat.le_trans (Nat.div_le_self _ _) p2
    have Hq := Lib.hid hq
    clear hq
    go_enter Tryd.func35, Tryd.ntmps35
    go_wp2_with fail
    refine (isWord_any s _ hs).mono ?_
    rintro e w' ⟨rfl, hb⟩
    rw [h1]
    clear h1
    go_wp2_with fail
    go_loopw [5] (fun i wr => ∃ k : Nat, 1 ≤ k ∧ k ≤ r ∧ i = .int .i64 k ∧ Below w.heap.size w wr) (fun i _ => r - (intOf i).toNat)
    case atStart => exact ⟨1, by omega, r1, rfl, hb⟩
    case round =>
      obtain ⟨k, k1, k2, rfl, hbl⟩ := hrel
      obtain ⟨wa, rfl⟩ : ∃ wa : World, wa = wr := ⟨_, rfl⟩
      have hbe := ba_bq (trn s k) s
      by_cases hlt : k < r
      · have hne : decide (trn s k = s) = false := by simpa using R4.out k k1 hlt
        rw [hne] at hbe
        go_wp2_with fail
        refine (turned_any s k _ (by omega) p2).mono ?_
        rintro e w2 ⟨rfl, n2, rfl⟩
        go_wp2_with fail
        exact ⟨⟨k + 1, by omega, by omega, by go_num, bel_drewN hbl n2⟩, by simp [intOf]; omega⟩
      · obtain rfl : r = k := by omega
        have hne : decide (trn s (r) = s) = true := by simpa using R3.out
        rw [hne] at hbe
        have Hbe := Lib.hid hbe
        clear hbe hne
        go_wp2_with fail
        refine (turned_any s (r) _ (by omega) p2).mono ?_
        rintro e w2 ⟨rfl, n2, rfl⟩
        have hbe := Hbe.out
        go_wp2_with fail
        clear hbe Hbe
        clear Hr
        have hk0 : ¬ (r : Int) = 0 := by omega
        have hkn : ¬ r = 0 := by omega
        have hkb : (r == 0) = false := by simpa using hkn
        have hk1 : ((r : Int) == 0) = false := by simpa using hk0
        have htd : (s.size : Int).tdiv (r : Int) = (q : Int) := by rw [Int.tdiv_eq_ediv_of_nonneg (by omega), Hq.out]; rfl
        have hed : (s.size : Int) / (r : Int) = (q : Int) := by rw [Hq.out]; rfl
        have hw1 : IntKind.i64.wrap ((q : Int)) = (q : Int) := IntWalk.i64_in _ (by omega)
        have hz : Hid ((s.extract 0 r).size ≤ 100) := Lib.hid (by rw [ext_size _ _ _ r2]; omega)
        have hbl2 := bel_drewN hbl n2
        go_region_held3 (fun w' => Below w.heap.size w w')
          (first | exact hbl2.drew | exact bel_trans (by assumption) hb5 | exact bel_drewN (by assumption) _ | assumption | go_keep)
          (first | (go_at_call 55; refine (clone_any_str _ _ hz.out).mono ?_; rintro e w5 ⟨rfl, hb5⟩))
        all_goals
          go_wp2
          go_ret3
          exact ⟨rfl, by assumption⟩
theorem ansRt_form (s : ByteArray) : ∃ (x : ByteArray) (y : Int) (o : Bool), ansRt s = .tuple #[.string x, .int .i64 y, .bool o] := by
  unfold ansRt
  split
  · exact ⟨_, _, _, rfl⟩
  · exact ⟨_, _, _, rfl⟩
theorem walkExactRootOfWord (s : ByteArray) (w : World) (hs : s.size ≤ maxLen) :
    Calls Tryd.prog 12 #[.string s] w fun e w' => e = .returned (.bool true) ∧ Below w.heap.size w w' := by
  by_cases z0 : s.size ≤ 1048576
  rotate_left
  · go_enter Tryd.func12, Tryd.ntmps12
    go_wp2
    go_ret
    exact ⟨rfl, Below.refl _ _⟩
  obtain ⟨x, y, o, hf⟩ := ansRt_form s
  have Hf := Lib.hid hf
  clear hf
  go_enter Tryd.func12, Tryd.ntmps12
  go_wp2_with fail
  refine (specRt_any s _ hs).mono ?_
  rw [Hf.out]
  rintro e w1 ⟨rfl, b1⟩
  go_wp2_with fail
  refine (implRt_any s _ hs).mono ?_
  rw [Hf.out]
  rintro e w2 ⟨rfl, b2⟩
  go_wp2_with fail
  go_ret
  exact ⟨rfl, bel_trans b1 b2⟩
end Go.Proofs.YtiblggfihpobkaaDoor
