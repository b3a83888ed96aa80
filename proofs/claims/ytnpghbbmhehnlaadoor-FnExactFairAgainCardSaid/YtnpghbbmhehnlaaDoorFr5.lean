/- Fair tosses: FairByPairs, FairAgain, PairsThatGive, SameFair: the contracts of the program and of its model, and the walks. -/
import Derived.Test.YtnpghbbmhehnlaaDoorFrP
namespace Go.Proofs.YtnpghbbmhehnlaaDoor
open Go.ChangeShapes Go.WideShapes Go.ChangeAt Go.RowKit
set_option linter.unusedVariables false


theorem fF_fS (t : ByteArray) : ∀ k, (fF t k).length + (fS t k).length = k
  | 0 => by simp [fF, fS]
  | k + 1 => by
    have := fF_fS t k
    unfold fF fS
    split <;> simp <;> omega
theorem up200 {s : ByteArray} (g : upG 200 s = true) : s.size ≤ 200 := by
  unfold upG at g
  simp at g
  exact g.1
def ansFP (t : ByteArray) : Value := if upG 200 t then .tuple #[.string (bs (fF t (t.size / 2))), .bool true] else .tuple #[.string ⟨#[]⟩, .bool false]
theorem ansFP_form (t : ByteArray) : ∃ (x : ByteArray) (ok : Bool), ansFP t = .tuple #[.string x, .bool ok] := by
  unfold ansFP
  split
  · exact ⟨_, _, rfl⟩
  · exact ⟨_, _, rfl⟩
def ansPG (t : ByteArray) : Value := if upG 200 t then .tuple #[.int .i64 (fF t (t.size / 2)).length, .bool true] else .tuple #[.int .i64 0, .bool false]
theorem ansPG_form (t : ByteArray) : ∃ (x : Int) (ok : Bool), ansPG t = .tuple #[.int .i64 x, .bool ok] := by
  unfold ansPG
  split
  · exact ⟨_, _, rfl⟩
  · exact ⟨_, _, rfl⟩
def agn : Nat → ByteArray → ByteArray
  | 0, _ => ⟨#[]⟩
  | n + 1, t => if t.size < 2 then ⟨#[]⟩ else bs (fF t (t.size / 2)) ++ agn n (bs (fD t (t.size / 2))) ++ agn n (bs (fS t (t.size / 2)))
theorem agn_size : ∀ n t, (agn n t).size ≤ t.size
  | 0, t => by unfold agn; exact Nat.zero_le _
  | n + 1, t => by
    unfold agn
    split
    · exact Nat.zero_le _
    · have a := agn_size n (bs (fD t (t.size / 2)))
      have b := agn_size n (bs (fS t (t.size / 2)))
      have c := fF_fS t (t.size / 2)
      rw [bs_size] at a b
      rw [fD_len] at a
      rw [ByteArray.size_append, ByteArray.size_append, bs_size]
      omega
def ansFA (t : ByteArray) : Value := if upG 200 t then .tuple #[.string (agn 200 t), .bool true] else .tuple #[.string ⟨#[]⟩, .bool false]
theorem ansFA_form (t : ByteArray) : ∃ (x : ByteArray) (ok : Bool), ansFA t = .tuple #[.string x, .bool ok] := by
  unfold ansFA
  split
  · exact ⟨_, _, rfl⟩
  · exact ⟨_, _, rfl⟩
def ansSF (a b : ByteArray) : Value := if upG 200 a && upG 200 b then .tuple #[.bool ((bs (fF a (a.size / 2))).toList == (bs (fF b (b.size / 2))).toList), .bool true] else .tuple #[.bool false, .bool false]
theorem ansSF_form (a b : ByteArray) : ∃ (x ok : Bool), ansSF a b = .tuple #[.bool x, .bool ok] := by
  unfold ansSF
  split
  · exact ⟨_, _, rfl⟩
  · exact ⟨_, _, rfl⟩

theorem specFP_any (t : ByteArray) (w : World) (hs : t.size ≤ maxLen) :
    Calls Tryd.prog 11 #[.string t] w fun e w' => e = .returned (ansFP t) ∧ Below w.heap.size w w' := by
  cases h1 : upG 200 t
  · rw [show ansFP t = .tuple #[.string ⟨#[]⟩, .bool false] from by unfold ansFP; rw [h1]; rfl]
    go_enter Tryd.func11, Tryd.ntmps11
    go_wp2_with fail
    refine (frTosses_any t _ hs).mono ?_
    rintro e w1 ⟨rfl, rfl⟩
    rw [h1]
    go_wp2_with fail
    go_ret2
    exact ⟨rfl, Below.refl _ _⟩
  · rw [show ansFP t = .tuple #[.string (bs (fF t (t.size / 2))), .bool true] from by unfold ansFP; rw [h1]; rfl]
    have hz := up200 h1
    go_enter Tryd.func11, Tryd.ntmps11
    go_wp2_with fail
    refine (frTosses_any t _ hs).mono ?_
    rintro e w1 ⟨rfl, rfl⟩
    rw [h1]
    go_wp2_with fail
    refine (frPairs_any t _ hz).mono ?_
    rintro e w2 ⟨rfl, n2, rfl⟩
    unfold ansPr
    go_wp2_with fail
    go_ret2
    exact ⟨rfl, bel_drewN (Below.refl _ _) n2⟩

theorem implFP_any (t : ByteArray) (w : World) (hs : t.size ≤ maxLen) :
    Calls Tryd.prog 12 #[.string t] w fun e w' => e = .returned (ansFP t) ∧ Below w.heap.size w w' := by
  cases h1 : upG 200 t
  · rw [show ansFP t = .tuple #[.string ⟨#[]⟩, .bool false] from by unfold ansFP; rw [h1]; rfl]
    go_enter Tryd.func12, Tryd.ntmps12
    go_wp2_with fail
    refine (implMany_any t _ hs).mono ?_
    rintro e w1 ⟨rfl, hb1⟩
    rw [h1]
    go_wp2_with fail
    go_ret2
    exact ⟨rfl, hb1⟩
  · rw [show ansFP t = .tuple #[.string (bs (fF t (t.size / 2))), .bool true] from by unfold ansFP; rw [h1]; rfl]
    have hz := up200 h1
    go_enter Tryd.func12, Tryd.ntmps12
    go_wp2_with fail
    refine (implMany_any t _ hs).mono ?_
    rintro e w1 ⟨rfl, hb1⟩
    rw [h1]
    go_wp2_with fail
    refine (byPairs_any t _ hz).mono ?_
    rintro e w2 ⟨rfl, hb2⟩
    unfold ansPr
    go_wp2_with fail
    go_ret2
    exact ⟨rfl, bel_trans hb1 hb2⟩

theorem specPG_any (t : ByteArray) (w : World) (hs : t.size ≤ maxLen) :
    Calls Tryd.prog 15 #[.string t] w fun e w' => e = .returned (ansPG t) ∧ Below w.heap.size w w' := by
  cases h1 : upG 200 t
  · rw [show ansPG t = .tuple #[.int .i64 0, .bool false] from by unfold ansPG; rw [h1]; rfl]
    go_enter Tryd.func15, Tryd.ntmps15
    go_wp2_with fail
    refine (frTosses_any t _ hs).mono ?_
    rintro e w1 ⟨rfl, rfl⟩
    rw [h1]
    go_wp2_with fail
    go_ret2
    exact ⟨rfl, Below.refl _ _⟩
  · rw [show ansPG t = .tuple #[.int .i64 (fF t (t.size / 2)).length, .bool true] from by unfold ansPG; rw [h1]; rfl]
    have hz := up200 h1
    have Hb := Lib.hid (bs_size (fF t (t.size / 2)))
    go_enter Tryd.func15, Tryd.ntmps15
    go_wp2_with fail
    refine (frTosses_any t _ hs).mono ?_
    rintro e w1 ⟨rfl, rfl⟩
    rw [h1]
    go_wp2_with fail
    refine (frPairs_any t _ hz).mono ?_
    rintro e w2 ⟨rfl, n2, rfl⟩
    unfold ansPr
    go_wp2_with fail
    go_ret2
    exact ⟨by rw [← Hb.out]; rfl, bel_drewN (Below.refl _ _) n2⟩

theorem implPG_any (t : ByteArray) (w : World) (hs : t.size ≤ maxLen) :
    Calls Tryd.prog 16 #[.string t] w fun e w' => e = .returned (ansPG t) ∧ Below w.heap.size w w' := by
  cases h1 : upG 200 t
  · rw [show ansPG t = .tuple #[.int .i64 0, .bool false] from by unfold ansPG; rw [h1]; rfl]
    have HA : Hid (ansFP t = .tuple #[.string ⟨#[]⟩, .bool false]) := Lib.hid (by unfold ansFP; rw [h1]; rfl)
    go_enter Tryd.func16, Tryd.ntmps16
    go_wp2_with fail
    refine (implFP_any t _ hs).mono ?_
    rintro e w1 ⟨rfl, hb1⟩
    rw [HA.out]
    go_wp2_with fail
    go_ret2
    exact ⟨rfl, hb1⟩
  · rw [show ansPG t = .tuple #[.int .i64 (fF t (t.size / 2)).length, .bool true] from by unfold ansPG; rw [h1]; rfl]
    have HA : Hid (ansFP t = .tuple #[.string (bs (fF t (t.size / 2))), .bool true]) := Lib.hid (by unfold ansFP; rw [h1]; rfl)
    have Hb := Lib.hid (bs_size (fF t (t.size / 2)))
    go_enter Tryd.func16, Tryd.ntmps16
    go_wp2_with fail
    refine (implFP_any t _ hs).mono ?_
    rintro e w1 ⟨rfl, hb1⟩
    rw [HA.out]
    go_wp2_with fail
    go_ret2
    exact ⟨by rw [← Hb.out]; rfl, hb1⟩

set_option maxHeartbeats 800000 in
theorem frAgain_any : ∀ (n : Nat) (t : ByteArray) (w : World), t.size ≤ n → t.size ≤ 200 →
    Calls Tryd.prog 26 #[.string t] w fun e w' => e = .returned (.string (agn n t)) ∧ ∃ n, w' = w.drewN n
  | 0, t, w, h0, hz => by
    unfold agn
    have h2 : t.size < 2 := by omega
    have h3 : (t.size : Int) < 2 := by omega
    have H0 := Lib.hid h0
    clear h0
    go_enter Tryd.func26, Tryd.ntmps26
    go_wp2
    go_ret
    exact ⟨rfl, 0, rfl⟩
  | n + 1, t, w, h0, hz => by
    by_cases h2 : t.size < 2
    · have h3 : (t.size : Int) < 2 := by omega
      rw [show agn (n + 1) t = ⟨#[]⟩ from by unfold agn; rw [if_pos h2]]
      go_enter Tryd.func26, Tryd.ntmps26
      go_wp2
      go_ret
      exact ⟨rfl, 0, rfl⟩
    · have h3 : ¬ (t.size : Int) < 2 := by omega
      rw [show agn (n + 1) t = bs (fF t (t.size / 2)) ++ agn n (bs (fD t (t.size / 2))) ++ agn n (bs (fS t (t.size / 2))) from by rw [agn, if_neg h2]]
      have HfD : Hid ((bs (fD t (t.size / 2))).size ≤ n ∧ (bs (fD t (t.size / 2))).size ≤ 200) := Lib.hid (by rw [bs_size, fD_len]; omega)
      have HfS : Hid ((bs (fS t (t.size / 2))).size ≤ n ∧ (bs (fS t (t.size / 2))).size ≤ 200) := Lib.hid (by rw [bs_size]; have := fS_len t (t.size / 2); omega)
      have z1 : ¬ 9223372036854775807 < (bs (fF t (t.size / 2))).size + (agn n (bs (fD t (t.size / 2)))).size := by have a := agn_size n (bs (fD t (t.size / 2))); have b := fF_len t (t.size / 2); rw [bs_size] at *; rw [fD_len] at a; omega
      have z2 : ¬ 9223372036854775807 < (bs (fF t (t.size / 2))).size + (agn n (bs (fD t (t.size / 2)))).size + (agn n (bs (fS t (t.size / 2)))).size := by have a := agn_size n (bs (fD t (t.size / 2))); have b := fF_len t (t.size / 2); have c := agn_size n (bs (fS t (t.size / 2))); have d := fS_len t (t.size / 2); rw [bs_size] at *; rw [fD_len] at a; omega
      go_enter Tryd.func26, Tryd.ntmps26
      go_wp2_with fail
      refine (frPairs_any t _ hz).mono ?_
      rintro e w1 ⟨rfl, n1, rfl⟩
      unfold ansPr
      go_wp2_with fail
      refine (frAgain_any n (bs (fD t (t.size / 2))) _ HfD.out.1 HfD.out.2).mono ?_
      rintro e w2 ⟨rfl, n2, rfl⟩
      go_wp2_with fail
      refine (frAgain_any n (bs (fS t (t.size / 2))) _ HfS.out.1 HfS.out.2).mono ?_
      rintro e w3 ⟨rfl, n3, rfl⟩
      go_wp2_with fail
      go_ret
      exact ⟨rfl, n1 + n2 + n3, rfl⟩

set_option maxHeartbeats 800000 in
theorem fairAgain_any : ∀ (n : Nat) (t : ByteArray) (w : World), t.size ≤ n → t.size ≤ 200 →
    Calls Tryd.prog 27 #[.string t] w fun e w' => e = .returned (.string (agn n t)) ∧ Below w.heap.size w w'
  | 0, t, w, h0, hz => by
    unfold agn
    have h2 : t.size < 2 := by omega
    have h3 : (t.size : Int) < 2 := by omega
    have H0 := Lib.hid h0
    clear h0
    go_enter Tryd.func27, Tryd.ntmps27
    go_wp2
    go_ret
    exact ⟨rfl, Below.refl _ _⟩
  | n + 1, t, w, h0, hz => by
    by_cases h2 : t.size < 2
    · have h3 : (t.size : Int) < 2 := by omega
      rw [show agn (n + 1) t = ⟨#[]⟩ from by unfold agn; rw [if_pos h2]]
      go_enter Tryd.func27, Tryd.ntmps27
      go_wp2
      go_ret
      exact ⟨rfl, Below.refl _ _⟩
    · have h3 : ¬ (t.size : Int) < 2 := by omega
      rw [show agn (n + 1) t = bs (fF t (t.size / 2)) ++ agn n (bs (fD t (t.size / 2))) ++ agn n (bs (fS t (t.size / 2))) from by rw [agn, if_neg h2]]
      have HfD : Hid ((bs (fD t (t.size / 2))).size ≤ n ∧ (bs (fD t (t.size / 2))).size ≤ 200) := Lib.hid (by rw [bs_size, fD_len]; omega)
      have HfS : Hid ((bs (fS t (t.size / 2))).size ≤ n ∧ (bs (fS t (t.size / 2))).size ≤ 200) := Lib.hid (by rw [bs_size]; have := fS_len t (t.size / 2); omega)
      have z1 : ¬ 9223372036854775807 < (bs (fF t (t.size / 2))).size + (agn n (bs (fD t (t.size / 2)))).size := by have a := agn_size n (bs (fD t (t.size / 2))); have b := fF_len t (t.size / 2); rw [bs_size] at *; rw [fD_len] at a; omega
      have z2 : ¬ 9223372036854775807 < (bs (fF t (t.size / 2))).size + (agn n (bs (fD t (t.size / 2)))).size + (agn n (bs (fS t (t.size / 2)))).size := by have a := agn_size n (bs (fD t (t.size / 2))); have b := fF_len t (t.size / 2); have c := agn_size n (bs (fS t (t.size / 2))); have d := fS_len t (t.size / 2); rw [bs_size] at *; rw [fD_len] at a; omega
      go_enter Tryd.func27, Tryd.ntmps27
      go_wp2_with fail
      refine (byPairs_any t _ hz).mono ?_
      rintro e w1 ⟨rfl, hb1⟩
      unfold ansPr
      go_wp2_with fail
      refine (fairAgain_any n (bs (fD t (t.size / 2))) _ HfD.out.1 HfD.out.2).mono ?_
      rintro e w2 ⟨rfl, hb2⟩
      go_wp2_with fail
      refine (fairAgain_any n (bs (fS t (t.size / 2))) _ HfS.out.1 HfS.out.2).mono ?_
      rintro e w3 ⟨rfl, hb3⟩
      go_wp2_with fail
      go_ret
      exact ⟨rfl, bel_trans (bel_trans hb1 hb2) hb3⟩

theorem specFA_any (t : ByteArray) (w : World) (hs : t.size ≤ maxLen) :
    Calls Tryd.prog 13 #[.string t] w fun e w' => e = .returned (ansFA t) ∧ Below w.heap.size w w' := by
  cases h1 : upG 200 t
  · rw [show ansFA t = .tuple #[.string ⟨#[]⟩, .bool false] from by unfold ansFA; rw [h1]; rfl]
    go_enter Tryd.func13, Tryd.ntmps13
    go_wp2_with fail
    refine (frTosses_any t _ hs).mono ?_
    rintro e w1 ⟨rfl, rfl⟩
    rw [h1]
    go_wp2_with fail
    go_ret2
    exact ⟨rfl, Below.refl _ _⟩
  · rw [show ansFA t = .tuple #[.string (agn 200 t), .bool true] from by unfold ansFA; rw [h1]; rfl]
    have hz := up200 h1
    go_enter Tryd.func13, Tryd.ntmps13
    go_wp2_with fail
    refine (frTosses_any t _ hs).mono ?_
    rintro e w1 ⟨rfl, rfl⟩
    rw [h1]
    go_wp2_with fail
    refine (frAgain_any 200 t _ hz hz).mono ?_
    rintro e w2 ⟨rfl, n2, rfl⟩
    go_wp2_with fail
    go_ret2
    exact ⟨rfl, bel_drewN (Below.refl _ _) n2⟩

theorem implFA_any (t : ByteArray) (w : World) (hs : t.size ≤ maxLen) :
    Calls Tryd.prog 14 #[.string t] w fun e w' => e = .returned (ansFA t) ∧ Below w.heap.size w w' := by
  cases h1 : upG 200 t
  · rw [show ansFA t = .tuple #[.string ⟨#[]⟩, .bool false] from by unfold ansFA; rw [h1]; rfl]
    go_enter Tryd.func14, Tryd.ntmps14
    go_wp2_with fail
    refine (implMany_any t _ hs).mono ?_
    rintro e w1 ⟨rfl, hb1⟩
    rw [h1]
    go_wp2_with fail
    go_ret2
    exact ⟨rfl, hb1⟩
  · rw [show ansFA t = .tuple #[.string (agn 200 t), .bool true] from by unfold ansFA; rw [h1]; rfl]
    have hz := up200 h1
    go_enter Tryd.func14, Tryd.ntmps14
    go_wp2_with fail
    refine (implMany_any t _ hs).mono ?_
    rintro e w1 ⟨rfl, hb1⟩
    rw [h1]
    go_wp2_with fail
    refine (fairAgain_any 200 t _ hz hz).mono ?_
    rintro e w2 ⟨rfl, hb2⟩
    go_wp2_with fail
    go_ret2
    exact ⟨rfl, bel_trans hb1 hb2⟩

theorem walkExactFairByPairs (t : ByteArray) (w : World) (hs : t.size ≤ maxLen) :
    Calls Tryd.prog 4 #[.string t] w fun e w' => e = .returned (.bool true) ∧ Below w.heap.size w w' := by
  by_cases z : t.size ≤ 1048576
  · obtain ⟨x, ok, hv⟩ := ansFP_form t
    have Hv := Lib.hid hv
    clear hv
    go_enter Tryd.func4, Tryd.ntmps4
    go_wp2_with fail
    refine (specFP_any t _ hs).mono ?_
    rintro e w1 ⟨rfl, hb1⟩
    rw [Hv.out]
    go_wp2_with fail
    refine (implFP_any t _ hs).mono ?_
    rintro e w2 ⟨rfl, hb2⟩
    rw [Hv.out]
    go_wp2_with fail
    go_ret
    exact ⟨rfl, bel_trans hb1 hb2⟩
  · go_enter Tryd.func4, Tryd.ntmps4
    go_wp2
    go_ret
    exact ⟨rfl, Below.refl _ _⟩

theorem walkExactPairsThatGive (t : ByteArray) (w : World) (hs : t.size ≤ maxLen) :
    Calls Tryd.prog 6 #[.string t] w fun e w' => e = .returned (.bool true) ∧ Below w.heap.size w w' := by
  by_cases z : t.size ≤ 1048576
  · obtain ⟨x, ok, hv⟩ := ansPG_form t
    have Hv := Lib.hid hv
    clear hv
    go_enter Tryd.func6, Tryd.ntmps6
    go_wp2_with fail
    refine (specPG_any t _ hs).mono ?_
    rintro e w1 ⟨rfl, hb1⟩
    rw [Hv.out]
    go_wp2_with fail
    refine (implPG_any t _ hs).mono ?_
    rintro e w2 ⟨rfl, hb2⟩
    rw [Hv.out]
    go_wp2_with fail
    go_ret
    exact ⟨rfl, bel_trans hb1 hb2⟩
  · go_enter Tryd.func6, Tryd.ntmps6
    go_wp2
    go_ret
    exact ⟨rfl, Below.refl _ _⟩

theorem walkExactFairAgain (t : ByteArray) (w : World) (hs : t.size ≤ maxLen) :
    Calls Tryd.prog 5 #[.string t] w fun e w' => e = .returned (.bool true) ∧ Below w.heap.size w w' := by
  by_cases z : t.size ≤ 1048576
  · obtain ⟨x, ok, hv⟩ := ansFA_form t
    have Hv := Lib.hid hv
    clear hv
    go_enter Tryd.func5, Tryd.ntmps5
    go_wp2_with fail
    refine (specFA_any t _ hs).mono ?_
    rintro e w1 ⟨rfl, hb1⟩
    rw [Hv.out]
    go_wp2_with fail
    refine (implFA_any t _ hs).mono ?_
    rintro e w2 ⟨rfl, hb2⟩
    rw [Hv.out]
    go_wp2_with fail
    go_ret
    exact ⟨rfl, bel_trans hb1 hb2⟩
  · go_enter Tryd.func5, Tryd.ntmps5
    go_wp2
    go_ret
    exact ⟨rfl, Below.refl _ _⟩

set_option maxHeartbeats 800000 in
theorem specSF_any (a b : ByteArray) (w : World) (ha : a.size ≤ maxLen) (hb : b.size ≤ maxLen) :
    Calls Tryd.prog 17 #[.string a, .string b] w fun e w' => e = .returned (ansSF a b) ∧ Below w.heap.size w w' := by
  cases h1 : upG 200 a
  · cases h2 : upG 200 b
    · rw [show ansSF a b = .tuple #[.bool false, .bool false] from by unfold ansSF; rw [h1, h2]; rfl]
      go_enter Tryd.func17, Tryd.ntmps17
      go_wp2_with fail
      refine (frTosses_any a _ ha).mono ?_
      rintro e w1 ⟨rfl, rfl⟩
      rw [h1]
      go_wp2_with fail
      go_ret2
      exact ⟨rfl, Below.refl _ _⟩
    · rw [show ansSF a b = .tuple #[.bool false, .bool false] from by unfold ansSF; rw [h1, h2]; rfl]
      go_enter Tryd.func17, Tryd.ntmps17
      go_wp2_with fail
      refine (frTosses_any a _ ha).mono ?_
      rintro e w1 ⟨rfl, rfl⟩
      rw [h1]
      go_wp2_with fail
      go_ret2
      exact ⟨rfl, Below.refl _ _⟩
  · cases h2 : upG 200 b
    · rw [show ansSF a b = .tuple #[.bool false, .bool false] from by unfold ansSF; rw [h1, h2]; rfl]
      go_enter Tryd.func17, Tryd.ntmps17
      go_wp2_with fail
      refine (frTosses_any a _ ha).mono ?_
      rintro e w1 ⟨rfl, rfl⟩
      rw [h1]
      go_wp2_with fail
      refine (frTosses_any b _ hb).mono ?_
      rintro e w2 ⟨rfl, rfl⟩
      rw [h2]
      go_wp2_with fail
      go_ret2
      exact ⟨rfl, Below.refl _ _⟩
    · rw [show ansSF a b = .tuple #[.bool ((bs (fF a (a.size / 2))).toList == (bs (fF b (b.size / 2))).toList), .bool true] from by unfold ansSF; rw [h1, h2]; rfl]
      have za := up200 h1
      have zb := up200 h2
      go_enter Tryd.func17, Tryd.ntmps17
      go_wp2_with fail
      refine (frTosses_any a _ ha).mono ?_
      rintro e w1 ⟨rfl, rfl⟩
      rw [h1]
      go_wp2_with fail
      refine (frTosses_any b _ hb).mono ?_
      rintro e w2 ⟨rfl, rfl⟩
      rw [h2]
      go_wp2_with fail
      refine (frPairs_any a _ za).mono ?_
      rintro e w3 ⟨rfl, n3, rfl⟩
      unfold ansPr
      go_wp2_with fail
      refine (frPairs_any b _ zb).mono ?_
      rintro e w4 ⟨rfl, n4, rfl⟩
      unfold ansPr
      go_wp2_with fail
      go_ret2
      exact ⟨rfl, bel_drewN (Below.refl _ _) (n3 + n4)⟩

set_option maxHeartbeats 800000 in
theorem implSF_any (a b : ByteArray) (w : World) (ha : a.size ≤ maxLen) (hb : b.size ≤ maxLen) :
    Calls Tryd.prog 18 #[.string a, .string b] w fun e w' => e = .returned (ansSF a b) ∧ Below w.heap.size w w' := by
  cases h1 : upG 200 a
  · cases h2 : upG 200 b
    · rw [show ansSF a b = .tuple #[.bool false, .bool false] from by unfold ansSF; rw [h1, h2]; rfl]
      have HAa : Hid (ansFP a = .tuple #[.string ⟨#[]⟩, .bool false]) := Lib.hid (by unfold ansFP; rw [h1]; rfl)
      have HAb : Hid (ansFP b = .tuple #[.string ⟨#[]⟩, .bool false]) := Lib.hid (by unfold ansFP; rw [h2]; rfl)
      go_enter Tryd.func18, Tryd.ntmps18
      go_wp2_with fail
      refine (implFP_any a _ ha).mono ?_
      rintro e w1 ⟨rfl, hb1⟩
      rw [HAa.out]
      go_wp2_with fail
      refine (implFP_any b _ hb).mono ?_
      rintro e w2 ⟨rfl, hb2⟩
      rw [HAb.out]
      go_wp2_with fail
      go_ret2
      exact ⟨rfl, bel_trans hb1 hb2⟩
    · rw [show ansSF a b = .tuple #[.bool false, .bool false] from by unfold ansSF; rw [h1, h2]; rfl]
      have HAa : Hid (ansFP a = .tuple #[.string ⟨#[]⟩, .bool false]) := Lib.hid (by unfold ansFP; rw [h1]; rfl)
      have HAb : Hid (ansFP b = .tuple #[.string (bs (fF b (b.size / 2))), .bool true]) := Lib.hid (by unfold ansFP; rw [h2]; rfl)
      go_enter Tryd.func18, Tryd.ntmps18
      go_wp2_with fail
      refine (implFP_any a _ ha).mono ?_
      rintro e w1 ⟨rfl, hb1⟩
      rw [HAa.out]
      go_wp2_with fail
      refine (implFP_any b _ hb).mono ?_
      rintro e w2 ⟨rfl, hb2⟩
      rw [HAb.out]
      go_wp2_with fail
      go_ret2
      exact ⟨rfl, bel_trans hb1 hb2⟩
  · cases h2 : upG 200 b
    · rw [show ansSF a b = .tuple #[.bool false, .bool false] from by unfold ansSF; rw [h1, h2]; rfl]
      have HAa : Hid (ansFP a = .tuple #[.string (bs (fF a (a.size / 2))), .bool true]) := Lib.hid (by unfold ansFP; rw [h1]; rfl)
      have HAb : Hid (ansFP b = .tuple #[.string ⟨#[]⟩, .bool false]) := Lib.hid (by unfold ansFP; rw [h2]; rfl)
      go_enter Tryd.func18, Tryd.ntmps18
      go_wp2_with fail
      refine (implFP_any a _ ha).mono ?_
      rintro e w1 ⟨rfl, hb1⟩
      rw [HAa.out]
      go_wp2_with fail
      refine (implFP_any b _ hb).mono ?_
      rintro e w2 ⟨rfl, hb2⟩
      rw [HAb.out]
      go_wp2_with fail
      go_ret2
      exact ⟨rfl, bel_trans hb1 hb2⟩
    · rw [show ansSF a b = .tuple #[.bool ((bs (fF a (a.size / 2))).toList == (bs (fF b (b.size / 2))).toList), .bool true] from by unfold ansSF; rw [h1, h2]; rfl]
      have HAa : Hid (ansFP a = .tuple #[.string (bs (fF a (a.size / 2))), .bool true]) := Lib.hid (by unfold ansFP; rw [h1]; rfl)
      have HAb : Hid (ansFP b = .tuple #[.string (bs (fF b (b.size / 2))), .bool true]) := Lib.hid (by unfold ansFP; rw [h2]; rfl)
      go_enter Tryd.func18, Tryd.ntmps18
      go_wp2_with fail
      refine (implFP_any a _ ha).mono ?_
      rintro e w1 ⟨rfl, hb1⟩
      rw [HAa.out]
      go_wp2_with fail
      refine (implFP_any b _ hb).mono ?_
      rintro e w2 ⟨rfl, hb2⟩
      rw [HAb.out]
      go_wp2_with fail
      go_ret2
      exact ⟨rfl, bel_trans hb1 hb2⟩

theorem walkExactSameFair (a b : ByteArray) (w : World) (ha : a.size ≤ maxLen) (hb : b.size ≤ maxLen) :
    Calls Tryd.prog 7 #[.string a, .string b] w fun e w' => e = .returned (.bool true) ∧ Below w.heap.size w w' := by
  by_cases za : a.size ≤ 1048576
  · by_cases zb : b.size ≤ 1048576
    · obtain ⟨x, ok, hv⟩ := ansSF_form a b
      have Hv := Lib.hid hv
      clear hv
      go_enter Tryd.func7, Tryd.ntmps7
      go_wp2_with fail
      refine (specSF_any a b _ ha hb).mono ?_
      rintro e w1 ⟨rfl, hb1⟩
      rw [Hv.out]
      go_wp2_with fail
      refine (implSF_any a b _ ha hb).mono ?_
      rintro e w2 ⟨rfl, hb2⟩
      rw [Hv.out]
      go_wp2_with fail
      go_ret
      exact ⟨rfl, bel_trans hb1 hb2⟩
    · go_enter Tryd.func7, Tryd.ntmps7
      go_wp2
      go_ret
      exact ⟨rfl, Below.refl _ _⟩
  · go_enter Tryd.func7, Tryd.ntmps7
    go_wp2
    go_ret
    exact ⟨rfl, Below.refl _ _⟩

end Go.Proofs.YtnpghbbmhehnlaaDoor
