/- CountTextsWithout and CountFirstTyped: contracts of the program and of its model, and the walks. -/
import Derived.Test.YtjfcpbedmdnjcabDoorCtT
import Derived.Test.YtjfcpbedmdnjcabDoorCtS
namespace Go.Proofs.YtjfcpbedmdnjcabDoor
set_option linter.unusedSimpArgs false
open Go.ChangeShapes Go.WideShapes Go.ChangeAt Go.RowKit
set_option linter.unusedVariables false

theorem ctT_form (x : Int) : ∃ (y : Int) (o : Bool), ctT x = .tuple #[.int .i64 y, .bool o] := by
  unfold ctT
  split
  · exact ⟨_, _, rfl⟩
  · exact ⟨_, _, rfl⟩
def askC (a : Int) (s : ByteArray) (b : Int) : Bool := tyG a s && inB b 0 30
theorem ask_in {a b : Int} {s : ByteArray} (h : askC a s b = true) : ∃ n L : Nat, a = n ∧ b = L ∧ n ≤ 26 ∧ L ≤ 30 ∧ 1 ≤ s.size ∧ s.size ≤ 8 := by
  unfold askC at h
  rw [Bool.and_eq_true] at h
  obtain ⟨n, rfl, n1, n2, g⟩ := ty_in h.1
  obtain ⟨p1, p2, p3⟩ := wo_in g
  obtain ⟨b0, b1⟩ := (inB_iff _ _ _).1 h.2
  obtain ⟨L, rfl⟩ := Int.eq_ofNat_of_zero_le b0
  exact ⟨n, L, rfl, rfl, n2, by omega, p1, p2⟩
theorem isCounted_any (a b : Int) (s : ByteArray) (w : World) (hs : s.size ≤ maxLen) :
    Calls Tryd.prog 38 #[.int .i64 a, .string s, .int .i64 b] w fun e w' => e = .returned (.bool (askC a s b)) ∧ Below w.heap.size w w' := by
  cases h1 : tyG a s
  · rw [show askC a s b = false from by unfold askC; rw [h1]; rfl]
    go_enter Tryd.func38, Tryd.ntmps38
    go_wp2_with fail
    refine (isTyped_any a s _ hs).mono ?_
    rintro e w' ⟨rfl, hb⟩
    rw [h1]
    go_wp2_with fail
    go_ret
    exact ⟨rfl, hb⟩
  · by_cases h2 : 0 ≤ b
    · have hd : decide (0 ≤ b) = true := by simpa using h2
      rw [show askC a s b = decide (b ≤ 30) from by unfold askC inB; rw [h1, hd]; rfl]
      go_enter Tryd.func38, Tryd.ntmps38
      go_wp2_with fail
      refine (isTyped_any a s _ hs).mono ?_
      rintro e w' ⟨rfl, hb⟩
      rw [h1]
      go_wp2_with fail
      go_ret
      exact ⟨rfl, hb⟩
    · have hd : decide (0 ≤ b) = false := by simpa using h2
      rw [show askC a s b = false from by unfold askC inB; rw [h1, hd]; rfl]
      go_enter Tryd.func38, Tryd.ntmps38
      go_wp2_with fail
      refine (isTyped_any a s _ hs).mono ?_
      rintro e w' ⟨rfl, hb⟩
      rw [h1]
      go_wp2_with fail
      go_ret
      exact ⟨rfl, hb⟩
theorem toldTexts_any (x : Int) (w : World) : Calls Tryd.prog 40 #[.int .i64 x] w fun e w' => e = .returned (ctT x) ∧ w = w' := by
  by_cases h : x < ctX
  · rw [show ctT x = .tuple #[.int .i64 x, .bool true] from if_pos h]
    have hd : ¬ 1000000000000000 < x := by unfold ctX at h; omega
    go_enter Tryd.func40, Tryd.ntmps40
    go_wp2_with fail
    go_ret2
    exact ⟨rfl, rfl⟩
  · rw [show ctT x = .tuple #[.int .i64 0, .bool false] from if_neg h]
    have hd : 1000000000000000 < x := by unfold ctX at h; omega
    go_enter Tryd.func40, Tryd.ntmps40
    go_wp2_with fail
    go_ret2
    exact ⟨rfl, rfl⟩
def ansNo : Value := .tuple #[.int .i64 0, .bool false]
def ansWo (a : Int) (s : ByteArray) (b : Int) : Value := if askC a s b then ctT (ctW (ctV s a.toNat b.toNat) s.size) else ansNo
def ansFi (a : Int) (s : ByteArray) (b : Int) : Value := if askC a s b then ctT (ctV s a.toNat b.toNat s.size) else ansNo
theorem ansWo_form (a b : Int) (s : ByteArray) : ∃ (y : Int) (o : Bool), ansWo a s b = .tuple #[.int .i64 y, .bool o] := by
  unfold ansWo
  split
  · exact ctT_form _
  · exact ⟨_, _, rfl⟩
theorem ansFi_form (a b : Int) (s : ByteArray) : ∃ (y : Int) (o : Bool), ansFi a s b = .tuple #[.int .i64 y, .bool o] := by
  unfold ansFi
  split
  · exact ctT_form _
  · exact ⟨_, _, rfl⟩
theorem specWo_any (a b : Int) (s : ByteArray) (w : World) (hs : s.size ≤ maxLen) :
    Calls Tryd.prog 16 #[.int .i64 a, .string s, .int .i64 b] w fun e w' => e = .returned (ansWo a s b) ∧ Below w.heap.size w w' := by
  cases h1 : askC a s b
  · rw [show ansWo a s b = ansNo from by unfold ansWo; rw [h1]; rfl]
    unfold ansNo
    cases h2 : tyG a s
    · go_enter Tryd.func16, Tryd.ntmps16
      go_wp2_with fail
      refine (woAsked_any a s _ hs).mono ?_
      rintro e w' ⟨rfl, rfl⟩
      rw [h2]
      go_wp2_with fail
      go_ret2
      exact ⟨rfl, Below.refl _ _⟩
    · have h3 : inB b 0 30 = false := by unfold askC at h1; rw [h2] at h1; exact h1
      go_enter Tryd.func16, Tryd.ntmps16
      go_wp2_with fail
      refine (woAsked_any a s _ hs).mono ?_
      rintro e w' ⟨rfl, rfl⟩
      rw [h2]
      go_wp2_with fail
      refine (l1In_any _ _ _ _).mono ?_
      rintro e w' ⟨rfl, rfl⟩
      rw [h3]
      go_wp2_with fail
      go_ret2
      exact ⟨rfl, Below.refl _ _⟩
  · obtain ⟨n, L, rfl, rfl, n2, hL, p1, p8⟩ := ask_in h1
    rw [show ansWo n s L = ctT (ctW (ctV s n L) s.size) from by unfold ansWo; rw [h1]; rfl]
    have h2 : tyG n s = true ∧ inB L 0 30 = true := by unfold askC at h1; exact (Bool.and_eq_true _ _).mp h1
    have hcap := ctT_cap (ctW (ctV s n L) s.size)
    have hvi := ctV_in s n L s.size
    have hcall := woCount_any n s L
    generalize ctV s n L s.size = Y at *
    generalize ctW (ctV s n L) s.size = Z at *
    have H2 := Lib.hid h2
    have HC := Lib.hid (fun W : World => hcall W n2 p1 p8 hL)
    clear h2 hcall h1
    have HE := Lib.hid hcap.symm
    clear hcap hvi
    generalize ctM Z = X at *
    rw [HE.out]
    by_cases hx : X < ctX
    · rw [show ctT X = .tuple #[.int .i64 X, .bool true] from if_pos hx]
      have hd : ¬ 1000000000000000 < X := by unfold ctX at hx; omega
      clear hx HE
      go_enter Tryd.func16, Tryd.ntmps16
      go_wp2_with fail
      refine (woAsked_any n s _ hs).mono ?_
      rintro e w' ⟨rfl, rfl⟩
      rw [H2.out.1]
      go_wp2_with fail
      refine (l1In_any _ _ _ _).mono ?_
      rintro e w' ⟨rfl, rfl⟩
      rw [H2.out.2]
      go_wp2_with fail
      refine (HC.out _).mono ?_
      rintro e w2 ⟨rfl, b2⟩
      go_wp2_with fail
      go_ret2
      exact ⟨rfl, b2⟩
    · rw [show ctT X = .tuple #[.int .i64 0, .bool false] from if_neg hx]
      have hd : 1000000000000000 < X := by unfold ctX at hx; omega
      clear hx HE
      go_enter Tryd.func16, Tryd.ntmps16
      go_wp2_with fail
      refine (woAsked_any n s _ hs).mono ?_
      rintro e w' ⟨rfl, rfl⟩
      rw [H2.out.1]
      go_wp2_with fail
      refine (l1In_any _ _ _ _).mono ?_
      rintro e w' ⟨rfl, rfl⟩
      rw [H2.out.2]
      go_wp2_with fail
      refine (HC.out _).mono ?_
      rintro e w2 ⟨rfl, b2⟩
      go_wp2_with fail
      go_ret2
      exact ⟨rfl, b2⟩
theorem specFi_any (a b : Int) (s : ByteArray) (w : World) (hs : s.size ≤ maxLen) :
    Calls Tryd.prog 18 #[.int .i64 a, .string s, .int .i64 b] w fun e w' => e = .returned (ansFi a s b) ∧ Below w.heap.size w w' := by
  cases h1 : askC a s b
  · rw [show ansFi a s b = ansNo from by unfold ansFi; rw [h1]; rfl]
    unfold ansNo
    cases h2 : tyG a s
    · go_enter Tryd.func18, Tryd.ntmps18
      go_wp2_with fail
      refine (woAsked_any a s _ hs).mono ?_
      rintro e w' ⟨rfl, rfl⟩
      rw [h2]
      go_wp2_with fail
      go_ret2
      exact ⟨rfl, Below.refl _ _⟩
    · have h3 : inB b 0 30 = false := by unfold askC at h1; rw [h2] at h1; exact h1
      go_enter Tryd.func18, Tryd.ntmps18
      go_wp2_with fail
      refine (woAsked_any a s _ hs).mono ?_
      rintro e w' ⟨rfl, rfl⟩
      rw [h2]
      go_wp2_with fail
      refine (l1In_any _ _ _ _).mono ?_
      rintro e w' ⟨rfl, rfl⟩
      rw [h3]
      go_wp2_with fail
      go_ret2
      exact ⟨rfl, Below.refl _ _⟩
  · obtain ⟨n, L, rfl, rfl, n2, hL, p1, p8⟩ := ask_in h1
    rw [show ansFi n s L = ctT (ctV s n L s.size) from by unfold ansFi; rw [h1]; rfl]
    have h2 : tyG n s = true ∧ inB L 0 30 = true := by unfold askC at h1; exact (Bool.and_eq_true _ _).mp h1
    have hcap := ctT_cap (ctV s n L s.size)
    have hvi := ctV_in s n L s.size
    have hcall := woCount_any n s L
    generalize ctV s n L s.size = Y at *
    generalize ctW (ctV s n L) s.size = Z at *
    have H2 := Lib.hid h2
    have HC := Lib.hid (fun W : World => hcall W n2 p1 p8 hL)
    clear h2 hcall h1
    have HE : Hid (ctT Y = ctT Y) := rfl
    clear hcap hvi
    generalize ctM Z = U at *
    obtain ⟨X, hX⟩ : ∃ X, X = Y := ⟨_, rfl⟩
    rw [← hX] at HE HC ⊢
    clear hX
    rw [HE.out]
    by_cases hx : X < ctX
    · rw [show ctT X = .tuple #[.int .i64 X, .bool true] from if_pos hx]
      have hd : ¬ 1000000000000000 < X := by unfold ctX at hx; omega
      clear hx HE
      go_enter Tryd.func18, Tryd.ntmps18
      go_wp2_with fail
      refine (woAsked_any n s _ hs).mono ?_
      rintro e w' ⟨rfl, rfl⟩
      rw [H2.out.1]
      go_wp2_with fail
      refine (l1In_any _ _ _ _).mono ?_
      rintro e w' ⟨rfl, rfl⟩
      rw [H2.out.2]
      go_wp2_with fail
      refine (HC.out _).mono ?_
      rintro e w2 ⟨rfl, b2⟩
      go_wp2_with fail
      go_ret2
      exact ⟨rfl, b2⟩
    · rw [show ctT X = .tuple #[.int .i64 0, .bool false] from if_neg hx]
      have hd : 1000000000000000 < X := by unfold ctX at hx; omega
      clear hx HE
      go_enter Tryd.func18, Tryd.ntmps18
      go_wp2_with fail
      refine (woAsked_any n s _ hs).mono ?_
      rintro e w' ⟨rfl, rfl⟩
      rw [H2.out.1]
      go_wp2_with fail
      refine (l1In_any _ _ _ _).mono ?_
      rintro e w' ⟨rfl, rfl⟩
      rw [H2.out.2]
      go_wp2_with fail
      refine (HC.out _).mono ?_
      rintro e w2 ⟨rfl, b2⟩
      go_wp2_with fail
      go_ret2
      exact ⟨rfl, b2⟩
end Go.Proofs.YtjfcpbedmdnjcabDoor
