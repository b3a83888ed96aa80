/- LongestTyped: contracts and the walk. -/
import Derived.Test.YtiblggfihpobkaaWoOf
import Derived.Test.YtiblggfihpobkaaWoMm
import Derived.Test.YtiblggfihpobkaaWoAl
namespace Go.Proofs.Ytiblggfihpobkaa
set_option linter.unusedSimpArgs false
open Go.ChangeShapes Go.WideShapes Go.ChangeAt Go.RowKit
set_option linter.unusedVariables false

theorem wd_zero (n : Nat) : ∀ L, wdL n L 0 = List.replicate L 97
  | 0 => rfl
  | L + 1 => by
    unfold wdL
    rw [Nat.zero_div, Nat.zero_mod, wd_zero n L, show ltr 0 = 97 from rfl, ← List.replicate_succ']
/-- The word of so many letters a. -/
def aaa (L : Nat) : ByteArray := ⟨(List.replicate L (97 : UInt8)).toArray⟩
theorem aaa_size (L : Nat) : (aaa L).size = L := by rw [← len_list]; unfold aaa; simp
theorem repeat_a (L : Nat) (w : World) (h8 : L ≤ 8) :
    Calls Try.prog 10 #[.string (alpha.extract 0 1), .int .i64 L] w fun e w' => e = .returned (.string (aaa L)) ∧ Below w.heap.size w w' := by
  have h1 := alpha_one 0 (by omega)
  have hs1 : (alpha.extract 0 1).size = 1 := by rw [← len_list, h1]; rfl
  refine (Try.strings_Repeat (alpha.extract 0 1) L w (by omega) (by rw [hs1]; omega)).mono ?_
  rintro e w' ⟨rfl, hb⟩
  refine ⟨?_, hb⟩
  have h2 : (alpha.extract 0 1).data.toList = List.replicate 1 97 := h1
  rw [h2, Lib.repeatL_replicate, Nat.mul_one]
  rfl
def ansLg (a b : Int) : Value := if loG a b then .tuple #[.string (aaa b.toNat), .int .i64 (mnV a.toNat (aaa b.toNat)), .bool true] else .tuple #[.string ⟨#[]⟩, .int .i64 0, .bool false]
theorem specLg_any (a b : Int) (w : World) :
    Calls Try.prog 4 #[.int .i64 a, .int .i64 b] w fun e w' => e = .returned (ansLg a b) ∧ Below w.heap.size w w' := by
  cases h1 : loG a b
  · rw [show ansLg a b = .tuple #[.string ⟨#[]⟩, .int .i64 0, .bool false] from by unfold ansLg; rw [h1]; rfl]
    go_enter Try.func4, Try.ntmps4
    go_wp2_with fail
    refine (woLong_any a b _).mono ?_
    rintro e w' ⟨rfl, rfl⟩
    rw [h1]
    go_wp2_with fail
    go_ret3
    exact ⟨rfl, Below.refl _ _⟩
  · obtain ⟨n, L, rfl, rfl, n1, n2, l1, l2⟩ := lo_nat h1
    rw [show ansLg n L = .tuple #[.string (aaa L), .int .i64 (mnV n (aaa L)), .bool true] from by unfold ansLg; rw [h1]; rfl]
    have hz := aaa_size L
    have hw0 : Hid (wdB n L 0 = aaa L) := Lib.hid (ba_eq.2 (by rw [wdB_list, wd_zero]; rfl))
    generalize aaa L = A at *
    have Hz := Lib.hid hz
    clear hz
    go_enter Try.func4, Try.ntmps4
    go_wp2_with fail
    refine (woLong_any n L _).mono ?_
    rintro e w' ⟨rfl, rfl⟩
    rw [h1]
    go_wp2_with fail
    refine (woOf_any n L 0 _ n1 n2 l2 (by omega)).mono ?_
    rintro e w' ⟨rfl, rfl⟩
    rw [hw0.out]
    go_wp2_with fail
    refine (woMean_any n A _ n1 n2 (by rw [Hz.out]; exact l1) (by rw [Hz.out]; exact l2)).mono ?_
    rintro e w2 ⟨rfl, b2⟩
    go_wp2_with fail
    go_ret3
    exact ⟨rfl, b2⟩
theorem implLg_any (a b : Int) (w : World) :
    Calls Try.prog 5 #[.int .i64 a, .int .i64 b] w fun e w' => e = .returned (ansLg a b) ∧ Below w.heap.size w w' := by
  cases h1 : loG a b
  · rw [show ansLg a b = .tuple #[.string ⟨#[]⟩, .int .i64 0, .bool false] from by unfold ansLg; rw [h1]; rfl]
    go_enter Try.func5, Try.ntmps5
    go_wp2_with fail
    refine (areWords_any a b _).mono ?_
    rintro e w' ⟨rfl, rfl⟩
    rw [h1]
    go_wp2_with fail
    go_ret3
    exact ⟨rfl, Below.refl _ _⟩
  · obtain ⟨n, L, rfl, rfl, n1, n2, l1, l2⟩ := lo_nat h1
    rw [show ansLg n L = .tuple #[.string (aaa L), .int .i64 (mnV n (aaa L)), .bool true] from by unfold ansLg; rw [h1]; rfl]
    have hz := aaa_size L
    have Hz := Lib.hid hz
    clear hz
    go_enter Try.func5, Try.ntmps5
    go_wp2_with fail
    refine (areWords_any n L _).mono ?_
    rintro e w' ⟨rfl, rfl⟩
    rw [h1]
    go_wp2_with fail
    refine (repeat_a L _ l2).mono ?_
    rintro e w1 ⟨rfl, b1⟩
    go_wp2_with fail
    refine (implMean_any n (aaa L) _ n1 n2 (by rw [Hz.out]; exact l1) (by rw [Hz.out]; exact l2)).mono ?_
    rintro e w2 ⟨rfl, b2⟩
    go_wp2_with fail
    go_ret3
    exact ⟨rfl, bel_trans b1 b2⟩
theorem ansLg_form (a b : Int) : ∃ (x : ByteArray) (y : Int) (o : Bool), ansLg a b = .tuple #[.string x, .int .i64 y, .bool o] := by
  unfold ansLg
  split
  · exact ⟨_, _, _, rfl⟩
  · exact ⟨_, _, _, rfl⟩
theorem walkExactLongestTyped (a b : Int) (w : World) (ha : (Lit.int .i64 a).wf = true) (hb : (Lit.int .i64 b).wf = true) :
    Calls Try.prog 3 #[.int .i64 a, .int .i64 b] w fun e w' => e = .returned (.bool true) ∧ Below w.heap.size w w' := by
  clear ha
  clear hb
  obtain ⟨x, y, o, hf⟩ := ansLg_form a b
  have Hf := Lib.hid hf
  clear hf
  go_enter Try.func3, Try.ntmps3
  go_wp2_with fail
  refine (specLg_any a b _).mono ?_
  rw [Hf.out]
  rintro e w1 ⟨rfl, b1⟩
  go_wp2_with fail
  refine (implLg_any a b _).mono ?_
  rw [Hf.out]
  rintro e w2 ⟨rfl, b2⟩
  go_wp2_with fail
  go_ret
  exact ⟨rfl, bel_trans b1 b2⟩
end Go.Proofs.Ytiblggfihpobkaa
