/- WordOfRank: contracts. -/
import Derived.Test.YtiblggfihpobkabBkw
import Derived.Test.YtiblggfihpobkabWoAl
import Derived.Lib.OwnBridge
import Derived.Laws.IdiomStrings
namespace Go.Proofs.Ytiblggfihpobkab
set_option linter.unusedSimpArgs false
open Go.ChangeShapes Go.WideShapes Go.ChangeAt Go.RowKit Go.Shelf
set_option linter.unusedVariables false

def stp (n : Nat) (s : List UInt8 × Nat) (i : Nat) : List UInt8 × Nat := (s.1.set i (ltr (s.2 % n)), s.2 / n)
theorem wr_all (n : Nat) : ∀ (m q : Nat) (suf : List UInt8), ((dnL m).foldl (stp n) (List.replicate m 0 ++ suf, q)).1 = wdL n m q ++ suf
  | 0, q, suf => rfl
  | m + 1, q, suf => by
    have h : stp n (List.replicate (m + 1) 0 ++ suf, q) m = (List.replicate m 0 ++ (ltr (q % n) :: suf), q / n) := by
      unfold stp
      rw [List.replicate_succ', List.append_assoc, List.set_append_right _ _ (by simp)]
      simp
    rw [dnL_succ, List.foldl_cons, h, wr_all n m]
    show _ = wdL n m (q / n) ++ [ltr (q % n)] ++ suf
    rw [List.append_assoc]
    rfl
def wrG (a b r : Int) : Bool := loG a b && (decide (0 ≤ r) && decide (r < a ^ b.toNat))
def ansWr (a b r : Int) : Value := if wrG a b r then .tuple #[.string (wdB a.toNat b.toNat r.toNat), .bool true] else .tuple #[.string ⟨#[]⟩, .bool false]
theorem ansWr_form (a b r : Int) : ∃ (x : ByteArray) (o : Bool), ansWr a b r = .tuple #[.string x, .bool o] := by
  unfold ansWr
  split
  · exact ⟨_, _, rfl⟩
  · exact ⟨_, _, rfl⟩
set_option maxRecDepth 100000 in
set_option maxHeartbeats 1600000 in
theorem specWr_any (a b r : Int) (w : World) :
    Calls Try.prog 21 #[.int .i64 a, .int .i64 b, .int .i64 r] w fun e w' => e = .returned (ansWr a b r) ∧ Below w.heap.size w w' := by
  cases h1 : loG a b
  · rw [show ansWr a b r = .tuple #[.string ⟨#[]⟩, .bool false] from by unfold ansWr wrG; rw [h1]; rfl]
    go_enter Try.func21, Try.ntmps21
    go_wp2_with fail
    refine (woLong_any a b _).mono ?_
    rintro e w' ⟨rfl, rfl⟩
    rw [h1]
    go_wp2_with fail
    go_ret2
    exact ⟨rfl, Below.refl _ _⟩
  · obtain ⟨n, L, rfl, rfl, n1, n2, l1, l2⟩ := lo_nat h1
    obtain ⟨c0, c1⟩ := pw_le8 n n1 n2 L l2
    have hq0 : ansWr n L r = if (decide (0 ≤ r) && decide (r < (n : Int) ^ L)) then .tuple #[.string (wdB n L r.toNat), .bool true] else .tuple #[.string ⟨#[]⟩, .bool false] := by unfold ansWr wrG; rw [h1]; rfl
    have hq1 : inB r 0 ((n : Int) ^ L - 1) = (decide (0 ≤ r) && decide (r < (n : Int) ^ L)) := by
      unfold inB
      congr 1
      exact decide_eq_decide.2 (by omega)
    obtain ⟨q, hq⟩ : ∃ q, q = (n : Int) ^ L := ⟨_, rfl⟩
    rw [← hq] at c0 c1 hq0 hq1
    have Hq := Lib.hid hq
    clear hq
    cases h2 : (decide (0 ≤ r) && decide (r < q))
    · rw [h2] at hq0 hq1
      rw [hq0, if_neg (by simp)]
      go_enter Try.func21, Try.ntmps21
      go_wp2_with fail
      refine (woLong_any n L _).mono ?_
      rintro e w' ⟨rfl, rfl⟩
      rw [h1]
      clear h1
      go_wp2_with fail
      refine (woPower_any n L _ n1 n2 (by omega)).mono ?_
      rintro e w' ⟨rfl, rfl⟩
      rw [← Hq.out]
      go_wp2_with fail
      refine (l1In_any _ _ _ _).mono ?_
      rintro e w' ⟨rfl, rfl⟩
      rw [hq1]
      go_wp2_with fail
      go_ret2
      exact ⟨rfl, Below.refl _ _⟩
    · rw [h2] at hq0 hq1
      rw [hq0, if_pos rfl]
      have hr : 0 ≤ r ∧ r < q := by simpa using h2
      obtain ⟨k, rfl⟩ : ∃ k : Nat, r = k := ⟨r.toNat, by omega⟩
      go_enter Try.func21, Try.ntmps21
      go_wp2_with fail
      refine (woLong_any n L _).mono ?_
      rintro e w' ⟨rfl, rfl⟩
      rw [h1]
      clear h1
      go_wp2_with fail
      refine (woPower_any n L _ n1 n2 (by omega)).mono ?_
      rintro e w' ⟨rfl, rfl⟩
      rw [← Hq.out]
      go_wp2_with fail
      refine (l1In_any _ _ _ _).mono ?_
      rintro e w' ⟨rfl, rfl⟩
      rw [hq1]
      go_wp2_with fail
      refine (woOf_any n L k _ n1 n2 l2 (by omega)).mono ?_
      rintro e w' ⟨rfl, rfl⟩
      go_wp2_with fail
      go_ret2
      exact ⟨rfl, Below.refl _ _⟩
end Go.Proofs.Ytiblggfihpobkab
