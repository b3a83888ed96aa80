/- RingWithAll: the program's contract. -/
import Derived.Test.YtiblggfihpobkabRgP
import Derived.Test.YtiblggfihpobkabPwL
import Derived.Test.YtiblggfihpobkabDv
import Derived.Test.YtiblggfihpobkabShelfJ
import Derived.Shelf.Strings.OnBuilder
namespace Go.Proofs.Ytiblggfihpobkab
set_option linter.unusedSimpArgs false
open Go.ChangeShapes Go.WideShapes Go.ChangeAt Go.RowKit
set_option linter.unusedVariables false

theorem jExtra : Go.Proofs.Builder.Extra Try.prog Try.lays156_ren where
  sizeBuilder := by kernel_rfl
  liesBuilder := by kernel_rfl
  t5 := Try.underlying5
  a5 := Try.isAgg5
  z5 := Try.sizeOf5
  v5 := Try.zeroValue5
  infoByte := by kernel_rfl
  cellsByte := by kernel_rfl
  sizeByte := by kernel_rfl
  neB5 := by decide
/-- The texts, one behind the other. -/
def ccB (xs : List ByteArray) : ByteArray := ⟨((xs.map (·.data.toList)).flatten).toArray⟩
theorem ccB_list (xs : List ByteArray) : (ccB xs).data.toList = (xs.map (·.data.toList)).flatten := rfl
theorem ccB_app (xs : List ByteArray) (t : ByteArray) : ccB (xs ++ [t]) = ccB xs ++ t := by
  rw [ba_eq, app_list, ccB_list, ccB_list, List.map_append, List.flatten_append]
  simp
theorem inter_nil : ∀ l : List (List UInt8), ([] : List UInt8).intercalate l = l.flatten
  | [] => rfl
  | [a] => by simp [List.intercalate]
  | a :: b :: l => by
    have ih := inter_nil (b :: l)
    unfold List.intercalate at *
    rw [List.intersperse_cons_cons, List.flatten_cons, List.flatten_cons, ih]
    simp
theorem cc_len (B : Nat) : ∀ xs : List ByteArray, (∀ x ∈ xs, x.size ≤ B) → ((xs.map (·.data.toList)).flatten).length ≤ B * xs.length
  | [], _ => by simp
  | x :: xs, h => by
    have ih := cc_len B xs (fun y hy => h y (by simp [hy]))
    have h1 := h x (by simp)
    rw [List.map_cons, List.flatten_cons, List.length_append, len_list, List.length_cons, Nat.mul_succ]
    omega
theorem join_any (xs : List ByteArray) (v : Value) (base : Nat) (w : World) (hR : SRow w base v xs) (hl : xs.length ≤ 1000) (h8 : ∀ x ∈ xs, x.size ≤ 8) :
    Calls Try.prog 40 #[v, .string ⟨#[]⟩] w fun e w' => e = .returned (.string (ccB xs)) ∧ Below w.heap.size w w' := by
  rcases hR.form with ⟨hx, A, cap, rfl⟩ | ⟨hx, g, cap, rfl, hbg, hgl, hlc, hcm⟩
  · subst hx
    refine (Any.strings_Join_none Try.lays156 jExtra A cap ⟨#[]⟩ w).mono ?_
    rintro e w' ⟨rfl, rfl⟩
    exact ⟨rfl, Below.refl _ _⟩
  · have hc := cc_len 8 xs h8
    have hj : Lib.join (xs.map (·.data.toList)) [] = (xs.map (·.data.toList)).flatten := inter_nil _
    refine (Any.strings_Join Try.lays156 jExtra g 0 cap xs ⟨#[]⟩ w (fun j x hjx => ?_) hgl (by omega) hlc (by
      show (Lib.join (xs.map (·.data.toList)) []).length ≤ _
      rw [hj]
      omega)).mono ?_
    · rw [Nat.zero_add]
      obtain ⟨hlt, rfl⟩ := List.getElem?_eq_some_iff.1 hjx
      rw [hR.at_ j hlt, getD_of hlt]
    · rintro e w' ⟨rfl, hb⟩
      refine ⟨?_, hb⟩
      show Ending.returned (.string ⟨(Lib.join (xs.map (·.data.toList)) []).toArray⟩) = _
      rw [hj]
      rfl
theorem mxI_le (ls : List Int) (B : Int) : ∀ k, (∀ j, j ≤ k → ls.getD j 0 ≤ B) → mxI ls k ≤ B
  | 0, h => h 0 (Nat.le_refl _)
  | k + 1, h => by
    have := mxI_le ls B k (fun j hj => h j (by omega))
    have := h (k + 1) (Nat.le_refl _)
    unfold mxI
    omega
theorem mxI_ge (ls : List Int) : ∀ k, ls.getD k 0 ≤ mxI ls k
  | 0 => Int.le_refl _
  | k + 1 => by unfold mxI; omega
theorem mx_dv (L : Nat) (h : 1 ≤ L) : mxI (dvL L) ((dvL L).length - 1) = (L : Int) := by
  have hl := dvL_len L h
  have h1 : (dvL L).getD ((dvL L).length - 1) 0 = (L : Int) := by
    rw [hl, Nat.add_sub_cancel, dvL_last L h, getD_last]
  have a := mxI_ge (dvL L) ((dvL L).length - 1)
  have b := mxI_le (dvL L) (L : Int) ((dvL L).length - 1) (fun j hj => by
    obtain ⟨k, e, _, k2⟩ := dvL_in L j (by omega)
    rw [e]
    omega)
  omega
theorem dfs_size (n : Nat) (ls : List Int) (n1 : 1 ≤ n) (n2 : n ≤ 26) (L : Nat) (l2 : L ≤ 8) : ∀ x ∈ dfs n ls L ByteArray.empty, x.size ≤ 8 := by
  intro x hx
  obtain ⟨e, r, he, _, rfl, _⟩ := (mem_dfs n ls n1 n2 x L _).1 hx
  rw [empty_app, wdB_size]
  omega
def ansRg (a b : Int) : Value := if fwG a b then .tuple #[.string (ccB (dfs a.toNat (dvL b.toNat) b.toNat ByteArray.empty)), .bool true] else .tuple #[.string ⟨#[]⟩, .bool false]
set_option maxRecDepth 100000 in
set_option maxHeartbeats 1600000 in
theorem implRg_any (a b : Int) (w : World) :
    Calls Try.prog 11 #[.int .i64 a, .int .i64 b] w fun e w' => e = .returned (ansRg a b) ∧ Below w.heap.size w w' := by
  cases h1 : fwG a b
  · rw [show ansRg a b = .tuple #[.string ⟨#[]⟩, .bool false] from by unfold ansRg; rw [h1]; rfl]
    go_enter Try.func11, Try.ntmps11
    go_wp2_with fail
    refine (areListed_any a b _).mono ?_
    rintro e w' ⟨rfl, rfl⟩
    rw [h1]
    go_wp2_with fail
    go_ret2
    exact ⟨rfl, Below.refl _ _⟩
  · obtain ⟨n, L, rfl, rfl, n1, n2, l1, l2, hq⟩ := fw_nat h1
    rw [show ansRg n L = .tuple #[.string (ccB (dfs n (dvL L) L ByteArray.empty)), .bool true] from by unfold ansRg; rw [h1]; rfl]
    have hlen := Lib.hid (Nat.le_trans (dfs_len n (dvL L) L ByteArray.empty) (dn_le n L n2 l2 hq))
    have hsz := Lib.hid (dfs_size n (dvL L) n1 n2 L l2)
    have hmx := Lib.hid (mx_dv L l1)
    have hll := dvL_len L l1
    have hl8 := selR_len (dvp L) 1 (L - 1)
    have h0 : Hid (hasI (dvL L) 0 = false) := Lib.hid (by
      cases hh : hasI (dvL L) 0
      · rfl
      · have := (has_dv L 0).1 hh
        omega)
    clear hq
    go_enter Try.func11, Try.ntmps11
    go_wp2_with fail
    refine (areListed_any n L _).mono ?_
    rintro e w' ⟨rfl, rfl⟩
    rw [h1]
    clear h1
    go_wp2_with fail
    refine (divisors_any L _ l1 l2).mono ?_
    rintro e w1 ⟨v, rfl, r1, b1⟩
    rcases r1.form with ⟨hx, _⟩ | ⟨hx, g, cap, rfl, hbg, hgl, hlc, hcm⟩
    · rw [hx] at hll; simp at hll
    · have hcel : Cel w1 g (dvL L) := fun j hj => r1.at_ j hj
      have HC := Lib.hid hcel
      have hl9 : (dvL L).length ≤ 1000 := by omega
      clear hcel r1 hll hl8
      generalize hN : (dvL L).length = N at *
      have HN := Lib.hid hN
      clear hN
      go_wp2_with fail
      rw [← HN.out]
      refine (primesOf_any n g cap L (dvL L) _ n1 n2 HC.out hgl (by rw [HN.out]; exact hmx.out) h0.out (by rw [HN.out]; exact hx) (by rw [HN.out]; exact hl9) l2 (by have := hlen.out; omega)).mono ?_
      rintro e w2 ⟨v2, rfl, r2, b2⟩
      have R2 := Lib.hid r2
      clear r2
      go_wp2_with fail
      refine (join_any _ v2 _ _ R2.out hlen.out hsz.out).mono ?_
      rintro e w3 ⟨rfl, b3⟩
      go_wp2_with fail
      go_ret2
      exact ⟨rfl, bel_trans (bel_trans b1 b2) b3⟩
end Go.Proofs.Ytiblggfihpobkab
