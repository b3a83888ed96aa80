/- CountWonAt, CountOpen: the contracts of the program and of its model, and the walks. -/
import Derived.Test.YtjckmnbpfmcadacDoorMwC
namespace Go.Proofs.YtjckmnbpfmcadacDoor
set_option linter.unusedSimpArgs false
open Go.ChangeShapes Go.WideShapes Go.ChangeAt Go.RowKit
set_option linter.unusedVariables false

def ansTW (a b : ByteArray) (n : Int) : Value := if twoG a b && inB n 0 30 then pairV (wonR [a, b] n.toNat 0) else noV
def ansTO (a b : ByteArray) (n : Int) : Value := if twoG a b && inB n 0 30 then pairV (opnR [a, b] n.toNat) else noV
theorem two_MW (a b : ByteArray) (n : Int) : ansMW [a, b] 0 n = ansTW a b n := by
  unfold ansMW ansTW
  rw [two_many, show inB 0 0 ((([a, b] : List ByteArray).length : Int) - 1) = true from (inB_iff _ _ _).2 ⟨by omega, by simp⟩, Bool.true_and]
  rfl
theorem two_MO (a b : ByteArray) (n : Int) : ansMO [a, b] n = ansTO a b n := by
  unfold ansMO ansTO
  rw [two_many]

set_option maxRecDepth 100000 in
set_option maxHeartbeats 1600000 in
theorem implTW_any (a b : ByteArray) (n : Int) (w : World) (ha : a.size ≤ maxLen) (hb : b.size ≤ maxLen) :
    Calls Tryd.prog 20 #[.string a, .string b, .int .i64 n] w fun e w' => e = .returned (ansTW a b n) ∧ Below w.heap.size w w' := by
  have hR := Lib.hid (SRow.lit2 w a b)
  have hm := Lib.hid (two_mem ha hb)
  have HF := Lib.hid (implMW_any [a, b] _ _ 0 n _ hR.out hm.out)
  have hbl := bel_alloc (Below.refl _ w) (.cells #[.string a, .string b] 9)
  rw [two_MW] at HF
  obtain ⟨y, ok, hv⟩ : ∃ (y : Int) (ok : Bool), ansTW a b n = .tuple #[.int .i64 y, .bool ok] := pair_form _ _
  rw [hv] at HF ⊢
  clear hv
  go_enter Tryd.func20, Tryd.ntmps20
  go_wp2_with fail
  refine HF.out.mono ?_
  rintro e w1 ⟨rfl, b1⟩
  go_wp2_with fail
  go_ret2
  exact ⟨rfl, bel_trans hbl b1⟩

set_option maxRecDepth 100000 in
set_option maxHeartbeats 1600000 in
theorem specTW_any (a b : ByteArray) (n : Int) (w : World) (ha : a.size ≤ maxLen) (hb : b.size ≤ maxLen) :
    Calls Tryd.prog 19 #[.string a, .string b, .int .i64 n] w fun e w' => e = .returned (ansTW a b n) ∧ Below w.heap.size w w' := by
  cases h1 : twoG a b
  · rw [show ansTW a b n = noV from by unfold ansTW; rw [h1]; rfl]
    unfold noV
    go_enter Tryd.func19, Tryd.ntmps19
    go_wp2_with fail
    refine (raTwo_any a b _ ha hb).mono ?_
    rintro e w1 ⟨rfl, rfl⟩
    rw [h1]
    go_wp2_with fail
    go_ret2
    exact ⟨rfl, Below.refl _ _⟩
  · cases h2 : inB n 0 30
    · rw [show ansTW a b n = noV from by unfold ansTW; rw [h1, h2]; rfl]
      unfold noV
      go_enter Tryd.func19, Tryd.ntmps19
      go_wp2_with fail
      refine (raTwo_any a b _ ha hb).mono ?_
      rintro e w1 ⟨rfl, rfl⟩
      rw [h1]
      go_wp2_with fail
      refine (raTosses_any _ _).mono ?_
      rintro e w2 ⟨rfl, rfl⟩
      rw [h2]
      go_wp2_with fail
      go_ret2
      exact ⟨rfl, Below.refl _ _⟩
    · obtain ⟨n0, n4⟩ := (inB_iff _ _ _).1 h2
      obtain ⟨t, rfl⟩ := Int.eq_ofNat_of_zero_le (show 0 ≤ n by omega)
      rw [show ansTW a b (t : Int) = pairV (wonR [a, b] t 0) from by unfold ansTW; rw [h1, h2]; rfl]
      unfold pairV
      have HF := Lib.hid (raCountM_any [a, b] _ t _ 1 _ (SRow.lit2 w a b) (by rw [two_many]; exact h1) rfl (by omega))
      have hbl := bel_alloc (Below.refl _ w) (.cells #[.string a, .string b] 9)
      go_enter Tryd.func19, Tryd.ntmps19
      go_wp2_with fail
      refine (raTwo_any a b _ ha hb).mono ?_
      rintro e w1 ⟨rfl, rfl⟩
      rw [h1]
      go_wp2_with fail
      refine (raTosses_any _ _).mono ?_
      rintro e w2 ⟨rfl, rfl⟩
      rw [h2]
      go_wp2_with fail
      refine HF.out.mono ?_
      rintro e w3 ⟨v, rfl, r3, b3⟩
      have hln := rowO_len 1 (wonR [a, b] t) (opnR [a, b] t)
      have hat : (rowF 1 (wonR [a, b] t) ++ [opnR [a, b] t]).getD 0 0 = wonR [a, b] t 0 := rowO_at 1 _ _ 0 (by omega)
      generalize rowF 1 (wonR [a, b] t) ++ [opnR [a, b] t] = R at *
      rcases r3.form with ⟨hx, _⟩ | ⟨hx, g, cap2, rfl, hbg, hgl, hlc, hcm⟩
      · rw [hx] at hln; simp at hln
      · have c0 := r3.at_ 0 (by rw [hln]; omega)
        rw [hat] at c0
        rw [hln]
        clear r3 hx hlc hln hat
        go_wp2_with fail
        go_ret2
        exact ⟨rfl, bel_trans hbl b3⟩

set_option maxHeartbeats 1600000 in
theorem walkExactCountWonAt (a b : ByteArray) (n : Int) (w : World) (ha : a.size ≤ maxLen) (hb : b.size ≤ maxLen) (hn : (Lit.int .i64 n).wf = true) :
    Calls Tryd.prog 6 #[.string a, .string b, .int .i64 n] w fun e w' => e = .returned (.bool true) ∧ Below w.heap.size w w' := by
  clear hn
  by_cases za : a.size ≤ 1048576
  case neg =>
    go_enter Tryd.func6, Tryd.ntmps6
    go_wp2
    go_ret
    exact ⟨rfl, Below.refl _ _⟩
  by_cases zb : b.size ≤ 1048576
  case neg =>
    go_enter Tryd.func6, Tryd.ntmps6
    go_wp2
    go_ret
    exact ⟨rfl, Below.refl _ _⟩
  obtain ⟨y, ok, hv⟩ : ∃ (y : Int) (ok : Bool), ansTW a b n = .tuple #[.int .i64 y, .bool ok] := pair_form _ _
  have Hv := Lib.hid hv
  clear hv
  go_enter Tryd.func6, Tryd.ntmps6
  go_wp2_with fail
  refine (specTW_any a b n _ ha hb).mono ?_
  rintro e w1 ⟨rfl, b1⟩
  rw [Hv.out]
  go_wp2_with fail
  refine (implTW_any a b n _ ha hb).mono ?_
  rintro e w2 ⟨rfl, b2⟩
  rw [Hv.out]
  go_wp2_with fail
  go_ret
  exact ⟨rfl, bel_trans b1 b2⟩

set_option maxRecDepth 100000 in
set_option maxHeartbeats 1600000 in
theorem implTO_any (a b : ByteArray) (n : Int) (w : World) (ha : a.size ≤ maxLen) (hb : b.size ≤ maxLen) :
    Calls Tryd.prog 22 #[.string a, .string b, .int .i64 n] w fun e w' => e = .returned (ansTO a b n) ∧ Below w.heap.size w w' := by
  have hR := Lib.hid (SRow.lit2 w a b)
  have hm := Lib.hid (two_mem ha hb)
  have HF := Lib.hid (implMO_any [a, b] _ _ n _ hR.out hm.out)
  have hbl := bel_alloc (Below.refl _ w) (.cells #[.string a, .string b] 9)
  rw [two_MO] at HF
  obtain ⟨y, ok, hv⟩ : ∃ (y : Int) (ok : Bool), ansTO a b n = .tuple #[.int .i64 y, .bool ok] := pair_form _ _
  rw [hv] at HF ⊢
  clear hv
  go_enter Tryd.func22, Tryd.ntmps22
  go_wp2_with fail
  refine HF.out.mono ?_
  rintro e w1 ⟨rfl, b1⟩
  go_wp2_with fail
  go_ret2
  exact ⟨rfl, bel_trans hbl b1⟩

set_option maxRecDepth 100000 in
set_option maxHeartbeats 1600000 in
theorem specTO_any (a b : ByteArray) (n : Int) (w : World) (ha : a.size ≤ maxLen) (hb : b.size ≤ maxLen) :
    Calls Tryd.prog 21 #[.string a, .string b, .int .i64 n] w fun e w' => e = .returned (ansTO a b n) ∧ Below w.heap.size w w' := by
  cases h1 : twoG a b
  · rw [show ansTO a b n = noV from by unfold ansTO; rw [h1]; rfl]
    unfold noV
    go_enter Tryd.func21, Tryd.ntmps21
    go_wp2_with fail
    refine (raTwo_any a b _ ha hb).mono ?_
    rintro e w1 ⟨rfl, rfl⟩
    rw [h1]
    go_wp2_with fail
    go_ret2
    exact ⟨rfl, Below.refl _ _⟩
  · cases h2 : inB n 0 30
    · rw [show ansTO a b n = noV from by unfold ansTO; rw [h1, h2]; rfl]
      unfold noV
      go_enter Tryd.func21, Tryd.ntmps21
      go_wp2_with fail
      refine (raTwo_any a b _ ha hb).mono ?_
      rintro e w1 ⟨rfl, rfl⟩
      rw [h1]
      go_wp2_with fail
      refine (raTosses_any _ _).mono ?_
      rintro e w2 ⟨rfl, rfl⟩
      rw [h2]
      go_wp2_with fail
      go_ret2
      exact ⟨rfl, Below.refl _ _⟩
    · obtain ⟨n0, n4⟩ := (inB_iff _ _ _).1 h2
      obtain ⟨t, rfl⟩ := Int.eq_ofNat_of_zero_le (show 0 ≤ n by omega)
      rw [show ansTO a b (t : Int) = pairV (opnR [a, b] t) from by unfold ansTO; rw [h1, h2]; rfl]
      unfold pairV
      have HF := Lib.hid (raCountM_any [a, b] _ t _ 1 _ (SRow.lit2 w a b) (by rw [two_many]; exact h1) rfl (by omega))
      have hbl := bel_alloc (Below.refl _ w) (.cells #[.string a, .string b] 9)
      go_enter Tryd.func21, Tryd.ntmps21
      go_wp2_with fail
      refine (raTwo_any a b _ ha hb).mono ?_
      rintro e w1 ⟨rfl, rfl⟩
      rw [h1]
      go_wp2_with fail
      refine (raTosses_any _ _).mono ?_
      rintro e w2 ⟨rfl, rfl⟩
      rw [h2]
      go_wp2_with fail
      refine HF.out.mono ?_
      rintro e w3 ⟨v, rfl, r3, b3⟩
      have hln := rowO_len 1 (wonR [a, b] t) (opnR [a, b] t)
      have hat : (rowF 1 (wonR [a, b] t) ++ [opnR [a, b] t]).getD 2 0 = opnR [a, b] t := rowO_last 1 _ _
      generalize rowF 1 (wonR [a, b] t) ++ [opnR [a, b] t] = R at *
      rcases r3.form with ⟨hx, _⟩ | ⟨hx, g, cap2, rfl, hbg, hgl, hlc, hcm⟩
      · rw [hx] at hln; simp at hln
      · have c0 := r3.at_ 2 (by rw [hln]; omega)
        rw [hat] at c0
        rw [hln]
        clear r3 hx hlc hln hat
        go_wp2_with fail
        go_ret2
        exact ⟨rfl, bel_trans hbl b3⟩

set_option maxHeartbeats 1600000 in
theorem walkExactCountOpen (a b : ByteArray) (n : Int) (w : World) (ha : a.size ≤ maxLen) (hb : b.size ≤ maxLen) (hn : (Lit.int .i64 n).wf = true) :
    Calls Tryd.prog 7 #[.string a, .string b, .int .i64 n] w fun e w' => e = .returned (.bool true) ∧ Below w.heap.size w w' := by
  clear hn
  by_cases za : a.size ≤ 1048576
  case neg =>
    go_enter Tryd.func7, Tryd.ntmps7
    go_wp2
    go_ret
    exact ⟨rfl, Below.refl _ _⟩
  by_cases zb : b.size ≤ 1048576
  case neg =>
    go_enter Tryd.func7, Tryd.ntmps7
    go_wp2
    go_ret
    exact ⟨rfl, Below.refl _ _⟩
  obtain ⟨y, ok, hv⟩ : ∃ (y : Int) (ok : Bool), ansTO a b n = .tuple #[.int .i64 y, .bool ok] := pair_form _ _
  have Hv := Lib.hid hv
  clear hv
  go_enter Tryd.func7, Tryd.ntmps7
  go_wp2_with fail
  refine (specTO_any a b n _ ha hb).mono ?_
  rintro e w1 ⟨rfl, b1⟩
  rw [Hv.out]
  go_wp2_with fail
  refine (implTO_any a b n _ ha hb).mono ?_
  rintro e w2 ⟨rfl, b2⟩
  rw [Hv.out]
  go_wp2_with fail
  go_ret
  exact ⟨rfl, bel_trans b1 b2⟩
end Go.Proofs.YtjckmnbpfmcadacDoor
