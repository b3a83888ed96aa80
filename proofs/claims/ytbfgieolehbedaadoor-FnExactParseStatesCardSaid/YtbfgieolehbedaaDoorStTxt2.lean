/- StatesText: the contracts, whole; the law's walk. -/
import Derived.Test.YtbfgieolehbedaaDoorStTxt
namespace Go.Proofs.YtbfgieolehbedaaDoor
set_option linter.unusedSimpArgs false
open Go.ChangeShapes Go.WideShapes Go.ChangeAt Go.RowKit
set_option linter.unusedVariables false

theorem itoa_any (i : Nat) (hi : i < 100) (w : World) :
    Calls Tryd.prog 39 #[.int .i64 i] w fun e w' => e = .returned (.string (numS i)) ∧ w = w' :=
  (Tryd.strconv_Itoa_small i hi w).mono fun _ _ ⟨a, b⟩ => ⟨a, b.symm⟩
def ansText (lim : Int) (m : List (List Int)) : Value := if saG lim m then .tuple #[.string (txtK lim m m.length), .bool true] else .tuple #[.string ⟨#[]⟩, .bool false]
theorem ansText_form (lim : Int) (m : List (List Int)) : ∃ (x : ByteArray) (o : Bool), ansText lim m = .tuple #[.string x, .bool o] := by
  unfold ansText
  split
  · exact ⟨_, _, rfl⟩
  · exact ⟨_, _, rfl⟩

set_option maxRecDepth 100000 in
set_option maxHeartbeats 3200000 in
theorem implText_any (lim : Int) (m : List (List Int)) (v : Value) (B : Nat) (w : World) (h : RdM w B v m) (hB : B ≤ w.heap.size) :
    Calls Tryd.prog 19 #[sts lim v] w fun e w' => e = .returned (ansText lim m) ∧ Below w.heap.size w w' := by
  obtain ⟨A, cap, rfl, l0, m0⟩ := h.form
  unfold maxLen at m0
  have hbl := bel_alloc (Below.refl _ w) (.cells #[.int .i64 lim, .slice A m.length cap] 24)
  have H := Lib.hid (h.below hbl hB)
  have hBs := Nat.le_trans hB hbl.size
  have bx := Lib.hid (Box2.new w (.int .i64 lim) (.slice A m.length cap) 24)
  clear h
  cases h1 : saG lim m with
  | false =>
    rw [show ansText lim m = .tuple #[.string ⟨#[]⟩, .bool false] from by simp [ansText, h1]]
    have H1 := Lib.hid h1
    clear h1
    go_enter Tryd.func19, Tryd.ntmps19
    go_wp2_with fail
    refine (implAreStates_any lim m _ _ _ H.out hBs).mono ?_
    rw [H1.out]
    rintro e w1 ⟨rfl, b1⟩
    go_wp2_with fail
    go_ret2
    exact ⟨rfl, bel_trans hbl b1⟩
  | true =>
    rw [show ansText lim m = .tuple #[.string (txtK lim m m.length), .bool true] from by simp [ansText, h1]]
    have H1 := Lib.hid h1
    have hg := good_of h1
    have n5 := hg.five
    obtain ⟨L, rfl⟩ := Int.eq_ofNat_of_zero_le (show 0 ≤ lim from by have := hg.lo; omega)
    have hL : L ≤ 10 := by have := hg.hi; omega
    have HG := Lib.hid hg
    have hT0 : Hid (txtK L m 0 = numS L) := rfl
    clear h1 hg
    go_enter Tryd.func19, Tryd.ntmps19
    go_wp2_with fail
    refine (implAreStates_any L m _ _ _ H.out hBs).mono ?_
    rw [H1.out]
    rintro e w1 ⟨rfl, b1⟩
    obtain ⟨c0, c1, c2⟩ := bx.out.keep b1
    go_wp2_with fail
    refine (itoa_any L (by omega) _).mono ?_
    rw [← hT0.out]
    rintro e w2 ⟨rfl, rfl⟩
    go_wp2_with fail
    go_loop [4, 19] (fun y x => ∃ k : Nat, k ≤ m.length ∧ x = .int .i64 k ∧ y = .string (txtK L m k)) (fun _ x => m.length - (intOf x).toNat)
    case atStart => exact ⟨0, by omega, rfl, rfl⟩
    case round =>
      obtain ⟨k, hk, rfl, rfl⟩ := hrel
      by_cases hlt : k < m.length
      · obtain ⟨ad, A', cap', rfl, _, e0, r0, hl0, hm0⟩ := (H.out.below b1 hBs).at_ hlt
        have R0 := Lib.hid r0
        have hS : Hid (txtK L m (k + 1) = txtJ (txtK L m k) (m.getD k []) (m.getD k []).length) := rfl
        have hsz := txtK_size HG.out k
        have hten := Lib.hid (good_ten HG.out k)
        have hnn := Lib.hid (fun j => (show 0 ≤ (m.getD k []).getD j 0 from (HG.out.num k j).1))
        have hx5 := row_five HG.out k
        unfold maxLen at hm0
        clear r0
        generalize m.getD k [] = xs at *
        generalize txtK L m k = T at *
        have hJ0 : Hid (T = txtJ T xs 0) := rfl
        go_wp2_with fail
        go_loop [4, 25] (fun y x => ∃ j : Nat, j ≤ xs.length ∧ x = .int .i64 j ∧ y = .string (txtJ T xs j)) (fun _ x => xs.length - (intOf x).toNat)
        case atStart => exact ⟨0, by omega, rfl, rfl⟩
        case round =>
          obtain ⟨j, hj, rfl, rfl⟩ := hrel
          by_cases hjl : j < xs.length
          · obtain ⟨ad2, rfl, _, e2⟩ := R0.out.at_ hjl
            have hJs := txtJ_size T xs hten.out j
            have hJn : Hid (txtJ T xs (j + 1) = txtJ T xs j ++ (sepS j ++ numS (xs.getD j 0).toNat)) := rfl
            obtain ⟨x, hx⟩ := Int.eq_ofNat_of_zero_le (hnn.out j)
            have hx10 := hten.out j
            rw [hx] at hJn e2 hx10
            rw [show ((x : Int)).toNat = x from rfl] at hJn hx10
            clear hx
            have hxs := numS_size x hx10
            generalize txtJ T xs j = U at *
            have hUs : U.size ≤ 200 := by omega
            by_cases hj0 : j = 0
            · have hs : Hid (U ++ (⟨#[59]⟩ ++ numS x) = txtJ T xs (j + 1)) := by
                refine Lib.hid ?_
                rw [hJn.out, hj0]
                simp [sepS]
              have hd : ((j : Int) == 0) = true := by simp; omega
              have t1 : ¬ 9223372036854775807 < 1 + (numS x).size := by omega
              have t2 : ¬ 9223372036854775807 < U.size + (1 + (numS x).size) := by omega
              have Hj0 := Lib.hid hj0
              clear hj0
              go_wp2_with fail
              refine (itoa_any x (by omega) _).mono ?_
              rintro e w2 ⟨rfl, rfl⟩
              generalize numS x = S at *
              go_wp2_with fail
              exact ⟨⟨j + 1, by omega, by go_num, by rw [← hs.out]⟩, by simp [intOf]; omega⟩
            · have hs : Hid (U ++ (⟨#[44]⟩ ++ numS x) = txtJ T xs (j + 1)) := by
                refine Lib.hid ?_
                rw [hJn.out]
                simp [sepS, hj0]
              have hd : ((j : Int) == 0) = false := by simp; omega
              have t1 : ¬ 9223372036854775807 < 1 + (numS x).size := by omega
              have t2 : ¬ 9223372036854775807 < U.size + (1 + (numS x).size) := by omega
              have Hj0 := Lib.hid hj0
              clear hj0
              go_wp2_with fail
              refine (itoa_any x (by omega) _).mono ?_
              rintro e w2 ⟨rfl, rfl⟩
              generalize numS x = S at *
              go_wp2_with fail
              exact ⟨⟨j + 1, by omega, by go_num, by rw [← hs.out]⟩, by simp [intOf]; omega⟩
          · obtain rfl : j = xs.length := by omega
            go_wp2_with fail
            exact ⟨⟨k + 1, by omega, by go_num, by rw [hS.out]⟩, by simp [intOf]; omega⟩
      · obtain rfl : k = m.length := by omega
        go_wp2_with fail
        go_ret2
        exact ⟨rfl, bel_trans hbl b1⟩
end Go.Proofs.YtbfgieolehbedaaDoor
