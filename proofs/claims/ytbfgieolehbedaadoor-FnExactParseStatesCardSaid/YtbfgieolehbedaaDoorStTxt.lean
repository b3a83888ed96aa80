/- StatesText: the contracts of the program and of its model. -/
import Derived.Test.YtbfgieolehbedaaDoorTxt
import Derived.Test.YtbfgieolehbedaaDoorSt1
namespace Go.Proofs.YtbfgieolehbedaaDoor
set_option linter.unusedSimpArgs false
open Go.ChangeShapes Go.WideShapes Go.ChangeAt Go.RowKit
set_option linter.unusedVariables false

def sepS (j : Nat) : ByteArray := if j = 0 then ⟨#[59]⟩ else ⟨#[44]⟩
/-- The text behind the first j numbers of a row, acc being the text ahead of it. -/
def txtJ (acc : ByteArray) (xs : List Int) : Nat → ByteArray
  | 0 => acc
  | j + 1 => txtJ acc xs j ++ (sepS j ++ numS (xs.getD j 0).toNat)
/-- The text behind the first k rows. -/
def txtK (lim : Int) (m : List (List Int)) : Nat → ByteArray
  | 0 => numS lim.toNat
  | k + 1 => txtJ (txtK lim m k) (m.getD k []) (m.getD k []).length
theorem numS_size (n : Nat) (h : n ≤ 10) : (numS n).size ≤ 2 := by
  have := dd_len 1 n (by omega)
  show (Lib.decDigits n).toArray.size ≤ 2
  simpa using this
theorem sep_size (j : Nat) : (sepS j).size = 1 := by unfold sepS; split <;> rfl
theorem txtJ_size (acc : ByteArray) (xs : List Int) (h : ∀ j, (xs.getD j 0).toNat ≤ 10) : ∀ j, (txtJ acc xs j).size ≤ acc.size + 3 * j
  | 0 => by simp [txtJ]
  | j + 1 => by
    have h1 := txtJ_size acc xs h j
    have h2 := numS_size _ (h j)
    have h3 := sep_size j
    unfold txtJ
    rw [ByteArray.size_append, ByteArray.size_append]
    omega
theorem good_ten {lim : Int} {m : List (List Int)} (hg : Good lim m) (k j : Nat) : ((m.getD k []).getD j 0).toNat ≤ 10 := by
  obtain ⟨a, b⟩ := hg.num k j
  have := hg.hi
  unfold atM at a b
  omega
theorem row_five {lim : Int} {m : List (List Int)} (hg : Good lim m) (k : Nat) : (m.getD k []).length ≤ 5 := by
  have := hg.five
  rcases Nat.lt_or_ge k m.length with h | h
  · rw [hg.row k h]; omega
  · rw [getD_out m k _ h]; simp
theorem txtK_size {lim : Int} {m : List (List Int)} (hg : Good lim m) : ∀ k, (txtK lim m k).size ≤ 2 + 15 * k
  | 0 => by unfold txtK; exact numS_size _ (by have := hg.hi; omega)
  | k + 1 => by
    have h1 := txtK_size hg k
    have h2 := txtJ_size (txtK lim m k) (m.getD k []) (good_ten hg k) (m.getD k []).length
    have h3 := row_five hg k
    unfold txtK
    omega

set_option maxRecDepth 100000 in
set_option maxHeartbeats 3200000 in
theorem saText_any (lim : Int) (m : List (List Int)) (v : Value) (B : Nat) (w : World) (h : RdM w B v m) (hB : B ≤ w.heap.size) (hg : Good lim m) :
    Calls Tryd.prog 34 #[sts lim v] w fun e w' => e = .returned (.string (txtK lim m m.length)) ∧ Below w.heap.size w w' := by
  obtain ⟨A, cap, rfl, l0, m0⟩ := h.form
  unfold maxLen at m0
  have hbl := bel_alloc (Below.refl _ w) (.cells #[.int .i64 lim, .slice A m.length cap] 24)
  have H := Lib.hid (h.below hbl hB)
  have hBs := Nat.le_trans hB hbl.size
  have bx := Lib.hid (Box2.new w (.int .i64 lim) (.slice A m.length cap) 24)
  have n5 := hg.five
  obtain ⟨L, rfl⟩ := Int.eq_ofNat_of_zero_le (show 0 ≤ lim from by have := hg.lo; omega)
  have hL : L ≤ 10 := by have := hg.hi; omega
  have HG := Lib.hid hg
  have hT0 : Hid (txtK L m 0 = numS L) := rfl
  clear h hg
  go_enter Tryd.func34, Tryd.ntmps34
  go_wp2_with fail
  refine (l1Num_any L _ (by omega)).mono ?_
  rw [← hT0.out]
  rintro e w1 ⟨rfl, b1⟩
  obtain ⟨c0, c1, c2⟩ := bx.out.keep b1
  go_wp2_with fail
  obtain ⟨Bz, hBz⟩ : ∃ n, n = (w.alloc (.cells #[.int .i64 L, .slice A m.length cap] 24)).heap.size := ⟨_, rfl⟩
  rw [← hBz] at b1 hBs
  have HBz := Lib.hid hBz
  clear hBz
  go_loopw [3, 14] (fun y x wr => ∃ k : Nat, k ≤ m.length ∧ x = .int .i64 k ∧ y = .string (txtK L m k) ∧ Below Bz (w.alloc (.cells #[.int .i64 L, .slice A m.length cap] 24)) wr) (fun _ x _ => m.length - (intOf x).toNat)
  case atStart => exact ⟨0, by omega, rfl, rfl, b1⟩
  case round =>
    obtain ⟨k, hk, rfl, rfl, hb⟩ := hrel
    obtain ⟨wa, rfl⟩ : ∃ wa : World, wa = wr := ⟨_, rfl⟩
    have hsa : Bz ≤ wa.heap.size := by have := hb.size; rw [← HBz.out] at this; exact this
    by_cases hlt : k < m.length
    · obtain ⟨ad, A', cap', rfl, _, e0, r0, hl0, hm0⟩ := (H.out.below hb hBs).at_ hlt
      have R0 := Lib.hid (RdI.keep (w' := w.alloc (.cells #[.int .i64 L, .slice (some ad) m.length cap] 24)) r0 fun p hp => (hb.cell (Nat.lt_of_lt_of_le hp hBs)).symm)
      have hS : Hid (txtK L m (k + 1) = txtJ (txtK L m k) (m.getD k []) (m.getD k []).length) := rfl
      have hsz := txtK_size HG.out k
      have hten := Lib.hid (good_ten HG.out k)
      have hnn := Lib.hid (fun j => (show 0 ≤ (m.getD k []).getD j 0 from (HG.out.num k j).1))
      have hx5 := row_five HG.out k
      unfold maxLen at hm0
      clear r0
      generalize m.getD k [] = xs at *
      generalize txtK L m k = T at *
      have hJ0 : Hid (T = txtJ T xs 0) := rfl
      go_wp2_with fail
      go_loopw [3, 20] (fun y x wr => ∃ j : Nat, j ≤ xs.length ∧ x = .int .i64 j ∧ y = .string (txtJ T xs j) ∧ Below Bz (w.alloc (.cells #[.int .i64 L, .slice (some ad) m.length cap] 24)) wr) (fun _ x _ => xs.length - (intOf x).toNat)
      case atStart => exact ⟨0, by omega, rfl, rfl, hb⟩
      case round =>
        obtain ⟨j, hj, rfl, rfl, hbc⟩ := hrel
        obtain ⟨wc, rfl⟩ : ∃ wc : World, wc = wr := ⟨_, rfl⟩
        have hsc : Bz ≤ wc.heap.size := by have := hbc.size; rw [← HBz.out] at this; exact this
        by_cases hjl : j < xs.length
        · obtain ⟨ad2, rfl, _, e2⟩ := (R0.out.below hbc hBs).at_ hjl
          have hJs := txtJ_size T xs hten.out j
          have hJn : Hid (txtJ T xs (j + 1) = txtJ T xs j ++ (sepS j ++ numS (xs.getD j 0).toNat)) := rfl
          obtain ⟨x, hx⟩ := Int.eq_ofNat_of_zero_le (hnn.out j)
          have hx10 := hten.out j
          rw [hx] at hJn e2 hx10
          rw [show ((x : Int)).toNat = x from rfl] at hJn hx10
          clear hx
          have hxs := numS_size x hx10
          generalize txtJ T xs j = U at *
          have hUs : U.size ≤ 200 := by omega
          by_cases hj0 : j = 0
          · have hs : Hid (U ++ ⟨#[59]⟩ ++ numS x = txtJ T xs (j + 1)) := by
              refine Lib.hid ?_
              rw [hJn.out, hj0]
              simp [sepS, ByteArray.append_assoc]
            have hd : ((j : Int) == 0) = true := by simp; omega
            have t1 : ¬ 9223372036854775807 < U.size + 1 := by omega
            have t2 : ¬ 9223372036854775807 < U.size + 1 + (numS x).size := by omega
            have Hj0 := Lib.hid hj0
            clear hj0
            go_wp2_with fail
            refine (l1Num_any x _ (by omega)).mono ?_
            rintro e w2 ⟨rfl, b2⟩
            generalize numS x = S at *
            go_wp2_with fail
            exact ⟨⟨j + 1, by omega, by go_num, by rw [← hs.out], hbc.trans (b2.mono hsc)⟩, by simp [intOf]; omega⟩
          · have hs : Hid (U ++ ⟨#[44]⟩ ++ numS x = txtJ T xs (j + 1)) := by
              refine Lib.hid ?_
              rw [hJn.out]
              simp [sepS, hj0, ByteArray.append_assoc]
            have hd : ((j : Int) == 0) = false := by simp; omega
            have t1 : ¬ 9223372036854775807 < U.size + 1 := by omega
            have t2 : ¬ 9223372036854775807 < U.size + 1 + (numS x).size := by omega
            have Hj0 := Lib.hid hj0
            clear hj0
            go_wp2_with fail
            refine (l1Num_any x _ (by omega)).mono ?_
            rintro e w2 ⟨rfl, b2⟩
            generalize numS x = S at *
            go_wp2_with fail
            exact ⟨⟨j + 1, by omega, by go_num, by rw [← hs.out], hbc.trans (b2.mono hsc)⟩, by simp [intOf]; omega⟩
        · obtain rfl : j = xs.length := by omega
          go_wp2_with fail
          exact ⟨⟨k + 1, by omega, by go_num, by rw [hS.out], hbc⟩, by simp [intOf]; omega⟩
    · obtain rfl : k = m.length := by omega
      go_wp2_with fail
      go_ret
      exact ⟨rfl, bel_trans hbl (HBz.out ▸ hb)⟩
end Go.Proofs.YtbfgieolehbedaaDoor
