/- Classes of the model; LastingStates: the contracts of the program and of its model. -/
import Derived.Test.YtbcngdamligpbaaRchd
namespace Go.Proofs.Ytbcngdamligpbaa
set_option linter.unusedSimpArgs false
open Go.ChangeShapes Go.WideShapes Go.ChangeAt Go.RowKit
set_option linter.unusedVariables false

/-- k is in the class of i. -/
def clsB (m : List (List Int)) (i k : Nat) : Bool := rchB m i k && rchB m k i
theorem clsB_yes {m : List (List Int)} {i k : Nat} (h1 : rchB m i k = true) (h2 : rchB m k i = true) : clsB m i k = true := by simp [clsB, h1, h2]
theorem clsB_no1 {m : List (List Int)} {i k : Nat} (h1 : rchB m i k = false) : clsB m i k = false := by simp [clsB, h1]
theorem clsB_no2 {m : List (List Int)} {i k : Nat} (h2 : rchB m k i = false) : clsB m i k = false := by simp [clsB, h2]
/-- No state outside of the class of i is reached from i. -/
def lstK (m : List (List Int)) (i : Nat) : Nat → Bool
  | 0 => true
  | k + 1 => lstK m i k && (!rchB m i k || rchB m k i)
def lstB (m : List (List Int)) (i : Nat) : Bool := lstK m i m.length
theorem sel_le (p q : Nat → Bool) (h : ∀ k, q k = true → p k = true) : ∀ n, (selK q n).length ≤ (selK p n).length
  | 0 => by simp [selK]
  | n + 1 => by
    have := sel_le p q h n
    unfold selK
    cases hq : q n
    · simp
      split
      · simp; omega
      · exact this
    · rw [h n hq]
      simp
      exact this
theorem lst_len (m : List (List Int)) (i : Nat) : ∀ n, decide ((selK (rchB m i) n).length = (selK (clsB m i) n).length) = lstK m i n
  | 0 => by simp [selK, lstK]
  | n + 1 => by
    have ih := lst_len m i n
    have hle := sel_le (rchB m i) (clsB m i) (fun k h => by unfold clsB at h; simp at h; exact h.1) n
    unfold lstK
    rw [← ih]
    cases h1 : rchB m i n
    · rw [selK_no h1, selK_no (clsB_no1 h1)]
      simp
    · cases h2 : rchB m n i
      · rw [selK_yes h1, selK_no (clsB_no2 h2)]
        simp
        omega
      · rw [selK_yes h1, selK_yes (clsB_yes h1 h2)]
        simp
theorem lst_int (m : List (List Int)) (i : Nat) : ((((selK (rchB m i) m.length).length : Nat) : Int) == (((selK (clsB m i) m.length).length : Nat) : Int)) = lstB m i := by
  have := lst_len m i m.length
  unfold lstB
  rw [← this, Bool.eq_iff_iff]
  simp only [beq_iff_eq, decide_eq_true_eq]
  omega

set_option maxRecDepth 100000 in
set_option maxHeartbeats 3200000 in
theorem saClass_any (lim : Int) (m : List (List Int)) (v : Value) (B : Nat) (i : Nat) (w : World) (h : RdM w B v m) (hB : B ≤ w.heap.size) (hg : Good lim m) (hi : i < m.length) :
    Calls Try.prog 44 #[sts lim v, .int .i64 i] w (RowOne (selK (clsB m i) m.length) w) := by
  obtain ⟨A, cap, rfl, l0, m0⟩ := h.form
  have hbl := bel_alloc (Below.refl _ w) (.cells #[.int .i64 lim, .slice A m.length cap] 27)
  have H := Lib.hid (h.below hbl hB)
  have hBs := Nat.le_trans hB hbl.size
  have bx := Lib.hid (Box2.new w (.int .i64 lim) (.slice A m.length cap) 27)
  have n5 := hg.five
  have HG := Lib.hid hg
  clear h hg
  go_enter Try.func44, Try.ntmps44
  go_wp2_with fail
  refine (saFar_any lim m _ _ i _ H.out hBs HG.out hi).mono ?_
  rintro e w2 ⟨u, far, rfl, hr, hfar, b2⟩
  have hrd := hr.rd
  obtain ⟨A2, cap2, rfl, l2, m2⟩ := hrd.form
  have HR := Lib.hid hrd
  have HF := Lib.hid hfar.2
  have hfl := hfar.1
  have HFL := Lib.hid hfl
  rw [hfl] at l2 ⊢
  have H2 := Lib.hid (H.out.below b2 hBs)
  have hB2 := Nat.le_trans hBs b2.size
  have bx2 := Lib.hid (bx.out.keep b2)
  clear hr hrd hfar hfl
  have b3 := bel_trans hbl b2
  go_wp2_with fail
  obtain ⟨Bz, hBz⟩ : ∃ n, n = w2.heap.size := ⟨_, rfl⟩
  rw [← hBz] at HR hB2
  have hbz : w.heap.size ≤ Bz := by rw [hBz]; exact b3.size
  have HBz := Lib.hid hBz
  clear hBz
  go_loopw [5, 12] (fun u x wr => ∃ k : Nat, k ≤ m.length ∧ x = .int .i64 k ∧ Hid (IRow wr Bz u (selK (clsB m i) k)) ∧ Below Bz w2 wr) (fun _ x _ => m.length - (intOf x).toNat)
  case atStart => exact ⟨0, by omega, rfl, IRow.nil _ _, Below.refl _ _⟩
  case round =>
    obtain ⟨k, hk, rfl, hI, hb⟩ := hrel
    obtain ⟨wa, rfl⟩ : ∃ wa : World, wa = wr := ⟨_, rfl⟩
    have hsa : Bz ≤ wa.heap.size := by have := hb.size; rw [← HBz.out] at this; exact this
    by_cases hlt : k < m.length
    · obtain ⟨ad, rfl, _, e0⟩ := (HR.out.below hb (Nat.le_refl _)).at_ (k := k) (by rw [HFL.out]; exact hlt)
      have hl := selK_len (clsB m i) k
      obtain ⟨_, hd⟩ := HF.out k hlt
      cases hq : rchB m i k with
      | true =>
        rw [show thr (edgeB m) m.length i k = true from hq] at hd
        generalize far.getD k 0 = y at *
        have hd2 : decide (0 ≤ y) = true := hd
        have Hq := Lib.hid hq
        clear hq hd
        obtain ⟨c0, c1, c2⟩ := bx2.out.keep (HBz.out ▸ hb)
        go_wp2_with fail
        refine (saFar_any lim m _ _ k _ (H2.out.below hb (by omega)) (by omega) HG.out hlt).mono ?_
        rintro e w4 ⟨u4, far4, rfl, hr4, hfar4, b4⟩
        obtain ⟨A4, cap4, rfl, l4, m4⟩ := hr4.rd.form
        obtain ⟨ad4, rfl, _, e4⟩ := hr4.rd.at_ (k := i) (by rw [hfar4.1]; exact hi)
        obtain ⟨_, hd4⟩ := hfar4.2 i hi
        have hfl4 := hfar4.1
        rw [hfl4] at l4 ⊢
        have hi2 : (i : Int) < (m.length : Int) := by omega
        have hI4 := Lib.hid (hI.out.below b4)
        have hb4 := hb.trans (b4.mono hsa)
        have hsa4 := Nat.le_trans hsa b4.size
        clear hr4 hfar4 hfl4
        cases hq2 : rchB m k i with
        | true =>
          have hS := Lib.hid (selK_yes (clsB_yes Hq.out hq2))
          rw [show thr (edgeB m) m.length k i = true from hq2] at hd4
          generalize far4.getD i 0 = z at *
          have hd3 : 0 ≤ z := by simpa using hd4
          clear hq2 hd4
          go_wp2_with (at_builtin; refine wpList_push1 rfl (.tmp 28) (.tmp 30) rfl _ _ _ hI4.out (by omega) hsa4 (k : Int) rfl rfl ?_)
          intro v' w3 hI3 hb3
          go_wp2_with fail
          exact ⟨⟨k + 1, by omega, by go_num, by rw [hS.out]; exact hI3, hb4.trans hb3⟩, by simp [intOf]; omega⟩
        | false =>
          have hS := Lib.hid (selK_no (clsB_no2 (i := i) hq2))
          rw [show thr (edgeB m) m.length k i = false from hq2] at hd4
          generalize far4.getD i 0 = z at *
          have hd3 : ¬ 0 ≤ z := by simpa using hd4
          clear hq2
          go_wp2_with fail
          exact ⟨⟨k + 1, by omega, by go_num, by rw [hS.out]; exact hI4, hb4⟩, by simp [intOf]; omega⟩
      | false =>
        have hS := Lib.hid (selK_no (clsB_no1 hq))
        rw [show thr (edgeB m) m.length i k = false from hq] at hd
        generalize far.getD k 0 = y at *
        clear hq
        have hd2 : decide (0 ≤ y) = false := hd
        go_wp2_with fail
        exact ⟨⟨k + 1, by omega, by go_num, by rw [hS.out]; exact hI, hb⟩, by simp [intOf]; omega⟩
    · obtain rfl : k = m.length := by omega
      go_wp2_with fail
      go_ret
      exact ⟨_, rfl, hI.out.mono hbz, bel_trans b3 (HBz.out ▸ hb)⟩

def ansLast (lim : Int) (m : List (List Int)) : List Int := if saG lim m then selK (lstB m) m.length else []
theorem ansLast_len (lim : Int) (m : List (List Int)) : (ansLast lim m).length ≤ 1000 := by
  unfold ansLast
  split
  · rename_i h
    have := selK_len (lstB m) m.length
    have := (good_of h).five
    omega
  · simp

theorem lstK_no {m : List (List Int)} {i j : Nat} (h : lstK m i j = false) : lstK m i (j + 1) = false := by simp [lstK, h]
theorem lstK_one {m : List (List Int)} {i j : Nat} (h : lstK m i j = true) (h1 : rchB m i j = false) : lstK m i (j + 1) = true := by simp [lstK, h, h1]
theorem lstK_two {m : List (List Int)} {i j : Nat} (h : lstK m i j = true) (h1 : rchB m i j = true) : lstK m i (j + 1) = rchB m j i := by simp [lstK, h, h1]

end Go.Proofs.Ytbcngdamligpbaa
