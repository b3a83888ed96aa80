/- LikeliestDays: the contracts of the program and of its model, and the walk. -/
import Derived.Test.YtjfcpbedmdnjcacHdX
import Derived.Test.YtjfcpbedmdnjcacHdL
import Derived.Test.YtjfcpbedmdnjcacHdR
namespace Go.Proofs.Ytjfcpbedmdnjcac
set_option linter.unusedSimpArgs false
open Go.ChangeShapes Go.WideShapes Go.ChangeAt Go.RowKit
set_option linter.unusedVariables false

def flF (a b c : Int) (t : ByteArray) (n : Nat) : Nat → Int := fun j => flw a b c (t ++ rkT 100 119 n j) (n + 1)
theorem day_textL {t : ByteArray} (h : dayS t = true) : t = ⟨#[100]⟩ ∨ t = ⟨#[119]⟩ := by
  rcases dayS_cases h with e | e
  · left; apply ByteArray.ext; apply Array.toList_inj.1; rw [e]
  · right; apply ByteArray.ext; apply Array.toList_inj.1; rw [e]
theorem flF_in {a b c : Int} (h : inR a b c) (t : ByteArray) (n : Nat) (hn : n ≤ 8) (j : Nat) : 0 ≤ flF a b c t n j ∧ flF a b c t n j ≤ 1000000000 := flw_le9 h _ _ (by omega)
theorem flF_pos {a b c : Int} (h : inR a b c) (t : ByteArray) (ht : dayS t = true) (n : Nat) : 0 < topV (flF a b c t n) (2 ^ n) := by
  have h1 : t.size = 1 ∧ (sgn t 0 = 100 ∨ sgn t 0 = 119) := by
    rcases day_textL ht with rfl | rfl
    · exact ⟨rfl, .inl rfl⟩
    · exact ⟨rfl, .inr rfl⟩
  obtain ⟨hz, hs⟩ := h1
  obtain ⟨i, hi, h2, _⟩ := ex_flw h t (by rw [hz]; exact Int.zero_lt_one) (.inr (by rw [hz]; exact hs)) n
  have h5 := (topV_ge (flF a b c t n) (2 ^ n)).2 i hi
  rw [hz, Nat.add_comm] at h2
  unfold flF at h5 ⊢
  omega
def lkX (n : Nat) (f : Nat → Int) (j : Nat) : ByteArray := if 0 < topV f j then rkT 100 119 n (topR f j) else ⟨#[]⟩
theorem lkX_yes {n : Nat} {f : Nat → Int} {j : Nat} (h : topV f j < f j) : lkX n f (j + 1) = rkT 100 119 n j ∧ topV f (j + 1) = f j := by
  have := (topV_ge f j).1
  have e : topV f (j + 1) = f j := by unfold topV; rw [if_pos h]
  refine ⟨?_, e⟩
  unfold lkX
  rw [e, if_pos (by omega)]
  unfold topR
  rw [if_pos h]
theorem lkX_no {n : Nat} {f : Nat → Int} {j : Nat} (h : ¬ topV f j < f j) : lkX n f (j + 1) = lkX n f j ∧ topV f (j + 1) = topV f j := by
  have e : topV f (j + 1) = topV f j := by conv => lhs; unfold topV; rw [if_neg h]
  refine ⟨?_, e⟩
  have e2 : topR f (j + 1) = topR f j := by conv => lhs; unfold topR; rw [if_neg h]
  unfold lkX
  rw [e, e2]
def bsM (n : Nat) (f : Nat → Int) (j : Nat) : ByteArray := if j = 0 then ⟨#[]⟩ else rkT 100 119 n (topN f j)
theorem bsM_yes {n : Nat} {f : Nat → Int} {j : Nat} (h0 : 0 ≤ f j) (h : topM f j < f j) : bsM n f (j + 1) = rkT 100 119 n j ∧ topM f (j + 1) = f j := by
  obtain ⟨x, y⟩ := topM_yes h0 (.inr (topV_ge f j).1) h
  exact ⟨by unfold bsM; rw [if_neg (by omega), y], x⟩
theorem bsM_no {n : Nat} {f : Nat → Int} {j : Nat} (h0 : 0 ≤ f j) (h : ¬ topM f j < f j) : bsM n f (j + 1) = bsM n f j ∧ topM f (j + 1) = topM f j := by
  obtain ⟨x, y, z⟩ := topM_no h0 h
  exact ⟨by unfold bsM; rw [if_neg (by omega), if_neg z, y], x⟩
theorem day_more {t T : ByteArray} (ht : dayS t = true) (hT : allB T = true) : allB (t ++ T) = true ∧ (t ++ T).size = T.size + 1 := by
  rcases day_textL ht with rfl | rfl
  all_goals
    refine ⟨?_, by rw [ByteArray.size_append]; show 1 + T.size = _; omega⟩
    unfold allB at *
    rw [ByteArray.data_append, Array.toList_append, List.all_append, hT]
    rfl
def ansLd (a b c : Int) (t : ByteArray) (n : Int) : Value := if (good a b c && dayS t) && inB n 1 8 then .tuple #[.string (rkT 100 119 n.toNat (topR (flF a b c t n.toNat) (2 ^ n.toNat))), .bool true] else .tuple #[.string ⟨#[]⟩, .bool false]
theorem ansLd_form (a b c : Int) (t : ByteArray) (n : Int) : ∃ (x : ByteArray) (o : Bool), ansLd a b c t n = .tuple #[.string x, .bool o] := by
  unfold ansLd
  split
  · exact ⟨_, _, rfl⟩
  · exact ⟨_, _, rfl⟩

set_option maxRecDepth 100000 in
set_option maxHeartbeats 3200000 in
theorem specLd_any (a b c : Int) (t : ByteArray) (n : Int) (w : World) (htt : t.size ≤ maxLen) :
    Calls Try.prog 11 #[chn a b c, .string t, .int .i64 n] w fun e w' => e = .returned (ansLd a b c t n) ∧ Below w.heap.size w w' := by
  have HT := Lib.hid htt
  have bx := Lib.hid (Box3.new w (.int .i64 a) (.int .i64 b) (.int .i64 c) 26)
  cases h : (good a b c && dayS t)
  · rw [show ansLd a b c t n = .tuple #[.string ⟨#[]⟩, .bool false] from by unfold ansLd; rw [h]; rfl]
    go_enter Try.func11, Try.ntmps11
    go_wp2_with fail
    refine (cnDay_any _ _ _ _ _ HT.out).mono ?_
    rintro e w1 ⟨rfl, hb1⟩
    rw [h]
    go_wp2_with fail
    go_ret2
    exact ⟨rfl, bel_trans (bel_alloc (Below.refl _ _) _) hb1⟩
  cases hn : inB n 1 8
  · rw [show ansLd a b c t n = .tuple #[.string ⟨#[]⟩, .bool false] from by unfold ansLd; rw [h, hn]; rfl]
    go_enter Try.func11, Try.ntmps11
    go_wp2_with fail
    refine (cnDay_any _ _ _ _ _ HT.out).mono ?_
    rintro e w1 ⟨rfl, hb1⟩
    rw [h]
    go_wp2_with fail
    refine (l1In_any _ _ _ _).mono ?_
    rintro e w9 ⟨rfl, rfl⟩
    rw [hn]
    go_wp2_with fail
    go_ret2
    exact ⟨rfl, bel_trans (bel_alloc (Below.refl _ _) _) hb1⟩
  have hnb := (inB_iff _ _ _).1 hn
  have h' := h
  rw [Bool.and_eq_true] at h'
  have hr := inR_of h'.1
  obtain ⟨m, rfl⟩ : ∃ m : Nat, n = m := ⟨n.toNat, by omega⟩
  have hm1 : 1 ≤ m := by omega
  have hm8 : m ≤ 8 := by omega
  have hp8 := pow8 m hm8
  have hpos := flF_pos hr t h'.2 m
  have hV : Hid (∀ j, 0 ≤ flF a b c t m j ∧ flF a b c t m j ≤ 1000000000) := Lib.hid (fun j => flF_in hr t m hm8 j)
  have htz : t.size = 1 := by rcases day_textL h'.2 with rfl | rfl <;> rfl
  rw [show ansLd a b c t m = .tuple #[.string (rkT 100 119 m (topR (flF a b c t m) (2 ^ m))), .bool true] from by unfold ansLd; rw [h, hn]; rfl]
  have hadd : Hid (∀ (j : Nat) (W : World), (Op.stringOp .add t (rkT 100 119 m j)).run Try.prog W = .ok (.string (t ++ rkT 100 119 m j)) W) := Lib.hid (fun j W => run_string_add W _ _ (by omega) (by have := rkT_size 100 119 m j; omega))
  have hfl : Hid (∀ j : Nat, j < 2 ^ m → ∀ W : World, Calls Try.prog 36 #[chn a b c, .string (t ++ rkT 100 119 m j)] W fun e w' => e = .returned (.tuple #[.int .i64 (flF a b c t m j), .int .i64 (c ^ m)]) ∧ Below W.heap.size W w') := Lib.hid (fun j hj W => by
    obtain ⟨g1, g2⟩ := day_more h'.2 (rkT_days m j hj)
    rw [rkT_size] at g2
    have := cnFollow_any a b c (t ++ rkT 100 119 m j) W hr g1 (by omega) (by omega)
    rw [g2, Nat.add_sub_cancel] at this
    exact this)
  have hlen := Lib.hid (allDy_len m)
  obtain ⟨f, hf⟩ : ∃ f, f = flF a b c t m := ⟨_, rfl⟩
  rw [← hf] at hpos hV hfl ⊢
  have hfin : Hid (rkT 100 119 m (topR f (2 ^ m)) = bsM m f (2 ^ m)) := Lib.hid (by
    unfold bsM topN
    rw [if_neg (by have := Nat.pow_pos (n := m) (show 0 < 2 by omega); omega), if_pos hpos])
  clear hf hpos hnb hr h'
  rw [hfin.out]
  go_enter Try.func11, Try.ntmps11
  go_wp2_with fail
  refine (cnDay_any _ _ _ _ _ HT.out).mono ?_
  rintro e w1 ⟨rfl, hb1⟩
  rw [h]
  have bx1 := Lib.hid (bx.out.keep hb1)
  have bl1 := Lib.hid (bel_trans (bel_alloc (Below.refl _ w) _) hb1)
  clear hb1
  go_wp2_with fail
  refine (l1In_any _ _ _ _).mono ?_
  rintro e w9 ⟨rfl, rfl⟩
  rw [hn]
  go_wp2_with fail
  refine (cnAll_any m _ (by omega)).mono ?_
  rintro e w2 ⟨v, rfl, hR, hb2⟩
  have bx2 := Lib.hid (bx1.out.keep hb2)
  have bl2 := Lib.hid (bel_trans bl1.out hb2)
  clear hb2
  rcases hR.form with ⟨hx, _⟩ | ⟨hx, g, cap, rfl, hbg, hgl, hlc, hcm⟩
  · have := hlen.out
    rw [hx] at this
    simp at this
    have := Nat.pow_pos (n := m) (show 0 < 2 by omega)
    omega
  have HRw := Lib.hid hR
  clear hR hx hbg
  generalize hN : (allDy m).length = N at *
  have HN := Lib.hid (hN.trans rfl)
  have hNe : N = 2 ^ m := hlen.out
  have HNe := Lib.hid hNe
  rw [← hNe] at hp8
  clear hN hNe
  go_wp2_with fail
  go_loopw [8, 9, 26] (fun x y i wr => ∃ j : Nat, j ≤ N ∧ i = .int .i64 j ∧ x = .int .i64 (topM f j) ∧ y = .string (bsM m f j) ∧ Hid (Box3 wr w.heap.size (.int .i64 a) (.int .i64 b) (.int .i64 c)) ∧ Hid (SRow wr w1.heap.size (.slice (some ⟨g, 0, none⟩) N cap) (allDy m)) ∧ Below w.heap.size w wr) (fun _ _ i _ => N - (intOf i).toNat)
  case atStart => exact ⟨0, by omega, rfl, rfl, rfl, bx2, HRw, bl2.out⟩
  case round =>
    obtain ⟨j, hj, rfl, rfl, rfl, hbx, hrow, hbl⟩ := hrel
    obtain ⟨wa, rfl⟩ : ∃ wa : World, wa = wr := ⟨_, rfl⟩
    by_cases hlt : j < N
    · have hj2 : j < 2 ^ m := by rw [← HNe.out]; exact hlt
      have hb := Lib.hid (hfl.out j hj2)
      have had := hadd.out j
      have hr0 := hrow.out
      rw [← HN.out] at hr0
      have c0 := hr0.at_ j (by rw [HN.out]; exact hlt)
      rw [allDy_at _ _ hj2] at c0
      obtain ⟨d0, d1, d2, d3⟩ := hbx.out
      have hyes := Lib.hid (@bsM_yes m f j (hV.out j).1)
      have hno := Lib.hid (@bsM_no m f j (hV.out j).1)
      clear hr0
      generalize t ++ rkT 100 119 m j = TT at *
      generalize rkT 100 119 m j = T at *
      generalize f j = V at *
      generalize topM f j = M at *
      generalize bsM m f j = B at *
      by_cases hlt2 : M < V
      · go_wp2_with fail
        refine (hb.out _).mono ?_
        rintro e w3 ⟨rfl, hb3⟩
        have hbx2 := Lib.hid (hbx.out.keep hb3)
        have hrow2 := Lib.hid (hrow.out.below hb3)
        have hbl2 := Lib.hid (bel_trans hbl hb3)
        clear hb3 d0 d1 d2 d3 c0
        go_wp2_with fail
        exact ⟨⟨j + 1, by omega, by go_num, by rw [(hyes.out hlt2).2], by rw [(hyes.out hlt2).1], hbx2, hrow2, hbl2.out⟩, by simp [intOf]; omega⟩
      · have hlt3 : decide (M < V) = false := by simpa using hlt2
        go_wp2_with fail
        refine (hb.out _).mono ?_
        rintro e w3 ⟨rfl, hb3⟩
        have hbx2 := Lib.hid (hbx.out.keep hb3)
        have hrow2 := Lib.hid (hrow.out.below hb3)
        have hbl2 := Lib.hid (bel_trans hbl hb3)
        clear hb3 d0 d1 d2 d3 c0
        go_wp2_with fail
        exact ⟨⟨j + 1, by omega, by go_num, by rw [(hno.out hlt2).2], by rw [(hno.out hlt2).1], hbx2, hrow2, hbl2.out⟩, by simp [intOf]; omega⟩
    · have hjN : j = N := by omega
      have HJ := Lib.hid (hjN.trans HNe.out)
      clear hjN
      go_wp2_with fail
      go_ret2
      exact ⟨by rw [← HJ.out]; rfl, hbl⟩

set_option maxRecDepth 100000 in
set_option maxHeartbeats 3200000 in
theorem implLd_any (a b c : Int) (t : ByteArray) (n : Int) (w : World) (htt : t.size ≤ maxLen) :
    Calls Try.prog 13 #[chn a b c, .string t, .int .i64 n] w fun e w' => e = .returned (ansLd a b c t n) ∧ Below w.heap.size w w' := by
  have HT := Lib.hid htt
  have bx := Lib.hid (Box3.new w (.int .i64 a) (.int .i64 b) (.int .i64 c) 26)
  cases h : (good a b c && dayS t)
  · rw [show ansLd a b c t n = .tuple #[.string ⟨#[]⟩, .bool false] from by unfold ansLd; rw [h]; rfl]
    go_enter Try.func13, Try.ntmps13
    go_wp2_with fail
    refine (isDayOf_any _ _ _ _ _ HT.out).mono ?_
    rintro e w1 ⟨rfl, hb1⟩
    rw [h]
    go_wp2_with fail
    go_ret2
    exact ⟨rfl, bel_trans (bel_alloc (Below.refl _ _) _) hb1⟩
  by_cases n1 : n < 1
  · have hn : inB n 1 8 = false := by unfold inB; simp; omega
    rw [show ansLd a b c t n = .tuple #[.string ⟨#[]⟩, .bool false] from by unfold ansLd; rw [h, hn]; rfl]
    clear hn
    go_enter Try.func13, Try.ntmps13
    go_wp2_with fail
    refine (isDayOf_any _ _ _ _ _ HT.out).mono ?_
    rintro e w1 ⟨rfl, hb1⟩
    rw [h]
    go_wp2_with fail
    go_ret2
    exact ⟨rfl, bel_trans (bel_alloc (Below.refl _ _) _) hb1⟩
  have n2 : decide (n < 1) = false := by simpa using n1
  by_cases n3 : 8 < n
  · have hn : inB n 1 8 = false := by unfold inB; simp; omega
    rw [show ansLd a b c t n = .tuple #[.string ⟨#[]⟩, .bool false] from by unfold ansLd; rw [h, hn]; rfl]
    clear hn
    go_enter Try.func13, Try.ntmps13
    go_wp2_with fail
    refine (isDayOf_any _ _ _ _ _ HT.out).mono ?_
    rintro e w1 ⟨rfl, hb1⟩
    rw [h]
    go_wp2_with fail
    go_ret2
    exact ⟨rfl, bel_trans (bel_alloc (Below.refl _ _) _) hb1⟩
  have n4 : decide (8 < n) = false := by simpa using n3
  have hn : inB n 1 8 = true := by unfold inB; simp; omega
  have h' := h
  rw [Bool.and_eq_true] at h'
  have hr := inR_of h'.1
  obtain ⟨m, rfl⟩ : ∃ m : Nat, n = m := ⟨n.toNat, by omega⟩
  have hm1 : 1 ≤ m := by omega
  have hm8 : m ≤ 8 := by omega
  have hp8 := pow8 m hm8
  have hpos := flF_pos hr t h'.2 m
  have hV : Hid (∀ j, 0 ≤ flF a b c t m j ∧ flF a b c t m j ≤ 1000000000) := Lib.hid (fun j => flF_in hr t m hm8 j)
  have htz : t.size = 1 := by rcases day_textL h'.2 with rfl | rfl <;> rfl
  rw [show ansLd a b c t m = .tuple #[.string (rkT 100 119 m (topR (flF a b c t m) (2 ^ m))), .bool true] from by unfold ansLd; rw [h, hn]; rfl]
  have hadd : Hid (∀ (j : Nat) (W : World), (Op.stringOp .add t (rkT 100 119 m j)).run Try.prog W = .ok (.string (t ++ rkT 100 119 m j)) W) := Lib.hid (fun j W => run_string_add W _ _ (by omega) (by have := rkT_size 100 119 m j; omega))
  have hfl : Hid (∀ j : Nat, j < 2 ^ m → ∀ W : World, Calls Try.prog 39 #[chn a b c, .string (t ++ rkT 100 119 m j)] W fun e w' => e = .returned (.int .i64 (flF a b c t m j)) ∧ Below W.heap.size W w') := Lib.hid (fun j hj W => by
    obtain ⟨g1, g2⟩ := day_more h'.2 (rkT_days m j hj)
    rw [rkT_size] at g2
    have := followed_any a b c (t ++ rkT 100 119 m j) W hr g1 (by omega) (by omega)
    rw [g2] at this
    exact this)
  have htx : Hid (∀ j : Nat, j < 2 ^ m → ∀ W : World, Calls Try.prog 38 #[.int .i64 j, .int .i64 m, .string ⟨#[100, 119]⟩] W fun e w' => e = .returned (.string (rkT 100 119 m j)) ∧ Below W.heap.size W w') := Lib.hid (fun j hj W => textOfRank_any 100 119 m j W (by omega) hj)
  obtain ⟨f, hf⟩ : ∃ f, f = flF a b c t m := ⟨_, rfl⟩
  rw [← hf] at hpos hV hfl ⊢
  have hfin : Hid (rkT 100 119 m (topR f (2 ^ m)) = lkX m f (2 ^ m)) := Lib.hid (by
    unfold lkX
    rw [if_pos hpos])
  rw [hfin.out]
  obtain ⟨N, hN⟩ : ∃ N, N = 2 ^ m := ⟨_, rfl⟩
  have hwr : (2 : Int) ^ m = (N : Int) := by rw [hN]; simp
  rw [← hN] at hp8 hfl htx ⊢
  clear hf hpos hr hN n1 n3 h'
  go_enter Try.func13, Try.ntmps13
  go_wp2_with fail
  refine (isDayOf_any _ _ _ _ _ HT.out).mono ?_
  rintro e w1 ⟨rfl, hb1⟩
  rw [h]
  have bx1 := Lib.hid (bx.out.keep hb1)
  have bl1 := Lib.hid (bel_trans (bel_alloc (Below.refl _ w) _) hb1)
  clear hb1
  go_wp2_with fail
  go_loopw [8, 9, 27] (fun y x i wr => ∃ j : Nat, j ≤ N ∧ i = .int .i64 j ∧ x = .int .i64 (topV f j) ∧ y = .string (lkX m f j) ∧ Hid (Box3 wr w.heap.size (.int .i64 a) (.int .i64 b) (.int .i64 c)) ∧ Below w.heap.size w wr) (fun _ _ i _ => N - (intOf i).toNat)
  case atStart => exact ⟨0, by omega, rfl, rfl, rfl, bx1, bl1.out⟩
  case round =>
    obtain ⟨j, hj, rfl, rfl, rfl, hbx, hbl⟩ := hrel
    obtain ⟨wa, rfl⟩ : ∃ wa : World, wa = wr := ⟨_, rfl⟩
    by_cases hlt : j < N
    · have hb := Lib.hid (hfl.out j hlt)
      have ht := Lib.hid (htx.out j hlt)
      have had := hadd.out j
      have hji : (j : Int) < (N : Int) := by omega
      have hyes := Lib.hid (@lkX_yes m f j)
      have hno := Lib.hid (@lkX_no m f j)
      generalize t ++ rkT 100 119 m j = TT at *
      generalize rkT 100 119 m j = S at *
      generalize f j = V at *
      generalize topV f j = M at *
      generalize lkX m f j = B at *
      by_cases hlt2 : M < V
      · go_wp2_with fail
        refine (ht.out _).mono ?_
        rintro e w2 ⟨rfl, hb2⟩
        have hbx2 := Lib.hid (hbx.out.keep hb2)
        have hbl2 := Lib.hid (bel_trans hbl hb2)
        obtain ⟨d0, d1, d2, d3⟩ := hbx2.out
        clear hb2
        go_wp2_with fail
        refine (hb.out _).mono ?_
        rintro e w3 ⟨rfl, hb3⟩
        have hbx3 := Lib.hid (hbx2.out.keep hb3)
        have hbl3 := Lib.hid (bel_trans hbl2.out hb3)
        clear hb3 d0 d1 d2 d3
        go_wp2_with fail
        exact ⟨⟨j + 1, by omega, by go_num, by rw [(hyes.out hlt2).2], by rw [(hyes.out hlt2).1], hbx3, hbl3.out⟩, by simp [intOf]; omega⟩
      · have hlt3 : decide (M < V) = false := by simpa using hlt2
        go_wp2_with fail
        refine (ht.out _).mono ?_
        rintro e w2 ⟨rfl, hb2⟩
        have hbx2 := Lib.hid (hbx.out.keep hb2)
        have hbl2 := Lib.hid (bel_trans hbl hb2)
        obtain ⟨d0, d1, d2, d3⟩ := hbx2.out
        clear hb2
        go_wp2_with fail
        refine (hb.out _).mono ?_
        rintro e w3 ⟨rfl, hb3⟩
        have hbx3 := Lib.hid (hbx2.out.keep hb3)
        have hbl3 := Lib.hid (bel_trans hbl2.out hb3)
        clear hb3 d0 d1 d2 d3
        go_wp2_with fail
        exact ⟨⟨j + 1, by omega, by go_num, by rw [(hno.out hlt2).2], by rw [(hno.out hlt2).1], hbx3, hbl3.out⟩, by simp [intOf]; omega⟩
    · have hjN : j = N := by omega
      have HJ := Lib.hid hjN
      clear hjN
      go_wp2_with fail
      go_ret2
      exact ⟨by rw [← HJ.out]; rfl, hbl⟩

set_option maxRecDepth 100000 in
set_option maxHeartbeats 3200000 in
theorem walkExactLikeliestDays (a b c : Int) (t : ByteArray) (n : Int) (w : World) (ha : (Lit.int .i64 a).wf = true) (hb : (Lit.int .i64 b).wf = true) (hc : (Lit.int .i64 c).wf = true) (zt : t.size ≤ maxLen) (zn : (Lit.int .i64 n).wf = true) :
    Calls Try.prog 4 #[chn a b c, .string t, .int .i64 n] w fun e w' => e = .returned (.bool true) ∧ Below w.heap.size w w' := by
  clear ha hb hc zn
  by_cases lt : t.size ≤ 1048576
  · obtain ⟨x, ok, hv⟩ := ansLd_form a b c t n
    have Hv := Lib.hid hv
    have ZT := Lib.hid zt
    clear hv zt
    have bx := Lib.hid (Box3.new w (.int .i64 a) (.int .i64 b) (.int .i64 c) 23)
    go_enter Try.func4, Try.ntmps4
    go_wp2_with fail
    refine (toChain_any _ _ _ _).mono ?_
    rintro e w1 ⟨rfl, hb1⟩
    have bx1 := Lib.hid (bx.out.keep hb1)
    go_wp2_with fail
    refine (specLd_any _ _ _ t n _ ZT.out).mono ?_
    rw [Hv.out]
    rintro e w2 ⟨rfl, hb2⟩
    obtain ⟨c0, c1, c2, hk⟩ := bx1.out.keep hb2
    go_wp2_with fail
    refine (toChain_any _ _ _ _).mono ?_
    rintro e w3 ⟨rfl, hb3⟩
    go_wp2_with fail
    refine (implLd_any _ _ _ t n _ ZT.out).mono ?_
    rw [Hv.out]
    rintro e w4 ⟨rfl, hb4⟩
    go_wp2_with fail
    go_ret
    exact ⟨rfl, bel_trans (bel_trans (bel_trans (bel_trans (bel_alloc (Below.refl _ _) _) hb1) hb2) hb3) hb4⟩
  · go_enter Try.func4, Try.ntmps4
    go_wp2
    go_ret
    exact ⟨rfl, bel_alloc (Below.refl _ _) _⟩
end Go.Proofs.Ytjfcpbedmdnjcac
