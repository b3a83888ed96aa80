/- LikeliestSigns: the contracts of the program and of its model, and the walk. -/
import Derived.Test.YtjfcpbedmdnjcabHdE
import Derived.Test.YtjfcpbedmdnjcabHdT
import Derived.Test.YtjfcpbedmdnjcabHdX
namespace Go.Proofs.Ytjfcpbedmdnjcab
set_option linter.unusedSimpArgs false
open Go.ChangeShapes Go.WideShapes Go.ChangeAt Go.RowKit
set_option linter.unusedVariables false

theorem rkT_signs (n r : Nat) : allG (rkT 110 117 n r) = true := by
  refine allG_of _ fun k hk => ?_
  have hz := rkT_size 110 117 n r
  have h := rkT_sgn 110 117 n r k (by omega)
  rw [← sgn_at _ k hk] at h
  rw [sgB_iff]
  split at h
  · left
    have h2 : (((rkT 110 117 n r)[k].toNat : Nat) : Int) = 110 := h
    omega
  · right
    have h2 : (((rkT 110 117 n r)[k].toNat : Nat) : Int) = 117 := h
    omega
/-- The first i signs. -/
def tkB (s : ByteArray) (i : Nat) : ByteArray := ⟨(s.data.toList.take i).toArray⟩
theorem tkB_size (s : ByteArray) (i : Nat) (h : i ≤ s.size) : (tkB s i).size = i := by
  show (s.data.toList.take i).toArray.size = i
  have hl : s.data.toList.length = s.size := by simp
  rw [List.size_toArray, List.length_take, hl]
  omega
theorem tkB_all (s : ByteArray) : tkB s s.size = s := by
  have hl : s.data.toList.length = s.size := by simp
  unfold tkB
  rw [List.take_of_length_le (by omega)]
theorem tkB_succ (s : ByteArray) (i : Nat) (h : i < s.size) (c : UInt8) (hc : s.data.toList.getD i 0 = c) : tkB s i ++ ⟨#[c]⟩ = tkB s (i + 1) := by
  have hl : s.data.toList.length = s.size := by simp
  have hi : i < s.data.toList.length := by omega
  apply ByteArray.ext
  apply Array.toList_inj.1
  rw [ByteArray.data_append, Array.toList_append]
  show s.data.toList.take i ++ [c] = s.data.toList.take (i + 1)
  rw [List.take_succ_eq_append_getElem hi]
  congr 1
  rw [List.getD_eq_getElem?_getD, List.getElem?_eq_getElem hi] at hc
  rw [← hc]
  rfl
/-- The chances of all signs of so many days. -/
def sgF (a b c p q r : Int) (n : Nat) : Nat → Int := fun j => sgT a b c p q r (rkT 110 117 n j)
theorem sgF_pos {a b c p q r : Int} (h : inR a b c) (g : inR p q r) (n : Nat) (hn : n ≤ 6) : 0 < topV (sgF a b c p q r n) (2 ^ n) := by
  have he : (ByteArray.empty : ByteArray).size = 0 := rfl
  obtain ⟨i, hi, h1, _⟩ := ex_flw h ByteArray.empty (by rw [he]; exact Int.zero_lt_one) (.inl rfl) n
  rw [he, Nat.zero_add, ByteArray.empty_append] at h1
  have hz := rkT_size 100 119 n i
  obtain ⟨j, hj, h2⟩ := ex_bth g (rkT 100 119 n i) (by rw [hz]; exact h1) n
  have hz2 := rkT_size 110 117 n j
  have h3 : 0 < vS a b c p q r (rkT 110 117 n j) i := by
    unfold vS bth
    rw [hz2, hz]
    exact h2
  have h4 : vS a b c p q r (rkT 110 117 n j) i ≤ sgT a b c p q r (rkT 110 117 n j) := by
    unfold sgT
    exact sumU_ge _ _ _ (by rw [hz2]; exact hi) (fun k _ => (vS_in h g _ (by omega) k).1)
  have h5 := (topV_ge (sgF a b c p q r n) (2 ^ n)).2 j hj
  unfold sgF at h5 ⊢
  omega
def lkX (n : Nat) (f : Nat → Int) (j : Nat) : ByteArray := if 0 < topV f j then rkT 110 117 n (topR f j) else ⟨#[]⟩
theorem lkX_yes {n : Nat} {f : Nat → Int} {j : Nat} (h : topV f j < f j) : lkX n f (j + 1) = rkT 110 117 n j ∧ topV f (j + 1) = f j := by
  have := (topV_ge f j).1
  have e : topV f (j + 1) = f j := by unfold topV; rw [if_pos h]
  refine ⟨?_, e⟩
  unfold lkX
  rw [e, if_pos (by omega)]
  unfold topR
  rw [if_pos h]
theorem lkX_no {n : Nat} {f : Nat → Int} {j : Nat} (h : ¬ topV f j < f j) : lkX n f (j + 1) = lkX n f j ∧ topV f (j + 1) = topV f j := by
  have e : topV f (j + 1) = topV f j := by conv => lhs; unfold topV; rw [if_neg h]
  refine ⟨?_, e⟩
  have e2 : topR f (j + 1) = topR f j := by conv => lhs; unfold topR; rw [if_neg h]
  unfold lkX
  rw [e, e2]
def bsM (n : Nat) (f : Nat → Int) (j : Nat) : ByteArray := if j = 0 then ⟨#[]⟩ else rkT 110 117 n (topN f j)
theorem bsM_yes {n : Nat} {f : Nat → Int} {j : Nat} (h0 : 0 ≤ f j) (h : topM f j < f j) : bsM n f (j + 1) = rkT 110 117 n j ∧ topM f (j + 1) = f j := by
  obtain ⟨x, y⟩ := topM_yes h0 (.inr (topV_ge f j).1) h
  exact ⟨by unfold bsM; rw [if_neg (by omega), y], x⟩
theorem bsM_no {n : Nat} {f : Nat → Int} {j : Nat} (h0 : 0 ≤ f j) (h : ¬ topM f j < f j) : bsM n f (j + 1) = bsM n f j ∧ topM f (j + 1) = topM f j := by
  obtain ⟨x, y, z⟩ := topM_no h0 h
  exact ⟨by unfold bsM; rw [if_neg (by omega), if_neg z, y], x⟩
def ansLs (a b c p q r n : Int) : Value := if goodH a b c p q r && inB n 1 6 then .tuple #[.string (rkT 110 117 n.toNat (topR (sgF a b c p q r n.toNat) (2 ^ n.toNat))), .bool true] else .tuple #[.string ⟨#[]⟩, .bool false]
theorem ansLs_form (a b c p q r n : Int) : ∃ (x : ByteArray) (o : Bool), ansLs a b c p q r n = .tuple #[.string x, .bool o] := by
  unfold ansLs
  split
  · exact ⟨_, _, rfl⟩
  · exact ⟨_, _, rfl⟩
theorem goodH_inV {a b c p q r : Int} (h : goodH a b c p q r = true) : inR a b c ∧ inR p q r := by
  unfold goodH at h
  rw [Bool.and_eq_true] at h
  exact ⟨inR_of h.1, inR_of h.2⟩

set_option maxRecDepth 100000 in
set_option maxHeartbeats 3200000 in
theorem specLs_any (a b c p q r n : Int) (w : World) (zn : (Lit.int .i64 n).wf = true) :
    Calls Try.prog 7 #[hdn a b c p q r, .int .i64 n] w fun e w' => e = .returned (ansLs a b c p q r n) ∧ Below w.heap.size w w' := by
  clear zn
  have bx := Lib.hid (Box6.new w a b c p q r 30)
  cases h : goodH a b c p q r
  · rw [show ansLs a b c p q r n = .tuple #[.string ⟨#[]⟩, .bool false] from by unfold ansLs; rw [h]; rfl]
    go_enter Try.func7, Try.ntmps7
    go_wp2_with fail
    refine (hdGood_any _ _ _ _ _ _ _).mono ?_
    rintro e w1 ⟨rfl, hb1⟩
    rw [h]
    go_wp2_with fail
    go_ret2
    exact ⟨rfl, bel_trans (bel_alloc (Below.refl _ _) _) hb1⟩
  cases hn : inB n 1 6
  · rw [show ansLs a b c p q r n = .tuple #[.string ⟨#[]⟩, .bool false] from by unfold ansLs; rw [h, hn]; rfl]
    go_enter Try.func7, Try.ntmps7
    go_wp2_with fail
    refine (hdGood_any _ _ _ _ _ _ _).mono ?_
    rintro e w1 ⟨rfl, hb1⟩
    rw [h]
    go_wp2_with fail
    refine (l1In_any _ _ _ _).mono ?_
    rintro e w9 ⟨rfl, rfl⟩
    rw [hn]
    go_wp2_with fail
    go_ret2
    exact ⟨rfl, bel_trans (bel_alloc (Below.refl _ _) _) hb1⟩
  obtain ⟨hr, hp⟩ := goodH_inV h
  have hnb := (inB_iff _ _ _).1 hn
  obtain ⟨m, rfl⟩ : ∃ m : Nat, n = m := ⟨n.toNat, by omega⟩
  have hm1 : 1 ≤ m := by omega
  have hm6 : m ≤ 6 := by omega
  have hp8 := pow8 m (by omega)
  have hpos := sgF_pos hr hp m hm6
  have hV : Hid (∀ j, 0 ≤ sgF a b c p q r m j ∧ sgF a b c p q r m j ≤ 25600000000000000) := Lib.hid (fun j => by
    have hz := rkT_size 110 117 m j
    exact sgT_in hr hp _ (by omega))
  rw [show ansLs a b c p q r m = .tuple #[.string (rkT 110 117 m (topR (sgF a b c p q r m) (2 ^ m))), .bool true] from by unfold ansLs; rw [h, hn]; rfl]
  have hsum : Hid (∀ j, j < 2 ^ m → ∀ W : World, Calls Try.prog 19 #[hdn a b c p q r, .string (rkT 110 117 m j), .int .i64 0, .int .u8 0] W fun e w' => e = .returned (.int .i64 (sgF a b c p q r m j)) ∧ Below W.heap.size W w') := Lib.hid (fun j hj W => by
    have hz := rkT_size 110 117 m j
    exact hdSumA_any a b c p q r _ 0 W hr hp (rkT_signs m j) (by omega) (by omega))
  have hlen := Lib.hid (allDy_len m)
  obtain ⟨f, hf⟩ : ∃ f, f = sgF a b c p q r m := ⟨_, rfl⟩
  rw [← hf] at hpos hV hsum ⊢
  have hfin : Hid (rkT 110 117 m (topR f (2 ^ m)) = bsM m f (2 ^ m)) := Lib.hid (by
    unfold bsM topN
    rw [if_neg (by have := Nat.pow_pos (n := m) (show 0 < 2 by omega); omega), if_pos hpos])
  clear hf hpos hnb hr hp
  rw [hfin.out]
  go_enter Try.func7, Try.ntmps7
  go_wp2_with fail
  refine (hdGood_any _ _ _ _ _ _ _).mono ?_
  rintro e w1 ⟨rfl, hb1⟩
  rw [h]
  have bx1 := Lib.hid (bx.out.keep hb1)
  have bl1 := Lib.hid (bel_trans (bel_alloc (Below.refl _ w) _) hb1)
  clear hb1
  go_wp2_with fail
  refine (l1In_any _ _ _ _).mono ?_
  rintro e w9 ⟨rfl, rfl⟩
  rw [hn]
  go_wp2_with fail
  refine (cnAll_any m _ (by omega)).mono ?_
  rintro e w2 ⟨v, rfl, hR, hb2⟩
  have bx2 := Lib.hid (bx1.out.keep hb2)
  have bl2 := Lib.hid (bel_trans bl1.out hb2)
  clear hb2
  rcases hR.form with ⟨hx, _⟩ | ⟨hx, g, cap, rfl, hbg, hgl, hlc, hcm⟩
  · have := hlen.out
    rw [hx] at this
    simp at this
    have := Nat.pow_pos (n := m) (show 0 < 2 by omega)
    omega
  have HRw := Lib.hid hR
  clear hR hx hbg
  generalize hN : (allDy m).length = N at *
  have HN := Lib.hid (hN.trans rfl)
  have hNe : N = 2 ^ m := hlen.out
  have HNe := Lib.hid hNe
  rw [← hNe] at hp8
  clear hN hNe
  go_wp2_with fail
  go_loopw [6, 7, 24] (fun x y i wr => ∃ j : Nat, j ≤ N ∧ i = .int .i64 j ∧ x = .int .i64 (topM f j) ∧ y = .string (bsM m f j) ∧ Hid (Box6 wr w.heap.size a b c p q r) ∧ Hid (SRow wr w1.heap.size (.slice (some ⟨g, 0, none⟩) N cap) (allDy m)) ∧ Below w.heap.size w wr) (fun _ _ i _ => N - (intOf i).toNat)
  case atStart => exact ⟨0, by omega, rfl, rfl, rfl, bx2, HRw, bl2.out⟩
  case round =>
    obtain ⟨j, hj, rfl, rfl, rfl, hbx, hrow, hbl⟩ := hrel
    obtain ⟨wa, rfl⟩ : ∃ wa : World, wa = wr := ⟨_, rfl⟩
    by_cases hlt : j < N
    · have hj2 : j < 2 ^ m := by rw [← HNe.out]; exact hlt
      have hb := Lib.hid (hsum.out j hj2)
      have hr0 := hrow.out
      rw [← HN.out] at hr0
      have c0 := hr0.at_ j (by rw [HN.out]; exact hlt)
      rw [allDy_at _ _ hj2] at c0
      have hz := rkT_size 100 119 m j
      have hz2 := rkT_size 110 117 m j
      have hsg : Hid (∀ (k : Nat) (hk : k < (rkT 100 119 m j).size), (((rkT 100 119 m j)[k].toNat : Int) = 100 ∧ tkB (rkT 110 117 m j) k ++ ⟨#[110]⟩ = tkB (rkT 110 117 m j) (k + 1)) ∨ (((rkT 100 119 m j)[k].toNat : Int) = 119 ∧ tkB (rkT 110 117 m j) k ++ ⟨#[117]⟩ = tkB (rkT 110 117 m j) (k + 1))) := Lib.hid (fun k hk => by
        have h1 := rkT_sgn 100 119 m j k (by omega)
        have h2 := rkT_at 110 117 m j k (by omega)
        rw [← sgn_at _ k hk] at h1
        by_cases e : j / 2 ^ (m - 1 - k) % 2 = 0
        · rw [if_pos e] at h1 h2
          exact .inl ⟨h1, tkB_succ _ k (by omega) 110 h2⟩
        · rw [if_neg e] at h1 h2
          exact .inr ⟨h1, tkB_succ _ k (by omega) 117 h2⟩)
      have hst : Hid (tkB (rkT 110 117 m j) 0 = ⟨#[]⟩) := Lib.hid rfl
      have hen : Hid (tkB (rkT 110 117 m j) m = rkT 110 117 m j) := Lib.hid (by have := tkB_all (rkT 110 117 m j); rw [hz2] at this; exact this)
      have htz : Hid (∀ k, k ≤ m → (tkB (rkT 110 117 m j) k).size = k) := Lib.hid (fun k hk => tkB_size _ k (by omega))
      obtain ⟨d0, d1, d2, d3, d4, d5, d6⟩ := hbx.out
      have hyes := Lib.hid (@bsM_yes m f j (hV.out j).1)
      have hno := Lib.hid (@bsM_no m f j (hV.out j).1)
      clear hr0 hz2
      generalize rkT 100 119 m j = T at *
      generalize rkT 110 117 m j = S at *
      generalize f j = V at *
      generalize topM f j = M at *
      generalize bsM m f j = B at *
      go_wp2_with fail
      go_loop [10, 11] (fun x i => ∃ k : Nat, k ≤ m ∧ i = .int .i64 k ∧ x = .string (tkB S k)) (fun _ i => m - (intOf i).toNat)
      case atStart => exact ⟨0, by omega, rfl, by rw [hst.out]⟩
      case round =>
        obtain ⟨k, hk, rfl, rfl⟩ := hrel
        have hks := htz.out k hk
        by_cases hlk : k < m
        · have hkT : k < T.size := by omega
          have t1 : ¬ 9223372036854775807 < (tkB S k).size + 1 := by omega
          rcases hsg.out k hkT with ⟨e1, e2⟩ | ⟨e1, e2⟩
          · have E2 := Lib.hid e2
            clear e2
            go_wp2_with fail
            exact ⟨⟨k + 1, by omega, by go_num, by rw [E2.out]⟩, by simp [intOf]; omega⟩
          · have E2 := Lib.hid e2
            clear e2
            go_wp2_with fail
            exact ⟨⟨k + 1, by omega, by go_num, by rw [E2.out]⟩, by simp [intOf]; omega⟩
        · obtain rfl : k = m := by omega
          rw [hen.out] at hks ⊢
          by_cases hlt2 : M < V
          · go_wp2_with fail
            refine (hb.out _).mono ?_
            rintro e w3 ⟨rfl, hb3⟩
            have hbx2 := Lib.hid (hbx.out.keep hb3)
            have hrow2 := Lib.hid (hrow.out.below hb3)
            have hbl2 := Lib.hid (bel_trans hbl hb3)
            clear hb3 d0 d1 d2 d3 d4 d5 d6 c0
            go_wp2_with fail
            exact ⟨⟨j + 1, by omega, by go_num, by rw [(hyes.out hlt2).2], by rw [(hyes.out hlt2).1], hbx2, hrow2, hbl2.out⟩, by simp [intOf]; omega⟩
          · have hlt3 : decide (M < V) = false := by simpa using hlt2
            go_wp2_with fail
            refine (hb.out _).mono ?_
            rintro e w3 ⟨rfl, hb3⟩
            have hbx2 := Lib.hid (hbx.out.keep hb3)
            have hrow2 := Lib.hid (hrow.out.below hb3)
            have hbl2 := Lib.hid (bel_trans hbl hb3)
            clear hb3 d0 d1 d2 d3 d4 d5 d6 c0
            go_wp2_with fail
            exact ⟨⟨j + 1, by omega, by go_num, by rw [(hno.out hlt2).2], by rw [(hno.out hlt2).1], hbx2, hrow2, hbl2.out⟩, by simp [intOf]; omega⟩
    · have hjN : j = N := by omega
      have HJ := Lib.hid (hjN.trans HNe.out)
      clear hjN
      go_wp2_with fail
      go_ret2
      exact ⟨by rw [← HJ.out]; rfl, hbl⟩

set_option maxRecDepth 100000 in
set_option maxHeartbeats 3200000 in
theorem implLs_any (a b c p q r n : Int) (w : World) (zn : (Lit.int .i64 n).wf = true) :
    Calls Try.prog 9 #[hdn a b c p q r, .int .i64 n] w fun e w' => e = .returned (ansLs a b c p q r n) ∧ Below w.heap.size w w' := by
  clear zn
  have bx := Lib.hid (Box6.new w a b c p q r 30)
  cases h : goodH a b c p q r
  · rw [show ansLs a b c p q r n = .tuple #[.string ⟨#[]⟩, .bool false] from by unfold ansLs; rw [h]; rfl]
    go_enter Try.func9, Try.ntmps9
    go_wp2_with fail
    refine (implIsHidden_any _ _ _ _ _ _ _).mono ?_
    rintro e w1 ⟨rfl, hb1⟩
    rw [h]
    go_wp2_with fail
    go_ret2
    exact ⟨rfl, bel_trans (bel_alloc (Below.refl _ _) _) hb1⟩
  by_cases n1 : n < 1
  · have hn : inB n 1 6 = false := by unfold inB; simp; omega
    rw [show ansLs a b c p q r n = .tuple #[.string ⟨#[]⟩, .bool false] from by unfold ansLs; rw [h, hn]; rfl]
    clear hn
    go_enter Try.func9, Try.ntmps9
    go_wp2_with fail
    refine (implIsHidden_any _ _ _ _ _ _ _).mono ?_
    rintro e w1 ⟨rfl, hb1⟩
    rw [h]
    go_wp2_with fail
    go_ret2
    exact ⟨rfl, bel_trans (bel_alloc (Below.refl _ _) _) hb1⟩
  have n2 : decide (n < 1) = false := by simpa using n1
  by_cases n3 : 6 < n
  · have hn : inB n 1 6 = false := by unfold inB; simp; omega
    rw [show ansLs a b c p q r n = .tuple #[.string ⟨#[]⟩, .bool false] from by unfold ansLs; rw [h, hn]; rfl]
    clear hn
    go_enter Try.func9, Try.ntmps9
    go_wp2_with fail
    refine (implIsHidden_any _ _ _ _ _ _ _).mono ?_
    rintro e w1 ⟨rfl, hb1⟩
    rw [h]
    go_wp2_with fail
    go_ret2
    exact ⟨rfl, bel_trans (bel_alloc (Below.refl _ _) _) hb1⟩
  have n4 : decide (6 < n) = false := by simpa using n3
  have hn : inB n 1 6 = true := by unfold inB; simp; omega
  obtain ⟨hr, hp⟩ := goodH_inV h
  have hnb := (inB_iff _ _ _).1 hn
  obtain ⟨m, rfl⟩ : ∃ m : Nat, n = m := ⟨n.toNat, by omega⟩
  have hm1 : 1 ≤ m := by omega
  have hm6 : m ≤ 6 := by omega
  have hp8 := pow8 m (by omega)
  have hpos := sgF_pos hr hp m hm6
  have hV : Hid (∀ j, 0 ≤ sgF a b c p q r m j ∧ sgF a b c p q r m j ≤ 25600000000000000) := Lib.hid (fun j => by
    have hz := rkT_size 110 117 m j
    exact sgT_in hr hp _ (by omega))
  rw [show ansLs a b c p q r m = .tuple #[.string (rkT 110 117 m (topR (sgF a b c p q r m) (2 ^ m))), .bool true] from by unfold ansLs; rw [h, hn]; rfl]
  have hsum : Hid (∀ j, j < 2 ^ m → ∀ W : World, Calls Try.prog 22 #[hdn a b c p q r, .string (rkT 110 117 m j)] W fun e w' => e = .returned (.int .i64 (sgF a b c p q r m j)) ∧ Below W.heap.size W w') := Lib.hid (fun j hj W => by
    have hz := rkT_size 110 117 m j
    exact chanceOf_any a b c p q r _ W hr hp (rkT_signs m j) (by omega) (by omega))
  have htx : Hid (∀ j : Nat, j < 2 ^ m → ∀ W : World, Calls Try.prog 21 #[.int .i64 j, .int .i64 m, .string ⟨#[110, 117]⟩] W fun e w' => e = .returned (.string (rkT 110 117 m j)) ∧ Below W.heap.size W w') := Lib.hid (fun j hj W => textOfRank_any 110 117 m j W (by omega) hj)
  obtain ⟨f, hf⟩ : ∃ f, f = sgF a b c p q r m := ⟨_, rfl⟩
  rw [← hf] at hpos hV hsum ⊢
  have hfin : Hid (rkT 110 117 m (topR f (2 ^ m)) = lkX m f (2 ^ m)) := Lib.hid (by
    unfold lkX
    rw [if_pos hpos])
  rw [hfin.out]
  obtain ⟨N, hN⟩ : ∃ N, N = 2 ^ m := ⟨_, rfl⟩
  have hwr : (2 : Int) ^ m = (N : Int) := by rw [hN]; simp
  rw [← hN] at hp8 hsum htx ⊢
  clear hf hpos hnb hr hp hN n1 n3
  go_enter Try.func9, Try.ntmps9
  go_wp2_with fail
  refine (implIsHidden_any _ _ _ _ _ _ _).mono ?_
  rintro e w1 ⟨rfl, hb1⟩
  rw [h]
  have bx1 := Lib.hid (bx.out.keep hb1)
  have bl1 := Lib.hid (bel_trans (bel_alloc (Below.refl _ w) _) hb1)
  clear hb1
  go_wp2_with fail
  go_loopw [6, 7, 24] (fun y x i wr => ∃ j : Nat, j ≤ N ∧ i = .int .i64 j ∧ x = .int .i64 (topV f j) ∧ y = .string (lkX m f j) ∧ Hid (Box6 wr w.heap.size a b c p q r) ∧ Below w.heap.size w wr) (fun _ _ i _ => N - (intOf i).toNat)
  case atStart => exact ⟨0, by omega, rfl, rfl, rfl, bx1, bl1.out⟩
  case round =>
    obtain ⟨j, hj, rfl, rfl, rfl, hbx, hbl⟩ := hrel
    obtain ⟨wa, rfl⟩ : ∃ wa : World, wa = wr := ⟨_, rfl⟩
    by_cases hlt : j < N
    · have hb := Lib.hid (hsum.out j hlt)
      have ht := Lib.hid (htx.out j hlt)
      have hji : (j : Int) < (N : Int) := by omega
      have hyes := Lib.hid (@lkX_yes m f j)
      have hno := Lib.hid (@lkX_no m f j)
      generalize rkT 110 117 m j = S at *
      generalize f j = V at *
      generalize topV f j = M at *
      generalize lkX m f j = B at *
      by_cases hlt2 : M < V
      · go_wp2_with fail
        refine (ht.out _).mono ?_
        rintro e w2 ⟨rfl, hb2⟩
        have hbx2 := Lib.hid (hbx.out.keep hb2)
        have hbl2 := Lib.hid (bel_trans hbl hb2)
        obtain ⟨d0, d1, d2, d3, d4, d5, d6⟩ := hbx2.out
        clear hb2
        go_wp2_with fail
        refine (hb.out _).mono ?_
        rintro e w3 ⟨rfl, hb3⟩
        have hbx3 := Lib.hid (hbx2.out.keep hb3)
        have hbl3 := Lib.hid (bel_trans hbl2.out hb3)
        clear hb3 d0 d1 d2 d3 d4 d5 d6
        go_wp2_with fail
        exact ⟨⟨j + 1, by omega, by go_num, by rw [(hyes.out hlt2).2], by rw [(hyes.out hlt2).1], hbx3, hbl3.out⟩, by simp [intOf]; omega⟩
      · have hlt3 : decide (M < V) = false := by simpa using hlt2
        go_wp2_with fail
        refine (ht.out _).mono ?_
        rintro e w2 ⟨rfl, hb2⟩
        have hbx2 := Lib.hid (hbx.out.keep hb2)
        have hbl2 := Lib.hid (bel_trans hbl hb2)
        obtain ⟨d0, d1, d2, d3, d4, d5, d6⟩ := hbx2.out
        clear hb2
        go_wp2_with fail
        refine (hb.out _).mono ?_
        rintro e w3 ⟨rfl, hb3⟩
        have hbx3 := Lib.hid (hbx2.out.keep hb3)
        have hbl3 := Lib.hid (bel_trans hbl2.out hb3)
        clear hb3 d0 d1 d2 d3 d4 d5 d6
        go_wp2_with fail
        exact ⟨⟨j + 1, by omega, by go_num, by rw [(hno.out hlt2).2], by rw [(hno.out hlt2).1], hbx3, hbl3.out⟩, by simp [intOf]; omega⟩
    · have hjN : j = N := by omega
      have HJ := Lib.hid hjN
      clear hjN
      go_wp2_with fail
      go_ret2
      exact ⟨by rw [← HJ.out]; rfl, hbl⟩

set_option maxRecDepth 100000 in
set_option maxHeartbeats 3200000 in
theorem walkExactLikeliestSigns (a b c p q r : Int) (n : Int) (w : World) (ha : (Lit.int .i64 a).wf = true) (hb : (Lit.int .i64 b).wf = true) (hc : (Lit.int .i64 c).wf = true) (hp : (Lit.int .i64 p).wf = true) (hq : (Lit.int .i64 q).wf = true) (hr : (Lit.int .i64 r).wf = true) (zn : (Lit.int .i64 n).wf = true) :
    Calls Try.prog 3 #[hdn a b c p q r, .int .i64 n] w fun e w' => e = .returned (.bool true) ∧ Below w.heap.size w w' := by
  clear ha hb hc hp hq hr
  obtain ⟨x, ok, hv⟩ := ansLs_form a b c p q r n
  have Hv := Lib.hid hv
  have ZN := Lib.hid zn
  clear hv zn
  have bx := Lib.hid (Box6.new w a b c p q r 25)
  go_enter Try.func3, Try.ntmps3
  go_wp2_with fail
  refine (toHidden_any _ _ _ _ _ _ _).mono ?_
  rintro e w1 ⟨rfl, hb1⟩
  have bx1 := Lib.hid (bx.out.keep hb1)
  go_wp2_with fail
  refine (specLs_any _ _ _ _ _ _ n _ ZN.out).mono ?_
  rw [Hv.out]
  rintro e w2 ⟨rfl, hb2⟩
  obtain ⟨c0, c1, c2, c3, c4, c5, hk⟩ := bx1.out.keep hb2
  go_wp2_with fail
  refine (toHidden_any _ _ _ _ _ _ _).mono ?_
  rintro e w3 ⟨rfl, hb3⟩
  go_wp2_with fail
  refine (implLs_any _ _ _ _ _ _ n _ ZN.out).mono ?_
  rw [Hv.out]
  rintro e w4 ⟨rfl, hb4⟩
  go_wp2_with fail
  go_ret
  exact ⟨rfl, bel_trans (bel_trans (bel_trans (bel_trans (bel_alloc (Below.refl _ _) _) hb1) hb2) hb3) hb4⟩

end Go.Proofs.Ytjfcpbedmdnjcab
