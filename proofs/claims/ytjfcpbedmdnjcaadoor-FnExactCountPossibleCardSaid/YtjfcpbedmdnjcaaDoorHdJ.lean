/- LikeliestHidden: the contracts of the program and of its model, and the walk. -/
import Derived.Test.YtjfcpbedmdnjcaaDoorHdI
namespace Go.Proofs.YtjfcpbedmdnjcaaDoor
set_option linter.unusedSimpArgs false
open Go.ChangeShapes Go.WideShapes Go.ChangeAt Go.RowKit
set_option linter.unusedVariables false

def lkT (n : Nat) (f : Nat → Int) (j : Nat) : ByteArray := if 0 < topV f j then rkT 100 119 n (topR f j) else ⟨#[]⟩
theorem lkT_yes {n : Nat} {f : Nat → Int} {j : Nat} (h : topV f j < f j) : lkT n f (j + 1) = rkT 100 119 n j ∧ topV f (j + 1) = f j := by
  have := (topV_ge f j).1
  have e : topV f (j + 1) = f j := by unfold topV; rw [if_pos h]
  refine ⟨?_, e⟩
  unfold lkT
  rw [e, if_pos (by omega)]
  unfold topR
  rw [if_pos h]
theorem lkT_no {n : Nat} {f : Nat → Int} {j : Nat} (h : ¬ topV f j < f j) : lkT n f (j + 1) = lkT n f j ∧ topV f (j + 1) = topV f j := by
  have e : topV f (j + 1) = topV f j := by conv => lhs; unfold topV; rw [if_neg h]
  refine ⟨?_, e⟩
  have e2 : topR f (j + 1) = topR f j := by conv => lhs; unfold topR; rw [if_neg h]
  unfold lkT
  rw [e, e2]
def ansLk (a b c p q r : Int) (s : ByteArray) : Value := if goodH a b c p q r && signsB s then .tuple #[.string (lkT s.size (vS a b c p q r s) (2 ^ s.size)), .bool (decide (0 < topS a b c p q r s))] else .tuple #[.string ⟨#[]⟩, .bool false]
theorem ansLk_form (a b c p q r : Int) (s : ByteArray) : ∃ (x : ByteArray) (o : Bool), ansLk a b c p q r s = .tuple #[.string x, .bool o] := by
  unfold ansLk
  split
  · exact ⟨_, _, rfl⟩
  · exact ⟨_, _, rfl⟩

set_option maxRecDepth 100000 in
set_option maxHeartbeats 3200000 in
theorem specLk_any (a b c p q r : Int) (s : ByteArray) (w : World) (hs : s.size ≤ maxLen) :
    Calls Tryd.prog 23 #[hdn a b c p q r, .string s] w fun e w' => e = .returned (ansLk a b c p q r s) ∧ Below w.heap.size w w' := by
  have HS := Lib.hid hs
  have bx := Lib.hid (Box6.new w a b c p q r 31)
  cases h : (goodH a b c p q r && signsB s)
  · rw [show ansLk a b c p q r s = .tuple #[.string ⟨#[]⟩, .bool false] from by unfold ansLk; rw [h]; rfl]
    go_enter Tryd.func23, Tryd.ntmps23
    go_wp2_with fail
    refine (hdAsked_any _ _ _ _ _ _ s _ HS.out).mono ?_
    rintro e w1 ⟨rfl, hb1⟩
    rw [h]
    go_wp2_with fail
    go_ret2
    exact ⟨rfl, bel_trans (bel_alloc (Below.refl _ _) _) hb1⟩
  · have h' := h
    rw [Bool.and_eq_true] at h'
    obtain ⟨hr, hp⟩ := goodH_in h'.1
    obtain ⟨h1, h6, ha⟩ := signs_in h'.2
    have c1 : 1 ≤ c ∧ c ≤ 10 ∧ 1 ≤ r ∧ r ≤ 10 := by unfold inR at hr hp; omega
    obtain ⟨c1, c2, c3, c4⟩ := c1
    have hp8 := pow8 s.size (by omega)
    have hbth : Hid (∀ j : Nat, j < 2 ^ s.size → ∀ W : World, Calls Tryd.prog 36 #[hdn a b c p q r, .string (rkT 100 119 s.size j), .string s] W fun e w' => e = .returned (.int .i64 (vS a b c p q r s j)) ∧ Below W.heap.size W w') := Lib.hid (fun j hj W => by
      have hz := rkT_size 100 119 s.size j
      exact hdBoth_any a b c p q r _ s W hr hp (rkT_days _ _ hj) ha (by omega) (by omega) (by omega))
    have hV : Hid (∀ j, 0 ≤ vS a b c p q r s j ∧ vS a b c p q r s j ≤ 100000000000000) := Lib.hid (fun j => vS_in hr hp s (by omega) j)
    have hlen := Lib.hid (allDy_len s.size)
    rw [show ansLk a b c p q r s = .tuple #[.string (lkT s.size (vS a b c p q r s) (2 ^ s.size)), .bool (decide (0 < topS a b c p q r s))] from by unfold ansLk; rw [h]; rfl]
    have hfin : Hid (topS a b c p q r s = topV (vS a b c p q r s) (2 ^ s.size)) := Lib.hid rfl
    obtain ⟨f, hf⟩ : ∃ f, f = vS a b c p q r s := ⟨_, rfl⟩
    rw [← hf] at hbth hV hfin ⊢
    clear hf
    clear hr hp ha h' c1 c2 c3 c4
    go_enter Tryd.func23, Tryd.ntmps23
    go_wp2_with fail
    refine (hdAsked_any _ _ _ _ _ _ s _ HS.out).mono ?_
    rintro e w1 ⟨rfl, hb1⟩
    rw [h]
    have bx1 := Lib.hid (bx.out.keep hb1)
    have bl1 := Lib.hid (bel_trans (bel_alloc (Below.refl _ w) _) hb1)
    obtain ⟨d0, d1, d2, d3, d4, d5, d6⟩ := bx1.out
    clear hb1
    go_wp2_with fail
    refine (cnAll_any s.size _ (by omega)).mono ?_
    rintro e w2 ⟨v, rfl, hR, hb2⟩
    have bx2 := Lib.hid (bx1.out.keep hb2)
    have bl2 := Lib.hid (bel_trans bl1.out hb2)
    clear hb2 d0 d1 d2 d3 d4 d5 d6
    rcases hR.form with ⟨hx, _⟩ | ⟨hx, g, cap, rfl, hbg, hgl, hlc, hcm⟩
    · have := hlen.out
      rw [hx] at this
      simp at this
      have := Nat.pow_pos (n := s.size) (show 0 < 2 by omega)
      omega
    have HRw := Lib.hid hR
    clear hR hx hbg
    generalize hN : (allDy s.size).length = N at *
    have HN := Lib.hid (hN.trans rfl)
    have hNe : N = 2 ^ s.size := hlen.out
    have HNe := Lib.hid hNe
    rw [← hNe] at hp8
    clear hN hNe
    go_wp2_with fail
    go_loopw [6, 7, 19] (fun x y i wr => ∃ j : Nat, j ≤ N ∧ i = .int .i64 j ∧ x = .int .i64 (topV f j) ∧ y = .string (lkT s.size f j) ∧ Hid (Box6 wr w.heap.size a b c p q r) ∧ Hid (SRow wr w1.heap.size (.slice (some ⟨g, 0, none⟩) N cap) (allDy s.size)) ∧ Below w.heap.size w wr) (fun _ _ i _ => N - (intOf i).toNat)
    case atStart => exact ⟨0, by omega, rfl, rfl, rfl, bx2, HRw, bl2.out⟩
    case round =>
      obtain ⟨j, hj, rfl, rfl, rfl, hbx, hrow, hbl⟩ := hrel
      obtain ⟨wa, rfl⟩ : ∃ wa : World, wa = wr := ⟨_, rfl⟩
      by_cases hlt : j < N
      · have hj2 : j < 2 ^ s.size := by rw [← HNe.out]; exact hlt
        have hb := Lib.hid (hbth.out j hj2)
        have hr0 := hrow.out
        rw [← HN.out] at hr0
        have c0 := hr0.at_ j (by rw [HN.out]; exact hlt)
        rw [allDy_at _ _ hj2] at c0
        obtain ⟨d0, d1, d2, d3, d4, d5, d6⟩ := hbx.out
        clear hr0
        have hyes := Lib.hid (@lkT_yes s.size f j)
        have hno := Lib.hid (@lkT_no s.size f j)
        generalize rkT 100 119 s.size j = T at *
        generalize f j = V at *
        generalize topV f j = M at *
        generalize lkT s.size f j = B at *
        by_cases hlt2 : M < V
        · go_wp2_with fail
          refine (hb.out _).mono ?_
          rintro e w3 ⟨rfl, hb3⟩
          have hbx2 := Lib.hid (hbx.out.keep hb3)
          have hrow2 := Lib.hid (hrow.out.below hb3)
          have hbl2 := Lib.hid (bel_trans hbl hb3)
          clear hb3 d0 d1 d2 d3 d4 d5 d6 c0
          go_wp2_with fail
          exact ⟨⟨j + 1, by omega, by go_num, by rw [(hyes.out hlt2).2], by rw [(hyes.out hlt2).1], hbx2, hrow2, hbl2.out⟩, by simp [intOf]; omega⟩
        · have hlt3 : decide (M < V) = false := by simpa using hlt2
          go_wp2_with fail
          refine (hb.out _).mono ?_
          rintro e w3 ⟨rfl, hb3⟩
          have hbx2 := Lib.hid (hbx.out.keep hb3)
          have hrow2 := Lib.hid (hrow.out.below hb3)
          have hbl2 := Lib.hid (bel_trans hbl hb3)
          clear hb3 d0 d1 d2 d3 d4 d5 d6 c0
          go_wp2_with fail
          exact ⟨⟨j + 1, by omega, by go_num, by rw [(hno.out hlt2).2], by rw [(hno.out hlt2).1], hbx2, hrow2, hbl2.out⟩, by simp [intOf]; omega⟩
      · have hjN : j = N := by omega
        have HJ := Lib.hid (hjN.trans HNe.out)
        clear hjN
        go_wp2_with fail
        go_ret2
        exact ⟨by rw [hfin.out, ← HJ.out]; rfl, hbl⟩

set_option maxRecDepth 100000 in
set_option maxHeartbeats 3200000 in
theorem implLk_any (a b c p q r : Int) (s : ByteArray) (w : World) (hs : s.size ≤ maxLen) :
    Calls Tryd.prog 24 #[hdn a b c p q r, .string s] w fun e w' => e = .returned (ansLk a b c p q r s) ∧ Below w.heap.size w w' := by
  have HS := Lib.hid hs
  cases h : (goodH a b c p q r && signsB s)
  · rw [show ansLk a b c p q r s = .tuple #[.string ⟨#[]⟩, .bool false] from by unfold ansLk; rw [h]; rfl]
    go_enter Tryd.func24, Tryd.ntmps24
    go_wp2_with fail
    refine (behind_no a b c p q r s _ HS.out h).mono ?_
    rintro e w1 ⟨rfl, hb1⟩
    go_wp2_with fail
    go_ret2
    exact ⟨rfl, bel_trans (bel_alloc (Below.refl _ _) _) hb1⟩
  · have h' := h
    rw [Bool.and_eq_true] at h'
    obtain ⟨hr, hp⟩ := goodH_in h'.1
    obtain ⟨h1, h6, ha⟩ := signs_in h'.2
    have c1 : 1 ≤ c ∧ c ≤ 10 ∧ 1 ≤ r ∧ r ≤ 10 := by unfold inR at hr hp; omega
    obtain ⟨c1, c2, c3, c4⟩ := c1
    have hB : Hid (∀ W : World, Calls Tryd.prog 48 #[hdn a b c p q r, .string s] W fun e w' => ∃ v, e = .returned (.tuple #[v, .bool (decide (0 < topS a b c p q r s))]) ∧ IRow w' W.heap.size v (allV a b c p q r s) ∧ Below W.heap.size W w') := Lib.hid (fun W => behind_yes a b c p q r s W h'.1 h'.2)
    rcases topS_cases hr hp s (by omega) with ⟨ht, hT⟩ | ⟨ht, hT⟩
    rotate_left
    · rw [show ansLk a b c p q r s = .tuple #[.string ⟨#[]⟩, .bool false] from by unfold ansLk; rw [h, decide_eq_false ht]; unfold lkT; rw [if_neg (show ¬ 0 < topV (vS a b c p q r s) (2 ^ s.size) from ht)]; rfl]
      rw [decide_eq_false ht] at hB
      clear hr hp ha h' c1 c2 c3 c4 ht hT
      go_enter Tryd.func24, Tryd.ntmps24
      go_wp2_with fail
      refine (hB.out _).mono ?_
      rintro e w1 ⟨v, rfl, hR, hb1⟩
      go_wp2_with fail
      go_ret2
      exact ⟨rfl, bel_trans (bel_alloc (Below.refl _ _) _) hb1⟩
    obtain ⟨t1, t2, t3⟩ := topR_is (vS a b c p q r s) (2 ^ s.size) ht
    rw [show ansLk a b c p q r s = .tuple #[.string (rkT 100 119 s.size (topR (vS a b c p q r s) (2 ^ s.size))), .bool true] from by unfold ansLk; rw [h, decide_eq_true ht]; unfold lkT; rw [if_pos (show 0 < topV (vS a b c p q r s) (2 ^ s.size) from ht)]; rfl]
    rw [decide_eq_true ht] at hB
    have hM : Hid (∀ (W : World) (base : Nat) (v : Value), IRow W base v (allV a b c p q r s) → Calls Tryd.prog 55 #[v] W fun e w' => e = .returned (.int .i64 (topS a b c p q r s)) ∧ w' = W) := Lib.hid (fun W base v h => max_any a b c p q r s v base W hr hp (by omega) h)
    have hI : Hid (∀ (W : World) (base : Nat) (v : Value), IRow W base v (allV a b c p q r s) → Calls Tryd.prog 54 #[v, .int .i64 (topS a b c p q r s)] W fun e w' => e = .returned (.int .i64 (topR (vS a b c p q r s) (2 ^ s.size) : Int)) ∧ w' = W) := Lib.hid (fun W base v h => index_any a b c p q r s v base W (by omega) h ht)
    have hX : Hid (∀ W : World, Calls Tryd.prog 56 #[.int .i64 (topR (vS a b c p q r s) (2 ^ s.size) : Int), .int .i64 s.size, .string ⟨#[100, 119]⟩] W fun e w' => e = .returned (.string (rkT 100 119 s.size (topR (vS a b c p q r s) (2 ^ s.size)))) ∧ Below W.heap.size W w') := Lib.hid (fun W => textOfRank_any 100 119 s.size _ W (by omega) t1)
    generalize rkT 100 119 s.size (topR (vS a b c p q r s) (2 ^ s.size)) = T at *
    generalize (topR (vS a b c p q r s) (2 ^ s.size) : Int) = R at *
    generalize topS a b c p q r s = M at *
    generalize allV a b c p q r s = zs at *
    clear hr hp ha h' c1 c2 c3 c4 ht t1 t2 t3 hT
    go_enter Tryd.func24, Tryd.ntmps24
    go_wp2_with fail
    refine (hB.out _).mono ?_
    rintro e w1 ⟨v, rfl, hR, hb1⟩
    have bl1 := Lib.hid (bel_trans (bel_alloc (Below.refl _ w) _) hb1)
    have HR := Lib.hid hR
    clear hb1 hR
    go_wp2_with fail
    refine (hM.out _ _ _ HR.out).mono ?_
    rintro e w2 ⟨rfl, rfl⟩
    go_wp2_with fail
    refine (hI.out _ _ _ HR.out).mono ?_
    rintro e w3 ⟨rfl, rfl⟩
    go_wp2_with fail
    refine (hX.out _).mono ?_
    rintro e w4 ⟨rfl, hb4⟩
    go_wp2_with fail
    go_ret2
    exact ⟨rfl, bel_trans bl1.out hb4⟩

set_option maxRecDepth 100000 in
set_option maxHeartbeats 3200000 in
theorem walkExactLikeliestHidden (a b c p q r : Int) (s : ByteArray) (w : World) (ha : (Lit.int .i64 a).wf = true) (hb : (Lit.int .i64 b).wf = true) (hc : (Lit.int .i64 c).wf = true) (hp : (Lit.int .i64 p).wf = true) (hq : (Lit.int .i64 q).wf = true) (hr : (Lit.int .i64 r).wf = true) (zs : s.size ≤ maxLen) :
    Calls Tryd.prog 8 #[hdn a b c p q r, .string s] w fun e w' => e = .returned (.bool true) ∧ Below w.heap.size w w' := by
  clear ha hb hc hp hq hr
  by_cases ls : s.size ≤ 1048576
  · skip
    obtain ⟨x, ok, hv⟩ := ansLk_form a b c p q r s
    have Zs := Lib.hid zs
    have Hv := Lib.hid hv
    clear hv zs
    have bx := Lib.hid (Box6.new w a b c p q r 26)
    go_enter Tryd.func8, Tryd.ntmps8
    go_wp2_with fail
    refine (toHidden_any _ _ _ _ _ _ _).mono ?_
    rintro e w1 ⟨rfl, hb1⟩
    have bx1 := Lib.hid (bx.out.keep hb1)
    go_wp2_with fail
    refine (specLk_any _ _ _ _ _ _ s _ Zs.out).mono ?_
    rw [Hv.out]
    rintro e w2 ⟨rfl, hb2⟩
    obtain ⟨c0, c1, c2, c3, c4, c5, hk⟩ := bx1.out.keep hb2
    go_wp2_with fail
    refine (toHidden_any _ _ _ _ _ _ _).mono ?_
    rintro e w3 ⟨rfl, hb3⟩
    go_wp2_with fail
    refine (implLk_any _ _ _ _ _ _ s _ Zs.out).mono ?_
    rw [Hv.out]
    rintro e w4 ⟨rfl, hb4⟩
    go_wp2_with fail
    go_ret
    exact ⟨rfl, bel_trans (bel_trans (bel_trans (bel_trans (bel_alloc (Below.refl _ _) _) hb1) hb2) hb3) hb4⟩
  · go_enter Tryd.func8, Tryd.ntmps8
    go_wp2
    go_ret
    exact ⟨rfl, bel_alloc (Below.refl _ _) _⟩

end Go.Proofs.YtjfcpbedmdnjcaaDoor
