/- Sums over all days: the contract of the model. -/
import Derived.Test.YtjfcpbedmdnjcabDoorHdB
import Derived.Test.YtjfcpbedmdnjcabDoorHdL
namespace Go.Proofs.YtjfcpbedmdnjcabDoor
set_option linter.unusedSimpArgs false
open Go.ChangeShapes Go.WideShapes Go.ChangeAt Go.RowKit
set_option linter.unusedVariables false

/-- The chance of the days of a rank and of signs. -/
def vS (a b c p q r : Int) (s : ByteArray) : Nat → Int := fun k => bth a b c p q r (rkT 100 119 s.size k) s
def lgS (s : ByteArray) (k : Nat) : Nat := 2 ^ (s.size - 1 - k)
theorem vS_in {a b c p q r : Int} (h : inR a b c) (g : inR p q r) (s : ByteArray) (h7 : s.size ≤ 7) (i : Nat) : 0 ≤ vS a b c p q r s i ∧ vS a b c p q r s i ≤ 100000000000000 := by
  have hz := rkT_size 100 119 s.size i
  exact bthK_le h g _ s _ (by omega) (by omega)
theorem sum_vS {a b c p q r : Int} (h : inR a b c) (g : inR p q r) (s : ByteArray) (h7 : s.size ≤ 7) (n : Nat) (hn : n ≤ 256) : 0 ≤ sumU (vS a b c p q r s) n ∧ sumU (vS a b c p q r s) n ≤ 25600000000000000 := by
  obtain ⟨x, y⟩ := sumU_in (vS a b c p q r s) 100000000000000 n (fun i _ => vS_in h g s h7 i)
  omega
theorem sum_bit {a b c p q r : Int} (h : inR a b c) (g : inR p q r) (s : ByteArray) (h7 : s.size ≤ 7) (L e n : Nat) (hn : n ≤ 256) : 0 ≤ sumU (bitF (vS a b c p q r s) L e) n ∧ sumU (bitF (vS a b c p q r s) L e) n ≤ 25600000000000000 := by
  obtain ⟨x, y⟩ := sumU_in (bitF (vS a b c p q r s) L e) 100000000000000 n (bitF_in _ _ _ _ _ (by omega) (fun i _ => vS_in h g s h7 i))
  omega
theorem sumU_succ (f : Nat → Int) (n : Nat) : sumU f (n + 1) = sumU f n + f n := rfl
set_option maxRecDepth 100000 in
set_option maxHeartbeats 3200000 in
theorem hdSumA_any (a b c p q r : Int) (s : ByteArray) (k : Nat) (w : World) (hr : inR a b c) (hp : inR p q r) (hs : allG s = true) (h1 : 1 ≤ s.size) (h7 : s.size ≤ 7) :
    Calls Tryd.prog 21 #[hdn a b c p q r, .string s, .int .i64 k, .int .u8 0] w fun e w' => e = .returned (.int .i64 (sumU (vS a b c p q r s) (2 ^ s.size))) ∧ Below w.heap.size w w' := by
  have bx := Lib.hid (Box6.new w a b c p q r 30)
  have HR := Lib.hid hr
  have HP := Lib.hid hp
  have hp8 := pow8 s.size (by omega)
  have hbth : Hid (∀ j, j < 2 ^ s.size → ∀ W : World, Calls Tryd.prog 43 #[hdn a b c p q r, .string (rkT 100 119 s.size j), .string s] W fun e w' => e = .returned (.int .i64 (vS a b c p q r s j)) ∧ Below W.heap.size W w') := Lib.hid (fun j hj W => by
    have hz := rkT_size 100 119 s.size j
    exact hdBoth_any a b c p q r _ s W hr hp (rkT_days _ _ hj) hs (by omega) (by omega) (by omega))
  have hlen := Lib.hid (allDy_len s.size)
  clear hr hp hs
  go_enter Tryd.func21, Tryd.ntmps21
  go_wp2_with fail
  refine (cnAll_any s.size _ (by omega)).mono ?_
  rintro e w1 ⟨v, rfl, hR, hb1⟩
  have bx1 := Lib.hid (bx.out.keep hb1)
  have bl1 := bel_trans (bel_alloc (Below.refl _ w) _) hb1
  clear hb1
  rcases hR.form with ⟨hx, _⟩ | ⟨hx, g, cap, rfl, hbg, hgl, hlc, hcm⟩
  · have := hlen.out
    rw [hx] at this
    simp at this
    have := Nat.pow_pos (n := s.size) (show 0 < 2 by omega)
    omega
  have HRw := Lib.hid hR
  clear hR hx hbg
  generalize hN : (allDy s.size).length = N at *
  have HN := Lib.hid (hN.trans rfl)
  have hNe : N = 2 ^ s.size := hlen.out
  have HNe := Lib.hid hNe
  rw [← hNe] at hp8
  clear hN hNe
  go_wp2_with fail
  go_loopw [9, 16] (fun x i wr => ∃ j : Nat, j ≤ N ∧ i = .int .i64 j ∧ x = .int .i64 (sumU (vS a b c p q r s) j) ∧ Hid (Box6 wr w.heap.size a b c p q r) ∧ Hid (SRow wr (w.heap.size + 1) (.slice (some ⟨g, 0, none⟩) N cap) (allDy s.size)) ∧ Below w.heap.size w wr) (fun _ i _ => N - (intOf i).toNat)
  case atStart => exact ⟨0, by omega, rfl, rfl, bx1, by simpa using HRw, bl1⟩
  case round =>
    obtain ⟨j, hj, rfl, rfl, hbx, hrow, hbl⟩ := hrel
    obtain ⟨wa, rfl⟩ : ∃ wa : World, wa = wr := ⟨_, rfl⟩
    obtain ⟨b0, b1⟩ := sum_vS HR.out HP.out s (by omega) j (by omega)
    by_cases hlt : j < N
    · obtain ⟨b2, b3⟩ := sum_vS HR.out HP.out s (by omega) (j + 1) (by omega)
      rw [sumU_succ] at b2 b3
      have hss := Lib.hid (sumU_succ (vS a b c p q r s) j)
      have hj2 : j < 2 ^ s.size := by rw [← HNe.out]; exact hlt
      have hb := Lib.hid (hbth.out j hj2)
      have hr0 := hrow.out
      rw [← HN.out] at hr0
      have c0 := hr0.at_ j (by rw [HN.out]; exact hlt)
      rw [allDy_at _ _ hj2] at c0
      have hz := rkT_size 100 119 s.size j
      obtain ⟨d0, d1, d2, d3, d4, d5, d6⟩ := hbx.out
      clear hr0
      generalize rkT 100 119 s.size j = T at *
      obtain ⟨V, hV⟩ : ∃ V, V = vS a b c p q r s j := ⟨_, rfl⟩
      rw [← hV] at hb hss b2 b3
      clear hV hz
      go_wp2_with fail
      refine (hb.out _).mono ?_
      rintro e w2 ⟨rfl, hb2⟩
      have hbx2 := Lib.hid (hbx.out.keep hb2)
      have hrow2 := Lib.hid (hrow.out.below hb2)
      have hbl2 := bel_trans hbl hb2
      clear hb2 d0 d1 d2 d3 d4 d5 d6 c0
      go_wp2_with fail
      exact ⟨⟨j + 1, by omega, by go_num, by rw [hss.out], hbx2, hrow2, hbl2⟩, by simp [intOf]; omega⟩
    · have hjN : j = N := by omega
      have HJ := Lib.hid (hjN.trans HNe.out)
      clear hjN
      go_wp2_with fail
      go_ret
      exact ⟨by rw [← HJ.out]; rfl, hbl⟩
set_option maxRecDepth 100000 in
set_option maxHeartbeats 3200000 in
theorem hdSum0_any (a b c p q r : Int) (s : ByteArray) (k : Nat) (w : World) (hr : inR a b c) (hp : inR p q r) (hs : allG s = true) (h1 : 1 ≤ s.size) (h7 : s.size ≤ 7) (hk : k < s.size) :
    Calls Tryd.prog 21 #[hdn a b c p q r, .string s, .int .i64 k, .int .u8 100] w fun e w' => e = .returned (.int .i64 (sumU (bitF (vS a b c p q r s) (lgS s k) 0) (2 ^ s.size))) ∧ Below w.heap.size w w' := by
  have bx := Lib.hid (Box6.new w a b c p q r 30)
  have HR := Lib.hid hr
  have HP := Lib.hid hp
  have hp8 := pow8 s.size (by omega)
  have hbth : Hid (∀ j, j < 2 ^ s.size → ∀ W : World, Calls Tryd.prog 43 #[hdn a b c p q r, .string (rkT 100 119 s.size j), .string s] W fun e w' => e = .returned (.int .i64 (vS a b c p q r s j)) ∧ Below W.heap.size W w') := Lib.hid (fun j hj W => by
    have hz := rkT_size 100 119 s.size j
    exact hdBoth_any a b c p q r _ s W hr hp (rkT_days _ _ hj) hs (by omega) (by omega) (by omega))
  have hlen := Lib.hid (allDy_len s.size)
  clear hr hp hs
  go_enter Tryd.func21, Tryd.ntmps21
  go_wp2_with fail
  refine (cnAll_any s.size _ (by omega)).mono ?_
  rintro e w1 ⟨v, rfl, hR, hb1⟩
  have bx1 := Lib.hid (bx.out.keep hb1)
  have bl1 := bel_trans (bel_alloc (Below.refl _ w) _) hb1
  clear hb1
  rcases hR.form with ⟨hx, _⟩ | ⟨hx, g, cap, rfl, hbg, hgl, hlc, hcm⟩
  · have := hlen.out
    rw [hx] at this
    simp at this
    have := Nat.pow_pos (n := s.size) (show 0 < 2 by omega)
    omega
  have HRw := Lib.hid hR
  clear hR hx hbg
  generalize hN : (allDy s.size).length = N at *
  have HN := Lib.hid (hN.trans rfl)
  have hNe : N = 2 ^ s.size := hlen.out
  have HNe := Lib.hid hNe
  rw [← hNe] at hp8
  clear hN hNe
  go_wp2_with fail
  go_loopw [9, 16] (fun x i wr => ∃ j : Nat, j ≤ N ∧ i = .int .i64 j ∧ x = .int .i64 (sumU (bitF (vS a b c p q r s) (lgS s k) 0) j) ∧ Hid (Box6 wr w.heap.size a b c p q r) ∧ Hid (SRow wr (w.heap.size + 1) (.slice (some ⟨g, 0, none⟩) N cap) (allDy s.size)) ∧ Below w.heap.size w wr) (fun _ i _ => N - (intOf i).toNat)
  case atStart => exact ⟨0, by omega, rfl, rfl, bx1, by simpa using HRw, bl1⟩
  case round =>
    obtain ⟨j, hj, rfl, rfl, hbx, hrow, hbl⟩ := hrel
    obtain ⟨wa, rfl⟩ : ∃ wa : World, wa = wr := ⟨_, rfl⟩
    obtain ⟨b0, b1⟩ := sum_bit HR.out HP.out s (by omega) (lgS s k) 0 j (by omega)
    by_cases hlt : j < N
    · obtain ⟨b2, b3⟩ := sum_bit HR.out HP.out s (by omega) (lgS s k) 0 (j + 1) (by omega)
      rw [sumU_succ] at b2 b3
      have hss := Lib.hid (sumU_succ (bitF (vS a b c p q r s) (lgS s k) 0) j)
      have hj2 : j < 2 ^ s.size := by rw [← HNe.out]; exact hlt
      have hb := Lib.hid (hbth.out j hj2)
      have hr0 := hrow.out
      rw [← HN.out] at hr0
      have c0 := hr0.at_ j (by rw [HN.out]; exact hlt)
      rw [allDy_at _ _ hj2] at c0
      have hz := rkT_size 100 119 s.size j
      obtain ⟨d0, d1, d2, d3, d4, d5, d6⟩ := hbx.out
      clear hr0
      have hkT : k < (rkT 100 119 s.size j).size := by rw [hz]; exact hk
      have hsg := rkT_sgn 100 119 s.size j k hk
      rw [← sgn_at _ k hkT] at hsg
      by_cases hbit : j / lgS s k % 2 = 0
      · rw [show (if j / 2 ^ (s.size - 1 - k) % 2 = 0 then (100 : UInt8) else 119) = 100 from by unfold lgS at hbit; rw [hbit]; rfl] at hsg
        rw [show bitF (vS a b c p q r s) (lgS s k) 0 j = vS a b c p q r s j from by unfold bitF; rw [if_pos hbit]] at hss b2 b3
        change ((rkT 100 119 s.size j)[k].toNat : Int) = 100 at hsg
        generalize rkT 100 119 s.size j = T at *
        obtain ⟨V, hV⟩ : ∃ V, V = vS a b c p q r s j := ⟨_, rfl⟩
        rw [← hV] at hb hss b2 b3
        clear hV hz hbit
        go_wp2_with fail
        refine (hb.out _).mono ?_
        rintro e w2 ⟨rfl, hb2⟩
        have hbx2 := Lib.hid (hbx.out.keep hb2)
        have hrow2 := Lib.hid (hrow.out.below hb2)
        have hbl2 := bel_trans hbl hb2
        clear hb2 d0 d1 d2 d3 d4 d5 d6 c0
        go_wp2_with fail
        exact ⟨⟨j + 1, by omega, by go_num, by rw [hss.out], hbx2, hrow2, hbl2⟩, by simp [intOf]; omega⟩
      · have hb2 : j / 2 ^ (s.size - 1 - k) % 2 = 1 := by unfold lgS at hbit; omega
        rw [show (if j / 2 ^ (s.size - 1 - k) % 2 = 0 then (100 : UInt8) else 119) = 119 from by rw [hb2]; rfl] at hsg
        rw [show bitF (vS a b c p q r s) (lgS s k) 0 j = 0 from by unfold bitF; rw [if_neg hbit]] at hss b2 b3
        change ((rkT 100 119 s.size j)[k].toNat : Int) = 119 at hsg
        generalize rkT 100 119 s.size j = T at *
        clear hz hbit hb2
        go_wp2_with fail
        exact ⟨⟨j + 1, by omega, by go_num, by rw [hss.out, Int.add_zero], hbx, hrow, hbl⟩, by simp [intOf]; omega⟩
    · have hjN : j = N := by omega
      have HJ := Lib.hid (hjN.trans HNe.out)
      clear hjN
      go_wp2_with fail
      go_ret
      exact ⟨by rw [← HJ.out]; rfl, hbl⟩
set_option maxRecDepth 100000 in
set_option maxHeartbeats 3200000 in
theorem hdSum1_any (a b c p q r : Int) (s : ByteArray) (k : Nat) (w : World) (hr : inR a b c) (hp : inR p q r) (hs : allG s = true) (h1 : 1 ≤ s.size) (h7 : s.size ≤ 7) (hk : k < s.size) :
    Calls Tryd.prog 21 #[hdn a b c p q r, .string s, .int .i64 k, .int .u8 119] w fun e w' => e = .returned (.int .i64 (sumU (bitF (vS a b c p q r s) (lgS s k) 1) (2 ^ s.size))) ∧ Below w.heap.size w w' := by
  have bx := Lib.hid (Box6.new w a b c p q r 30)
  have HR := Lib.hid hr
  have HP := Lib.hid hp
  have hp8 := pow8 s.size (by omega)
  have hbth : Hid (∀ j, j < 2 ^ s.size → ∀ W : World, Calls Tryd.prog 43 #[hdn a b c p q r, .string (rkT 100 119 s.size j), .string s] W fun e w' => e = .returned (.int .i64 (vS a b c p q r s j)) ∧ Below W.heap.size W w') := Lib.hid (fun j hj W => by
    have hz := rkT_size 100 119 s.size j
    exact hdBoth_any a b c p q r _ s W hr hp (rkT_days _ _ hj) hs (by omega) (by omega) (by omega))
  have hlen := Lib.hid (allDy_len s.size)
  clear hr hp hs
  go_enter Tryd.func21, Tryd.ntmps21
  go_wp2_with fail
  refine (cnAll_any s.size _ (by omega)).mono ?_
  rintro e w1 ⟨v, rfl, hR, hb1⟩
  have bx1 := Lib.hid (bx.out.keep hb1)
  have bl1 := bel_trans (bel_alloc (Below.refl _ w) _) hb1
  clear hb1
  rcases hR.form with ⟨hx, _⟩ | ⟨hx, g, cap, rfl, hbg, hgl, hlc, hcm⟩
  · have := hlen.out
    rw [hx] at this
    simp at this
    have := Nat.pow_pos (n := s.size) (show 0 < 2 by omega)
    omega
  have HRw := Lib.hid hR
  clear hR hx hbg
  generalize hN : (allDy s.size).length = N at *
  have HN := Lib.hid (hN.trans rfl)
  have hNe : N = 2 ^ s.size := hlen.out
  have HNe := Lib.hid hNe
  rw [← hNe] at hp8
  clear hN hNe
  go_wp2_with fail
  go_loopw [9, 16] (fun x i wr => ∃ j : Nat, j ≤ N ∧ i = .int .i64 j ∧ x = .int .i64 (sumU (bitF (vS a b c p q r s) (lgS s k) 1) j) ∧ Hid (Box6 wr w.heap.size a b c p q r) ∧ Hid (SRow wr (w.heap.size + 1) (.slice (some ⟨g, 0, none⟩) N cap) (allDy s.size)) ∧ Below w.heap.size w wr) (fun _ i _ => N - (intOf i).toNat)
  case atStart => exact ⟨0, by omega, rfl, rfl, bx1, by simpa using HRw, bl1⟩
  case round =>
    obtain ⟨j, hj, rfl, rfl, hbx, hrow, hbl⟩ := hrel
    obtain ⟨wa, rfl⟩ : ∃ wa : World, wa = wr := ⟨_, rfl⟩
    obtain ⟨b0, b1⟩ := sum_bit HR.out HP.out s (by omega) (lgS s k) 1 j (by omega)
    by_cases hlt : j < N
    · obtain ⟨b2, b3⟩ := sum_bit HR.out HP.out s (by omega) (lgS s k) 1 (j + 1) (by omega)
      rw [sumU_succ] at b2 b3
      have hss := Lib.hid (sumU_succ (bitF (vS a b c p q r s) (lgS s k) 1) j)
      have hj2 : j < 2 ^ s.size := by rw [← HNe.out]; exact hlt
      have hb := Lib.hid (hbth.out j hj2)
      have hr0 := hrow.out
      rw [← HN.out] at hr0
      have c0 := hr0.at_ j (by rw [HN.out]; exact hlt)
      rw [allDy_at _ _ hj2] at c0
      have hz := rkT_size 100 119 s.size j
      obtain ⟨d0, d1, d2, d3, d4, d5, d6⟩ := hbx.out
      clear hr0
      have hkT : k < (rkT 100 119 s.size j).size := by rw [hz]; exact hk
      have hsg := rkT_sgn 100 119 s.size j k hk
      rw [← sgn_at _ k hkT] at hsg
      by_cases hbit : j / lgS s k % 2 = 1
      · rw [show (if j / 2 ^ (s.size - 1 - k) % 2 = 0 then (100 : UInt8) else 119) = 119 from by unfold lgS at hbit; rw [hbit]; rfl] at hsg
        rw [show bitF (vS a b c p q r s) (lgS s k) 1 j = vS a b c p q r s j from by unfold bitF; rw [if_pos hbit]] at hss b2 b3
        change ((rkT 100 119 s.size j)[k].toNat : Int) = 119 at hsg
        generalize rkT 100 119 s.size j = T at *
        obtain ⟨V, hV⟩ : ∃ V, V = vS a b c p q r s j := ⟨_, rfl⟩
        rw [← hV] at hb hss b2 b3
        clear hV hz hbit
        go_wp2_with fail
        refine (hb.out _).mono ?_
        rintro e w2 ⟨rfl, hb2⟩
        have hbx2 := Lib.hid (hbx.out.keep hb2)
        have hrow2 := Lib.hid (hrow.out.below hb2)
        have hbl2 := bel_trans hbl hb2
        clear hb2 d0 d1 d2 d3 d4 d5 d6 c0
        go_wp2_with fail
        exact ⟨⟨j + 1, by omega, by go_num, by rw [hss.out], hbx2, hrow2, hbl2⟩, by simp [intOf]; omega⟩
      · have hb2 : j / 2 ^ (s.size - 1 - k) % 2 = 0 := by unfold lgS at hbit; omega
        rw [show (if j / 2 ^ (s.size - 1 - k) % 2 = 0 then (100 : UInt8) else 119) = 100 from by rw [hb2]; rfl] at hsg
        rw [show bitF (vS a b c p q r s) (lgS s k) 1 j = 0 from by unfold bitF; rw [if_neg hbit]] at hss b2 b3
        change ((rkT 100 119 s.size j)[k].toNat : Int) = 100 at hsg
        generalize rkT 100 119 s.size j = T at *
        clear hz hbit hb2
        go_wp2_with fail
        exact ⟨⟨j + 1, by omega, by go_num, by rw [hss.out, Int.add_zero], hbx, hrow, hbl⟩, by simp [intOf]; omega⟩
    · have hjN : j = N := by omega
      have HJ := Lib.hid (hjN.trans HNe.out)
      clear hjN
      go_wp2_with fail
      go_ret
      exact ⟨by rw [← HJ.out]; rfl, hbl⟩
end Go.Proofs.YtjfcpbedmdnjcabDoor
