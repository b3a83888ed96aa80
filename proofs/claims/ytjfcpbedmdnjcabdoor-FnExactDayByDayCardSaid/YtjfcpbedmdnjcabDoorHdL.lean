/- All texts of so many days: the contract of the model. -/
import Derived.Test.YtjfcpbedmdnjcabDoorHdP
import Derived.Test.YtjfcpbedmdnjcabDoorSPush
namespace Go.Proofs.YtjfcpbedmdnjcabDoor
set_option linter.unusedSimpArgs false
open Go.ChangeShapes Go.WideShapes Go.ChangeAt Go.RowKit
set_option linter.unusedVariables false

set_option maxRecDepth 100000 in
set_option maxHeartbeats 3200000 in
theorem cnAll_any (n : Nat) (w : World) (hn : n ≤ 8) : Calls Tryd.prog 42 #[.int .i64 n] w (RowS (allDy n) w) := by
  have h0 := Lib.hid (SRow.lit1 w ByteArray.empty)
  have hbl0 := bel_alloc (Below.refl _ w) (.cells #[.string ByteArray.empty] 9)
  go_enter Tryd.func42, Tryd.ntmps42
  go_wp2_with fail
  go_loopw [0, 3] (fun x v wr => ∃ k : Nat, k ≤ n ∧ x = .int .i64 ((n - k : Nat) : Int) ∧ Hid (SRow wr w.heap.size v (allDy k)) ∧ Below w.heap.size w wr) (fun x _ _ => (intOf x).toNat)
  case atStart => exact ⟨0, by omega, rfl, h0.out, hbl0⟩
  case round =>
    obtain ⟨k, hk, rfl, hR, hb⟩ := hrel
    obtain ⟨wa, rfl⟩ : ∃ wa : World, wa = wr := ⟨_, rfl⟩
    have hsa := hb.size
    by_cases hlt : k < n
    · have hl := allDy_len k
      have hp := pow8 k (by omega)
      have hpos := dy_pos k
      have hm := Lib.hid (fun x hx => (allDy_mem k x hx).1)
      obtain ⟨m, hm1⟩ : ∃ m, n - k = m + 1 := ⟨n - k - 1, by omega⟩
      have hm2 : n - (k + 1) = m := by omega
      rw [show ((n - k : Nat) : Int) = (m : Int) + 1 from by omega]
      have Hm2 := Lib.hid hm2
      have hm12 : m ≤ 8 := by omega
      have hm0 : (0 : Int) < (m : Int) + 1 := by omega
      clear hm1 hm2
      have hnx : Hid (dubD (allDy k) = allDy (k + 1)) := rfl
      rcases hR.out.form with ⟨hx, _⟩ | ⟨hx, g, cap, rfl, hbg, hgl, hlc, hcm⟩
      · rw [hx] at hpos; simp at hpos
      rw [← hl] at hp
      clear hl
      have HR := Lib.hid hR.out
      clear hR
      generalize allDy k = xs at *
      generalize hN : xs.length = N at *
      have HN := Lib.hid hN
      clear hN hx
      go_wp2_with fail
      go_loopw [4, 14] (fun u x wr => ∃ i : Nat, i ≤ N ∧ x = .int .i64 i ∧ Hid (SRow wr wa.heap.size u (dubD (xs.take i))) ∧ Below wa.heap.size wa wr) (fun _ x _ => N - (intOf x).toNat)
      case atStart => exact ⟨0, by omega, rfl, World.ownsRow_nil _ _ _ _, Below.refl _ _⟩
      case round =>
        obtain ⟨i, hi, rfl, hU, hb2⟩ := hrel
        obtain ⟨wc, rfl⟩ : ∃ wc : World, wc = wr := ⟨_, rfl⟩
        have hsc := hb2.size
        by_cases hlt2 : i < N
        · have hrow := HR.out.below hb2
          rw [← HN.out] at hrow
          have c0 := hrow.at_ i (by rw [HN.out]; exact hlt2)
          have hms := hm.out _ (show xs.getD i ByteArray.empty ∈ xs from by rw [List.getD_eq_getElem?_getD, List.getElem?_eq_getElem (by rw [HN.out]; exact hlt2)]; exact List.getElem_mem _)
          have hdt := Lib.hid (dubD_take xs i (by rw [HN.out]; exact hlt2))
          have hdl := dubD_len (xs.take i)
          rw [List.length_take, HN.out, Nat.min_eq_left (by omega)] at hdl
          generalize xs.getD i ByteArray.empty = x at *
          have t1 : ¬ 9223372036854775807 < x.size + 1 := by omega
          have Hms := Lib.hid hms
          have hdl2 : (dubD (xs.take i)).length + 2 ≤ 1000000 := by omega
          have Hdl := Lib.hid hdl2
          clear hrow hms hdl hdl2
          go_wp2_with (at_builtin; refine wpList_pushS2 _ _ rfl (.tmp 18) (.tmp 23) rfl _ _ _ hU.out Hdl.out hsc rfl rfl ?_)
          intro v' w3 hI3 hb3
          have Hlt := Lib.hid hI3
          go_wp2_with fail
          exact ⟨⟨i + 1, by omega, by go_num, by rw [hdt.out]; exact hI3, hb2.trans hb3⟩, by simp [intOf]; omega⟩
        · obtain rfl : i = N := by omega
          have hfin := hU.out
          rw [List.take_of_length_le (by rw [HN.out]; exact Nat.le_refl _), hnx.out] at hfin
          have Hfin := Lib.hid (hfin.mono hsa)
          clear hfin
          go_wp2_with fail
          exact ⟨⟨k + 1, by omega, by rw [Hm2.out], Hfin, bel_trans hb hb2⟩, by simp [intOf]⟩
    · obtain rfl : k = n := by omega
      rw [Nat.sub_self]
      go_wp2_with fail
      go_ret
      exact ⟨_, rfl, hR.out, hb⟩
end Go.Proofs.YtjfcpbedmdnjcabDoor
