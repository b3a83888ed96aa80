/- All texts of so many tosses: the contracts of the program and of its model. -/
import Derived.Test.YtdfjfojkheikiaaDoorSPush
import Derived.Test.YtdfjfojkheikiaaDoorPt
namespace Go.Proofs.YtdfjfojkheikiaaDoor
set_option linter.unusedSimpArgs false
open Go.ChangeShapes Go.WideShapes Go.ChangeAt Go.RowKit
set_option linter.unusedVariables false

def dubS (l : List ByteArray) : List ByteArray := l.flatMap fun t => [t ++ ⟨#[104]⟩, t ++ ⟨#[116]⟩]
def allTx : Nat → List ByteArray
  | 0 => [ByteArray.empty]
  | n + 1 => dubS (allTx n)
theorem dubS_len (l : List ByteArray) : (dubS l).length = 2 * l.length := by
  unfold dubS
  induction l with
  | nil => rfl
  | cons a l ih => rw [List.flatMap_cons, List.length_append, ih]; simp; omega
theorem dubS_take (l : List ByteArray) (k : Nat) (hk : k < l.length) : dubS (l.take (k + 1)) = dubS (l.take k) ++ [l.getD k ByteArray.empty ++ ⟨#[104]⟩, l.getD k ByteArray.empty ++ ⟨#[116]⟩] := by
  unfold dubS
  rw [List.take_succ_eq_append_getElem hk, List.flatMap_append, List.getD_eq_getElem?_getD, List.getElem?_eq_getElem hk]
  simp
theorem allTx_len : ∀ n, (allTx n).length = 2 ^ n
  | 0 => rfl
  | n + 1 => by rw [allTx, dubS_len, allTx_len n, Nat.pow_succ]; omega
theorem mem_dub {l : List ByteArray} {x : ByteArray} : x ∈ dubS l ↔ ∃ t ∈ l, x = t ++ ⟨#[104]⟩ ∨ x = t ++ ⟨#[116]⟩ := by
  unfold dubS
  simp [List.mem_flatMap]
theorem allTx_mem : ∀ (n : Nat) (x : ByteArray), x ∈ allTx n → x.size = n ∧ allT x = true
  | 0, x, h => by
    simp [allTx] at h
    subst h
    exact ⟨rfl, rfl⟩
  | n + 1, x, h => by
    rw [allTx, mem_dub] at h
    obtain ⟨t, ht, e⟩ := h
    obtain ⟨a, b⟩ := allTx_mem n t ht
    rcases e with rfl | rfl
    · refine ⟨by rw [ByteArray.size_append, a]; rfl, ?_⟩
      unfold allT at *
      simp [b, tosB]
    · refine ⟨by rw [ByteArray.size_append, a]; rfl, ?_⟩
      unfold allT at *
      simp [b, tosB]
theorem pow12 (k : Nat) (h : k ≤ 12) : 2 ^ k ≤ 4096 := by
  have : 2 ^ k ≤ 2 ^ 12 := Nat.pow_le_pow_right (by omega) h
  simpa using this
theorem tx_pos (k : Nat) : 0 < (allTx k).length := by rw [allTx_len]; exact Nat.pow_pos (by omega)
set_option maxRecDepth 100000 in
set_option maxHeartbeats 3200000 in
theorem allTosses_any (n : Nat) (w : World) (hn : n ≤ 12) : Calls Tryd.prog 27 #[.int .i64 n] w (RowS (allTx n) w) := by
  have h0 := Lib.hid (SRow.lit1 w ByteArray.empty)
  have hbl0 := bel_alloc (Below.refl _ w) (.cells #[.string ByteArray.empty] 9)
  go_enter Tryd.func27, Tryd.ntmps27
  go_wp2_with fail
  go_loopw [3, 9] (fun v x wr => ∃ k : Nat, k ≤ n ∧ x = .int .i64 k ∧ Hid (SRow wr w.heap.size v (allTx k)) ∧ Below w.heap.size w wr) (fun _ x _ => n - (intOf x).toNat)
  case atStart => exact ⟨0, by omega, rfl, h0.out, hbl0⟩
  case round =>
    obtain ⟨k, hk, rfl, hR, hb⟩ := hrel
    obtain ⟨wa, rfl⟩ : ∃ wa : World, wa = wr := ⟨_, rfl⟩
    have hsa := hb.size
    by_cases hlt : k < n
    · have hl := allTx_len k
      have hp := pow12 k (by omega)
      have hpos := tx_pos k
      have hm := Lib.hid (fun x hx => (allTx_mem k x hx).1)
      have hnx : Hid (dubS (allTx k) = allTx (k + 1)) := rfl
      rcases hR.out.form with ⟨hx, _⟩ | ⟨hx, g, cap, rfl, hbg, hgl, hlc, hcm⟩
      · rw [hx] at hpos; simp at hpos
      rw [← hl] at hp
      clear hl
      have HR := Lib.hid hR.out
      clear hR
      generalize allTx k = xs at *
      generalize hN : xs.length = N at *
      have HN := Lib.hid hN
      clear hN hx
      go_wp2_with fail
      go_loopw [4, 13] (fun u x wr => ∃ i : Nat, i ≤ N ∧ x = .int .i64 i ∧ Hid (SRow wr wa.heap.size u (dubS (xs.take i))) ∧ Below wa.heap.size wa wr) (fun _ x _ => N - (intOf x).toNat)
      case atStart => exact ⟨0, by omega, rfl, World.ownsRow_nil _ _ _ _, Below.refl _ _⟩
      case round =>
        obtain ⟨i, hi, rfl, hU, hb2⟩ := hrel
        obtain ⟨wc, rfl⟩ : ∃ wc : World, wc = wr := ⟨_, rfl⟩
        have hsc := hb2.size
        by_cases hlt2 : i < N
        · have hrow := HR.out.below hb2
          rw [← HN.out] at hrow
          have c0 := hrow.at_ i (by rw [HN.out]; exact hlt2)
          have hms := hm.out _ (show xs.getD i ByteArray.empty ∈ xs from by rw [List.getD_eq_getElem?_getD, List.getElem?_eq_getElem (by rw [HN.out]; exact hlt2)]; exact List.getElem_mem _)
          have hdt := Lib.hid (dubS_take xs i (by rw [HN.out]; exact hlt2))
          have hdl := dubS_len (xs.take i)
          rw [List.length_take, HN.out, Nat.min_eq_left (by omega)] at hdl
          generalize xs.getD i ByteArray.empty = x at *
          have t1 : ¬ 9223372036854775807 < x.size + 1 := by omega
          have Hms := Lib.hid hms
          have hdl2 : (dubS (xs.take i)).length + 2 ≤ 1000000 := by omega
          have Hdl := Lib.hid hdl2
          clear hrow hms hdl hdl2
          go_wp2_with (at_builtin; refine wpList_pushS2 _ _ rfl (.tmp 17) (.tmp 22) rfl _ _ _ hU.out Hdl.out hsc rfl rfl ?_)
          intro v' w3 hI3 hb3
          have Hlt := Lib.hid hI3
          go_wp2_with fail
          exact ⟨⟨i + 1, by omega, by go_num, by rw [hdt.out]; exact hI3, hb2.trans hb3⟩, by simp [intOf]; omega⟩
        · obtain rfl : i = N := by omega
          have hfin := hU.out
          rw [List.take_of_length_le (by rw [HN.out]; exact Nat.le_refl _), hnx.out] at hfin
          have Hfin := Lib.hid (hfin.mono hsa)
          clear hfin
          go_wp2_with fail
          exact ⟨⟨k + 1, by omega, by go_num, Hfin, bel_trans hb hb2⟩, by simp [intOf]; omega⟩
    · obtain rfl : k = n := by omega
      go_wp2_with fail
      go_ret
      exact ⟨_, rfl, hR.out, hb⟩
end Go.Proofs.YtdfjfojkheikiaaDoor
