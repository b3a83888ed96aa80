/- The longest and the shortest waits: pure part, and the contracts of the model. -/
import Derived.Test.YtdfjfojkheikiaaDoorWait
import Derived.Test.YtdfjfojkheikiaaDoorAllT
namespace Go.Proofs.YtdfjfojkheikiaaDoor
set_option linter.unusedSimpArgs false
open Go.ChangeShapes Go.WideShapes Go.ChangeAt Go.RowKit
set_option linter.unusedVariables false

abbrev noT : ByteArray := ByteArray.empty
/-- The mean wait for a text by a fair coin. -/
def nW (s : ByteArray) : Int := low (waitI 1 2 s (overL s) (overL s).length) (waitI 1 2 s (overL s) (overL s).length) (prA 1 2 s)
theorem coin12 : coinG 1 2 = true := by decide
theorem nW_in (s : ByteArray) (h1 : 1 ≤ s.size) (h8 : s.size ≤ 8) : 0 ≤ nW s ∧ nW s ≤ 800000000 := by
  have hl := overL_len s h1
  obtain ⟨a, b⟩ := waitI_in coin12 s h1 h8 _ (Nat.le_refl (overL s).length)
  obtain ⟨_, c, d⟩ := low_le (waitI 1 2 s (overL s) (overL s).length) (waitI 1 2 s (overL s) (overL s).length) (prA 1 2 s) a (prK_le8 coin12 s s.size h8).1
  unfold nW low
  omega
/-- One number is before another one. -/
def bfr (most : Bool) (a b : Int) : Bool := if most then decide (b < a) else decide (a < b)
/-- The greatest, or the least, of the first j numbers. -/
def bst (most : Bool) (f : Nat → Int) : Nat → Int
  | 0 => 0
  | j + 1 => if j = 0 ∨ bfr most (f j) (bst most f j) = true then f j else bst most f j
theorem bst_is (most : Bool) (f : Nat → Int) : ∀ j, 0 < j → (∃ i, i < j ∧ f i = bst most f j) ∧ ∀ i, i < j → bfr most (f i) (bst most f j) = false
  | 0, h => by omega
  | j + 1, _ => by
    have hlt : ∀ a : Int, bfr most a a = false := fun a => by unfold bfr; cases most <;> simp
    have htr : ∀ a b c : Int, bfr most a b = false → bfr most b c = false → bfr most a c = false := fun a b c h1 h2 => by
      unfold bfr at *; cases most <;> simp at * <;> omega
    have htr2 : ∀ a b c : Int, bfr most a b = true → bfr most c b = false → bfr most c a = false := fun a b c h1 h2 => by
      unfold bfr at *; cases most <;> simp at * <;> omega
    by_cases h0 : j = 0
    · subst h0
      have e : bst most f 1 = f 0 := by simp [bst]
      rw [e]
      exact ⟨⟨0, by omega, rfl⟩, fun i hi => by
        have h0 : i = 0 := by omega
        rw [h0]
        exact hlt _⟩
    · obtain ⟨⟨i0, hi0, e0⟩, hall⟩ := bst_is most f j (by omega)
      by_cases hb : bfr most (f j) (bst most f j) = true
      · have e : bst most f (j + 1) = f j := by simp [bst, hb]
        rw [e]
        refine ⟨⟨j, by omega, rfl⟩, fun i hi => ?_⟩
        rcases Nat.lt_or_ge i j with q | q
        · exact htr2 _ _ _ hb (hall i q)
        · have : i = j := by omega
          subst this; exact hlt _
      · have e : bst most f (j + 1) = bst most f j := by simp [bst, hb, h0]
        rw [e]
        refine ⟨⟨i0, by omega, e0⟩, fun i hi => ?_⟩
        rcases Nat.lt_or_ge i j with q | q
        · exact hall i q
        · have : i = j := by omega
          subst this; simpa using hb
theorem bst_eq {most : Bool} {f : Nat → Int} {n : Nat} (hn : 0 < n) {m : Int} (h1 : ∃ i, i < n ∧ f i = m) (h2 : ∀ i, i < n → bfr most (f i) m = false) : m = bst most f n := by
  obtain ⟨⟨i, hi, e⟩, hall⟩ := bst_is most f n hn
  obtain ⟨k, hk, e2⟩ := h1
  have a := hall k hk
  have b := h2 i hi
  rw [e2] at a
  rw [e] at b
  unfold bfr at a b
  cases most <;> simp at a b <;> omega
def wAt (l : List ByteArray) (j : Nat) : Int := nW (l.getD j noT)
/-- The texts with this wait, of the first j. -/
def grp (l : List ByteArray) (m : Int) (j : Nat) : List ByteArray := (l.take j).filter fun s => decide (nW s = m)
theorem grp_zero (l : List ByteArray) (m : Int) : grp l m 0 = [] := by simp [grp]
theorem grp_yes {l : List ByteArray} {m : Int} {j : Nat} (hj : j < l.length) (h : wAt l j = m) : grp l m (j + 1) = grp l m j ++ [l.getD j noT] := by
  unfold grp wAt at *
  rw [List.take_succ_eq_append_getElem hj, List.filter_append]
  congr 1
  rw [List.getD_eq_getElem?_getD, List.getElem?_eq_getElem hj] at *
  simp only [Option.getD_some] at *
  simp [h]
theorem grp_no {l : List ByteArray} {m : Int} {j : Nat} (hj : j < l.length) (h : wAt l j ≠ m) : grp l m (j + 1) = grp l m j := by
  unfold grp wAt at *
  rw [List.take_succ_eq_append_getElem hj, List.filter_append]
  rw [List.getD_eq_getElem?_getD, List.getElem?_eq_getElem hj] at h
  simp only [Option.getD_some] at h
  simp [h]
theorem grp_len (l : List ByteArray) (m : Int) (j : Nat) : (grp l m j).length ≤ j := by
  unfold grp
  exact Nat.le_trans (List.length_filter_le _ _) (by rw [List.length_take]; omega)
/-- A better one is none of those before. -/
theorem grp_new {most : Bool} {l : List ByteArray} {j : Nat} (hj : j < l.length) (h : j = 0 ∨ bfr most (wAt l j) (bst most (wAt l) j) = true) : grp l (wAt l j) j = [] := by
  rw [List.eq_nil_iff_forall_not_mem]
  intro s hs
  unfold grp at hs
  rw [List.mem_filter] at hs
  obtain ⟨hs, e⟩ := hs
  obtain ⟨i, hi, e2⟩ := List.getElem_of_mem hs
  rw [List.length_take] at hi
  have hij : i < j := by omega
  rcases h with h | h
  · omega
  · have hall := (bst_is most (wAt l) j (by omega)).2 i hij
    have ew : wAt l i = wAt l j := by
      have : l.getD i noT = s := by
        rw [List.getElem_take] at e2
        rw [List.getD_eq_getElem?_getD, List.getElem?_eq_getElem (by omega)]
        exact e2
      unfold wAt at *
      rw [this]
      simpa using e
    rw [ew, h] at hall
    cases hall
/-- Whether nothing is kept yet. -/
theorem grp_some {most : Bool} {l : List ByteArray} {j : Nat} (hj : j ≤ l.length) (h : 0 < j) : 0 < (grp l (bst most (wAt l) j) j).length := by
  obtain ⟨⟨i, hi, e⟩, _⟩ := bst_is most (wAt l) j h
  rw [List.length_pos_iff]
  intro hnil
  have hm : l.getD i noT ∈ grp l (bst most (wAt l) j) j := by
    unfold grp
    rw [List.mem_filter]
    refine ⟨?_, by simpa [wAt] using e⟩
    rw [List.mem_take_iff_getElem]
    exact ⟨i, by omega, by rw [List.getD_eq_getElem?_getD, List.getElem?_eq_getElem (by omega)]; rfl⟩
  rw [hnil] at hm
  cases hm
theorem bst_next {most : Bool} {l : List ByteArray} {j : Nat} (h : j = 0 ∨ bfr most (wAt l j) (bst most (wAt l) j) = true) : bst most (wAt l) (j + 1) = wAt l j := by
  show (if _ then _ else _) = _
  rw [if_pos h]
theorem bst_stay {most : Bool} {l : List ByteArray} {j : Nat} (h0 : j ≠ 0) (h : bfr most (wAt l j) (bst most (wAt l) j) = false) : bst most (wAt l) (j + 1) = bst most (wAt l) j := by
  show (if _ then _ else _) = _
  rw [if_neg (by rw [h]; simp [h0])]

set_option maxRecDepth 100000 in
set_option maxHeartbeats 3200000 in
theorem ptAll_any (n : Nat) (w : World) (hn : n ≤ 12) : Calls Tryd.prog 25 #[.int .i64 n] w (RowS (allTx n) w) := by
  have h0 := Lib.hid (SRow.lit1 w ByteArray.empty)
  have hbl0 := bel_alloc (Below.refl _ w) (.cells #[.string ByteArray.empty] 9)
  go_enter Tryd.func25, Tryd.ntmps25
  go_wp2_with fail
  go_loopw [0, 3] (fun x v wr => ∃ k : Nat, k ≤ n ∧ x = .int .i64 ((n - k : Nat) : Int) ∧ Hid (SRow wr w.heap.size v (allTx k)) ∧ Below w.heap.size w wr) (fun x _ _ => (intOf x).toNat)
  case atStart => exact ⟨0, by omega, rfl, h0.out, hbl0⟩
  case round =>
    obtain ⟨k, hk, rfl, hR, hb⟩ := hrel
    obtain ⟨wa, rfl⟩ : ∃ wa : World, wa = wr := ⟨_, rfl⟩
    have hsa := hb.size
    by_cases hlt : k < n
    · have hl := allTx_len k
      have hp := pow12 k (by omega)
      have hpos := tx_pos k
      have hm := Lib.hid (fun x hx => (allTx_mem k x hx).1)
      obtain ⟨m, hm1⟩ : ∃ m, n - k = m + 1 := ⟨n - k - 1, by omega⟩
      have hm2 : n - (k + 1) = m := by omega
      rw [show ((n - k : Nat) : Int) = (m : Int) + 1 from by omega]
      have Hm2 := Lib.hid hm2
      have hm12 : m ≤ 12 := by omega
      have hm0 : (0 : Int) < (m : Int) + 1 := by omega
      clear hm1 hm2
      have hnx : Hid (dubS (allTx k) = allTx (k + 1)) := rfl
      rcases hR.out.form with ⟨hx, _⟩ | ⟨hx, g, cap, rfl, hbg, hgl, hlc, hcm⟩
      · rw [hx] at hpos; simp at hpos
      rw [← hl] at hp
      clear hl
      have HR := Lib.hid hR.out
      clear hR
      generalize allTx k = xs at *
      generalize hN : xs.length = N at *
      have HN := Lib.hid hN
      clear hN hx
      go_wp2_with fail
      go_loopw [4, 14] (fun u x wr => ∃ i : Nat, i ≤ N ∧ x = .int .i64 i ∧ Hid (SRow wr wa.heap.size u (dubS (xs.take i))) ∧ Below wa.heap.size wa wr) (fun _ x _ => N - (intOf x).toNat)
      case atStart => exact ⟨0, by omega, rfl, World.ownsRow_nil _ _ _ _, Below.refl _ _⟩
      case round =>
        obtain ⟨i, hi, rfl, hU, hb2⟩ := hrel
        obtain ⟨wc, rfl⟩ : ∃ wc : World, wc = wr := ⟨_, rfl⟩
        have hsc := hb2.size
        by_cases hlt2 : i < N
        · have hrow := HR.out.below hb2
          rw [← HN.out] at hrow
          have c0 := hrow.at_ i (by rw [HN.out]; exact hlt2)
          have hms := hm.out _ (show xs.getD i ByteArray.empty ∈ xs from by rw [List.getD_eq_getElem?_getD, List.getElem?_eq_getElem (by rw [HN.out]; exact hlt2)]; exact List.getElem_mem _)
          have hdt := Lib.hid (dubS_take xs i (by rw [HN.out]; exact hlt2))
          have hdl := dubS_len (xs.take i)
          rw [List.length_take, HN.out, Nat.min_eq_left (by omega)] at hdl
          generalize xs.getD i ByteArray.empty = x at *
          have t1 : ¬ 9223372036854775807 < x.size + 1 := by omega
          have Hms := Lib.hid hms
          have hdl2 : (dubS (xs.take i)).length + 2 ≤ 1000000 := by omega
          have Hdl := Lib.hid hdl2
          clear hrow hms hdl hdl2
          go_wp2_with (at_builtin; refine wpList_pushS2 _ _ rfl (.tmp 18) (.tmp 23) rfl _ _ _ hU.out Hdl.out hsc rfl rfl ?_)
          intro v' w3 hI3 hb3
          have Hlt := Lib.hid hI3
          go_wp2_with fail
          exact ⟨⟨i + 1, by omega, by go_num, by rw [hdt.out]; exact hI3, hb2.trans hb3⟩, by simp [intOf]; omega⟩
        · obtain rfl : i = N := by omega
          have hfin := hU.out
          rw [List.take_of_length_le (by rw [HN.out]; exact Nat.le_refl _), hnx.out] at hfin
          have Hfin := Lib.hid (hfin.mono hsa)
          clear hfin
          go_wp2_with fail
          exact ⟨⟨k + 1, by omega, by rw [Hm2.out], Hfin, bel_trans hb hb2⟩, by simp [intOf]⟩
    · obtain rfl : k = n := by omega
      rw [Nat.sub_self]
      go_wp2_with fail
      go_ret
      exact ⟨_, rfl, hR.out, hb⟩
end Go.Proofs.YtdfjfojkheikiaaDoor
