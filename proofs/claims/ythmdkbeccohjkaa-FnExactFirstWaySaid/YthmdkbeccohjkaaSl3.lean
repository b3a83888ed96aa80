/- Contracts of the law's own helpers over states: copied whole, held against each other, marked. -/
import Derived.Test.YthmdkbeccohjkaaSl2
namespace Go.Proofs.Ythmdkbeccohjkaa
set_option linter.unusedSimpArgs false
open Go.ChangeShapes Go.WideShapes Go.ChangeAt Go.RowKit
set_option linter.unusedVariables false

theorem OwnM.move {w w' : World} {lo hi : Nat} {v : Value} {m : List (List Int)} (h : OwnM w lo hi v m) (hb : ∀ k, lo ≤ k → k < hi → w'.heap[k]? = w.heap[k]?) (hs : w.heap.size ≤ w'.heap.size) : OwnM w' lo hi v m := by
  obtain ⟨hh, vs, h1, h2, h3, h4⟩ := h
  have rk : ∀ (e : TypeId) (v : Value) (n : Nat) (xs : List Value), w.ownsRow lo e 1 v n xs → (∀ k, v.ownBlock = some k → k < hi) → w'.ownsRow lo e 1 v n xs := by
    intro e v n xs hr hv
    refine ⟨hr.1, ?_⟩
    rcases hr.2 with hn | ⟨g, cap, cur, rfl, hbg, hgg, rest⟩
    · exact .inl hn
    · exact .inr ⟨g, cap, cur, rfl, hbg, by rw [hb g hbg (hv g rfl)]; exact hgg, rest⟩
  exact ⟨Nat.le_trans hh hs, vs, rk _ _ _ _ h1 h2, h2, fun i => ⟨rk _ _ _ _ (h3 i).1 (h3 i).2, (h3 i).2⟩, h4⟩
theorem OwnM.low {w : World} {lo lo' hi : Nat} {v : Value} {m : List (List Int)} (h : OwnM w lo hi v m) (hl : lo' ≤ lo) : OwnM w lo' hi v m := by
  obtain ⟨hh, vs, h1, h2, h3, h4⟩ := h
  have rk : ∀ (e : TypeId) (v : Value) (n : Nat) (xs : List Value), w.ownsRow lo e 1 v n xs → w.ownsRow lo' e 1 v n xs := by
    intro e v n xs hr
    refine ⟨hr.1, ?_⟩
    rcases hr.2 with hn | ⟨g, cap, cur, rfl, hbg, rest⟩
    · exact .inl hn
    · exact .inr ⟨g, cap, cur, rfl, Nat.le_trans hl hbg, rest⟩
  exact ⟨hh, vs, rk _ _ _ _ h1, h2, fun i => ⟨rk _ _ _ _ (h3 i).1, (h3 i).2⟩, h4⟩
theorem OwnM.set_ {w : World} {lo hi : Nat} {v : Value} {m : List (List Int)} (h : OwnM w lo hi v m) {p : Addr} (hp : p.block < lo) (u : Value) : OwnM (w.setCell p u) lo hi v m :=
  h.move (fun k h1 h2 => Below.heap_setCell _ _ _ _ (by omega)) (by simp [World.setCell])

set_option maxHeartbeats 800000 in
theorem toStates_any (lim : Int) (m : List (List Int)) (v : Value) (w : World) (h : RdM w w.heap.size v m) (h1 : szM m m.length ≤ 1048576) :
    Calls Try.prog 6 #[sts lim v] w fun e w' => ∃ v', e = .returned (sts lim v') ∧ OwnM w' w.heap.size w'.heap.size v' m ∧ Below w.heap.size w w' := by
  have hb := Lib.hid (h.below (bel_alloc (bel_alloc (bel_alloc (Below.refl _ w) (.cells #[.int .i64 lim, v] 24)) (.cells #[.int .i64 0, .slice none 0 0] 29)) (.cells #[.int .i64 lim, .slice none 0 0] 29)) (Nat.le_refl _))
  obtain ⟨A, cap, rfl, _, _⟩ := h.form
  have hbl := bel_alloc (bel_alloc (bel_alloc (Below.refl _ w) (.cells #[.int .i64 lim, .slice A m.length cap] 24)) (.cells #[.int .i64 0, .slice none 0 0] 29)) (.cells #[.int .i64 lim, .slice none 0 0] 29)
  clear h
  have H1 := Lib.hid h1
  clear h1
  go_enter Try.func6, Try.ntmps6
  go_wp2_with fail
  refine (toIntSS_any m _ w.heap.size _ hb.out (by simp; omega) H1.out).mono ?_
  rintro e w1 ⟨v', rfl, hown, hb1⟩
  obtain ⟨A', cap', rfl, _, _⟩ := hown.rd.form
  have Hown := Lib.hid hown
  clear hown
  obtain ⟨hc, hf⟩ := bcell hb1
  have hz : w.heap.size + 3 ≤ w1.heap.size := by have := hb1.size; simp at this; omega
  go_wp2
  refine bodyPost_ret (v := sts lim (.slice A' m.length cap')) (by simp [results, Try.results6, go_sem, hc, hz]) rfl ⟨_, rfl, ?_, ?_⟩
  · have q := Hown.out
    have q2 : OwnM w1 (w.heap.size + 3) w1.heap.size (.slice A' m.length cap') m := by simpa using q
    refine OwnM.low (lo := w.heap.size + 3) ?_ (by omega)
    refine OwnM.more (hi := w1.heap.size) ?_ (by simp [World.setCell]) (Nat.le_refl _)
    refine OwnM.set_ ?_ (by first | (dsimp only; omega) | simp) _
    refine OwnM.set_ ?_ (by first | (dsimp only; omega) | simp) _
    refine OwnM.set_ ?_ (by first | (dsimp only; omega) | simp) _
    exact q2
  · refine Below.setCell ?_ (by first | (dsimp only; omega) | simp) _
    refine Below.setCell ?_ (by first | (dsimp only; omega) | simp) _
    refine Below.setCell ?_ (by first | (dsimp only; omega) | simp) _
    exact bel_trans hbl hb1

set_option maxHeartbeats 800000 in
/-- Two slices that read as the same numbers are told as the same. -/
theorem eqI_same (xs : List Int) (v0 v1 : Value) (B0 B1 : Nat) (w : World) (h0 : RdI w B0 v0 xs) (h1 : RdI w B1 v1 xs) :
    Calls Try.prog 8 #[v0, v1] w fun e w' => e = .returned (.bool true) ∧ ∃ n, w' = w.drewN n := by
  obtain ⟨A0, cap0, rfl, l0, m0⟩ := h0.form
  obtain ⟨A1, cap1, rfl, l1, m1⟩ := h1.form
  unfold maxLen at m0 m1
  have H0 := Lib.hid h0
  have H1 := Lib.hid h1
  clear h0 h1
  generalize hN : xs.length = N at *
  have HN := Lib.hid hN
  clear hN
  go_enter Try.func8, Try.ntmps8
  go_wp2
  go_loopw [5] (fun i wr => ∃ k : Nat, k ≤ N ∧ i = .int .i64 k ∧ ∃ n, wr = w.drewN n) (fun i _ => N - (intOf i).toNat)
  case atStart => exact ⟨0, by omega, rfl, 0, rfl⟩
  case round =>
    obtain ⟨k, hk, rfl, n, rfl⟩ := hrel
    by_cases hlt : k < N
    · have hkx : k < xs.length := by rw [HN.out]; exact hlt
      obtain ⟨ad0, rfl, _, e0⟩ := H0.out.at_ hkx
      obtain ⟨ad1, rfl, _, e1⟩ := H1.out.at_ hkx
      generalize xs.getD k 0 = x at *
      clear hkx
      go_wp2_with fail
      go_quiet (fail)
      go_wp2
      exact ⟨⟨k + 1, by omega, by go_num, _, rfl⟩, by simp [intOf]; omega⟩
    · go_wp2
      go_ret
      exact ⟨rfl, n, rfl⟩

set_option maxHeartbeats 800000 in
theorem eqM_same (m : List (List Int)) (v0 v1 : Value) (B0 B1 : Nat) (w : World) (h0 : RdM w B0 v0 m) (h1 : RdM w B1 v1 m) :
    Calls Try.prog 19 #[v0, v1] w fun e w' => e = .returned (.bool true) ∧ ∃ n, w' = w.drewN n := by
  obtain ⟨A0, cap0, rfl, l0, m0⟩ := h0.form
  obtain ⟨A1, cap1, rfl, l1, m1⟩ := h1.form
  unfold maxLen at m0 m1
  have H0 := Lib.hid h0
  have H1 := Lib.hid h1
  clear h0 h1
  generalize hN : m.length = N at *
  have HN := Lib.hid hN
  clear hN
  go_enter Try.func19, Try.ntmps19
  go_wp2
  go_loopw [5] (fun i wr => ∃ k : Nat, k ≤ N ∧ i = .int .i64 k ∧ ∃ n, wr = w.drewN n) (fun i _ => N - (intOf i).toNat)
  case atStart => exact ⟨0, by omega, rfl, 0, rfl⟩
  case round =>
    obtain ⟨k, hk, rfl, n, hwr⟩ := hrel
    have HW := Lib.hid hwr
    by_cases hlt : k < N
    · have hkx : k < m.length := by rw [HN.out]; exact hlt
      obtain ⟨ad0, A0', c0', rfl, _, e0, r0, _, _⟩ := (show RdM wr B0 _ m by rw [hwr]; exact H0.out).at_ hkx
      obtain ⟨ad1, A1', c1', rfl, _, e1, r1, _, _⟩ := (show RdM wr B1 _ m by rw [hwr]; exact H1.out).at_ hkx
      have R0 := Lib.hid r0
      have R1 := Lib.hid r1
      generalize m.getD k [] = xs at *
      clear hkx r0 r1 hwr
      go_wp2_with fail
      go_quiet ((go_at_call 8; exact Calls.quiet_of (eqI_same xs _ _ B0 B1 _ R0.out R1.out)))
      go_wp2
      exact ⟨⟨k + 1, by omega, by go_num, n + nq, by rw [HW.out, World.drewN_drewN]⟩, by simp [intOf]; omega⟩
    · clear hwr
      go_wp2
      go_ret
      exact ⟨rfl, n, HW.out⟩

end Go.Proofs.Ythmdkbeccohjkaa
