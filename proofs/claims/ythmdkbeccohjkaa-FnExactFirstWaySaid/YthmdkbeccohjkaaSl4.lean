/- Contracts of the law's own helpers over states: held against each other, marked, held against marks. -/
import Derived.Test.YthmdkbeccohjkaaSl3
namespace Go.Proofs.Ythmdkbeccohjkaa
set_option linter.unusedSimpArgs false
open Go.ChangeShapes Go.WideShapes Go.ChangeAt Go.RowKit
set_option linter.unusedVariables false

theorem eqStates_same (lim : Int) (m : List (List Int)) (v0 v1 : Value) (B0 B1 : Nat) (w : World) (h0 : RdM w B0 v0 m) (h1 : RdM w B1 v1 m) (hB0 : B0 ≤ w.heap.size) (hB1 : B1 ≤ w.heap.size) :
    Calls Try.prog 9 #[sts lim v0, sts lim v1] w fun e w' => e = .returned (.bool true) ∧ Below w.heap.size w w' := by
  obtain ⟨A0, cap0, rfl, l0, m0⟩ := h0.form
  obtain ⟨A1, cap1, rfl, l1, m1⟩ := h1.form
  have hbl := bel_alloc (bel_alloc (Below.refl _ w) (.cells #[.int .i64 lim, .slice A0 m.length cap0] 29)) (.cells #[.int .i64 lim, .slice A1 m.length cap1] 29)
  have H0 := Lib.hid (h0.below hbl hB0)
  have H1 := Lib.hid (h1.below hbl hB1)
  clear h0 h1
  go_enter Try.func9, Try.ntmps9
  go_wp2_with fail
  refine (eqM_same m _ _ _ _ _ H0.out H1.out).mono ?_
  rintro e w' ⟨rfl, n, rfl⟩
  go_wp2
  go_ret
  exact ⟨rfl, bel_drewN hbl _⟩

theorem OwnM.rowAt {w : World} {lo hi n cap : Nat} {A : Option Addr} {m : List (List Int)} (h : OwnM w lo hi (.slice A n cap) m) {j : Nat} (hj : j < m.length) :
    ∃ (g : Nat) (A' : Option Addr) (cap' : Nat), A = some ⟨g, 0, none⟩ ∧ n = m.length ∧ w.cell? ⟨g, j, none⟩ = some (.slice A' (m.getD j []).length cap') ∧ IRow w lo (.slice A' (m.getD j []).length cap') (m.getD j []) ∧ ∀ k, (Value.slice A' (m.getD j []).length cap').ownBlock = some k → lo ≤ k ∧ k < hi := by
  obtain ⟨hh, vs, h1, h2, h3, h4⟩ := h
  have hl := ownsRow.length h1
  rcases h1.2 with ⟨e, h0⟩ | ⟨g, cp, cur, e, hb, hg, hn, hc, hs, ht⟩
  · omega
  · injection e with e1 e2 e3
    subst e1 e2 e3
    obtain ⟨r1, r2⟩ := h3 j
    obtain ⟨A', cap', e', q1, q2⟩ := r1.rd.form
    refine ⟨g, A', cap', rfl, rfl, ?_, by rw [← e']; exact r1, fun k hk => ?_⟩
    · rw [World.ownsRow.cellAt h1 j (by omega), List.getElem?_eq_getElem (by omega)]
      rw [List.getD_eq_getElem?_getD, List.getElem?_eq_getElem (by omega)] at e'
      simpa using e'
    · rw [← e'] at hk
      exact ⟨(r1.lt k hk).1, r2 k hk⟩
theorem OwnM.formS {w : World} {lo hi : Nat} {v : Value} {m : List (List Int)} (h : OwnM w lo hi v m) : ∃ A cap, v = .slice A m.length cap ∧ cap ≤ maxLen := by
  obtain ⟨A, cap, e, _, h2⟩ := h.rd.form
  exact ⟨A, cap, e, h2⟩

set_option maxHeartbeats 1600000 in
theorem markM_any (m : List (List Int)) (v : Value) (lo hi : Nat) (k : Int) (w : World) (h : OwnM w lo hi v m) (h0 : 0 ≤ k) (h1 : k + offM m m.length ≤ 9000000000000000000) (hml : m.length ≤ 1048576) :
    Calls Try.prog 20 #[v, .int .i64 k] w fun e w' => e = .returned (.int .i64 (k + offM m m.length)) ∧ OwnM w' lo hi v (markM k m.length m) ∧ Off lo hi w w' := by
  obtain ⟨A, cap, rfl, hcap⟩ := h.formS
  have H := Lib.hid h
  have H1 := Lib.hid h1
  clear h h1
  go_enter Try.func20, Try.ntmps20
  go_wp2
  go_loopw [1, 5] (fun x i wr => ∃ j : Nat, j ≤ m.length ∧ i = .int .i64 j ∧ x = .int .i64 (k + offM m j) ∧ Hid (OwnM wr lo hi (.slice A m.length cap) (markM k j m)) ∧ Off lo hi w wr) (fun _ i _ => m.length - (intOf i).toNat)
  case atStart => exact ⟨0, by omega, rfl, by simp [offM], Lib.hid (by rw [markM_zero]; exact H.out), Off.refl _ _ _⟩
  case round =>
    obtain ⟨j, hj, rfl, rfl, hown, hoff⟩ := hrel
    by_cases hlt : j < m.length
    · have hlen : j < (markM k j m).length := by rw [markM_len]; exact hlt
      obtain ⟨g, A', cap', rfl, -, hc, hr, hbk⟩ := hown.out.rowAt hlen
      have hget : (markM k j m).getD j [] = m.getD j [] := by rw [markM_getD _ _ _ _ hlt, if_neg (by omega)]
      rw [hget] at hc hr hbk
      have hm1 := offM_mono m (j + 1) m.length (by omega)
      have hS : Hid (k + (offM m j : Int) + ((m.getD j []).length : Int) = k + offM m (j + 1)) := by show _ = _; simp [offM]; omega
      have hb : k + (offM m j : Int) + ((m.getD j []).length : Int) ≤ 9000000000000000000 := by have := H1.out; have := hS.out; omega
      have hp0 : 0 ≤ k + (offM m j : Int) := by omega
      have hset := Lib.hid (markM_set k j m hlt)
      have Hr := Lib.hid hr
      have Hbk := Lib.hid hbk
      have Hget := Lib.hid hget
      clear hm1 hr hbk hget
      generalize m.getD j [] = xs at *
      go_wp2_with fail
      refine (mark_any xs _ lo _ _ Hr.out hp0 hb).mono ?_
      rintro e w1 ⟨rfl, hr1, hg1⟩
      rw [hS.out]
      have hoff2 := hoff.trans (Off.grown hg1 Hbk.out)
      have hw := Lib.hid (OwnM.write hown.out hlen ⟨⟨g, 0, none⟩, by rw [markM_len], by rw [Addr.add_lit, Nat.zero_add]; exact hc⟩ hg1 hr1 (by rw [marked_len, Hget.out]))
      have hw2 : Hid (OwnM w1 lo hi (.slice (some ⟨g, 0, none⟩) m.length cap) (markM k (j + 1) m)) := Lib.hid (by have q := hw.out; rw [hset.out] at q; exact q)
      clear hr1 hg1 hw hc hlen
      go_wp2
      exact ⟨⟨j + 1, by omega, by go_num, rfl, hw2, hoff2⟩, by simp [intOf]; omega⟩
    · have hjn : j = m.length := by omega
      have HJ := Lib.hid hjn
      clear hjn
      go_wp2
      go_ret
      exact ⟨by rw [HJ.out]; rfl, by have q := hown.out; rw [HJ.out] at q; exact q, hoff⟩

theorem markStates_any (lim : Int) (m : List (List Int)) (v : Value) (lo hi : Nat) (k : Int) (w : World) (h : OwnM w lo hi v m) (h0 : 0 ≤ k) (h1 : k + offM m m.length ≤ 9000000000000000000) (hml : m.length ≤ 1048576) :
    Calls Try.prog 10 #[sts lim v, .int .i64 k] w fun e w' => e = .returned (.int .i64 (k + offM m m.length)) ∧ OwnM w' lo hi v (markM k m.length m) ∧ Off lo hi w w' := by
  have hbl := bel_alloc (Below.refl _ w) (.cells #[.int .i64 lim, v] 29)
  obtain ⟨A, cap, rfl, hcap⟩ := h.formS
  have hh := h.1
  have H := Lib.hid (h.below hbl h.1)
  clear h
  have hoff : Off lo hi w (w.alloc (.cells #[.int .i64 lim, .slice A m.length cap] 29)) := ⟨hbl.os, hbl.tape, hbl.output, hbl.size, fun i hi _ => hbl.block i hi⟩
  go_enter Try.func10, Try.ntmps10
  go_wp2_with fail
  refine (markM_any m _ lo hi k _ H.out h0 h1 hml).mono ?_
  rintro e w1 ⟨rfl, ho, hf⟩
  have Ho := Lib.hid ho
  clear ho
  go_wp2
  go_ret
  exact ⟨rfl, Ho.out, hoff.trans hf⟩
end Go.Proofs.Ythmdkbeccohjkaa
