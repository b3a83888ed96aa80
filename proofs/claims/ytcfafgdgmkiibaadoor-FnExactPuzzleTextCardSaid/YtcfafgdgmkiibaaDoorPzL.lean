/- Contracts of the law's own helpers over puzzles: sized, made, held against each other, marked, held against marks. -/
import Derived.Test.YtcfafgdgmkiibaaDoorTrL
namespace Go.Proofs.YtcfafgdgmkiibaaDoor
set_option linter.unusedSimpArgs false
open Go.ChangeShapes Go.WideShapes Go.ChangeAt Go.RowKit
set_option linter.unusedVariables false

abbrev pz (o : Int) (v : Value) : Value := .agg #[.int .i64 o, v]

theorem szPuzzle_any (o : Int) (xs : List Tri) (v : Value) (B : Nat) (w : World) (h : RdT w B v xs) :
    Calls Tryd.prog 32 #[pz o v, .int .i64 1048576] w fun e w' => e = .returned (.int .i64 (if xs.length ≤ 1048576 then 1048576 - (xs.length : Int) else -1)) ∧ Below w.heap.size w w' := by
  obtain ⟨A, cap, rfl, hl, hm⟩ := h.form
  unfold maxLen at hm
  clear h
  by_cases hn : xs.length ≤ 1048576
  · rw [if_pos hn]
    generalize xs.length = N at *
    go_enter Tryd.func32, Tryd.ntmps32
    go_wp2
    go_ret
    exact ⟨rfl, by repeat (first | assumption | with_reducible exact Below.refl _ _ | refine bel_alloc ?_ _ | refine bel_drewN ?_ _ | refine Below.drew ?_ | (refine Below.setCell ?_ (by simp) _) | (refine bel_trans ?_ (by assumption)))⟩
  · rw [if_neg hn]
    generalize xs.length = N at *
    have hlt : (1048576 : Int) - (N : Int) < 0 := by omega
    go_enter Tryd.func32, Tryd.ntmps32
    go_wp2
    go_ret
    exact ⟨rfl, by repeat (first | assumption | with_reducible exact Below.refl _ _ | refine bel_alloc ?_ _ | refine bel_drewN ?_ _ | refine Below.drew ?_ | (refine Below.setCell ?_ (by simp) _) | (refine bel_trans ?_ (by assumption)))⟩

theorem TRow.setOther {q : TypeId} {w : World} {base : Nat} {v : Value} {xs : List Tri} (h : TRow q w base v xs) {p : Addr} (hp : p.block < base) (u : Value) : TRow q (w.setCell p u) base v xs := by
  refine World.ownsRow.kept h (row := some p.block) ⟨rfl, rfl, rfl, by simp [World.setCell], fun k hk hne => Below.heap_setCell _ _ _ _ (fun e => hne (by rw [e]))⟩ ?_
  cases hv : v.ownBlock with
  | none => exact .inl rfl
  | some k =>
    refine .inr fun he => ?_
    have := (World.ownsRow.lt h k hv).1
    injection he with he
    omega
theorem toPuzzle_any (o : Int) (xs : List Tri) (v : Value) (B : Nat) (w : World) (h : RdT w B v xs) (hB : B ≤ w.heap.size) (hn : xs.length ≤ 1048576) :
    Calls Tryd.prog 34 #[pz o v] w fun e w' => ∃ v', e = .returned (pz o v') ∧ TRow 87 w' w.heap.size v' xs ∧ Below w.heap.size w w' := by
  obtain ⟨A, cap, rfl, hl, hm⟩ := h.form
  have H := Lib.hid h
  clear h
  go_enter Tryd.func34, Tryd.ntmps34
  go_wp2_with fail
  refine (toClueS_any xs _ B _ (H.out.below (by repeat (first | assumption | with_reducible exact Below.refl _ _ | refine bel_alloc ?_ _ | refine bel_drewN ?_ _ | refine Below.drew ?_ | (refine Below.setCell ?_ (by simp) _) | (refine bel_trans ?_ (by assumption)))) hB) (by simp; omega) hn).mono ?_
  rintro e w2 ⟨v2, rfl, r2, hb1⟩
  obtain ⟨hc, hf⟩ := bcell hb1
  have hz : w.heap.size + 3 ≤ w2.heap.size := by have := hb1.size; simp at this; omega
  have R2 : Hid (TRow 87 w2 (w.heap.size + 3) v2 xs) := Lib.hid (by simpa using r2)
  have hbl := bel_trans (bel_alloc (bel_alloc (bel_alloc (Below.refl _ w) (.cells #[.int .i64 o, .slice A xs.length cap] 48)) (.cells #[.int .i64 0, .slice none 0 0] 53)) (.cells #[.int .i64 o, .slice none 0 0] 53)) hb1
  obtain ⟨A2, cap2, rfl, _, _⟩ := r2.rd.form
  clear r2
  go_wp2
  refine bodyPost_ret (v := pz o (.slice A2 xs.length cap2)) (by simp [results, Tryd.results34, go_sem, hc, hz]) rfl ⟨_, rfl, ?_, ?_⟩
  · refine (TRow.setOther ?_ (by first | (dsimp only; omega) | simp) _).mono (b := w.heap.size + 3) (by omega)
    refine TRow.setOther ?_ (by first | (dsimp only; omega) | simp) _
    refine TRow.setOther ?_ (by first | (dsimp only; omega) | simp) _
    exact R2.out
  · refine Below.setCell ?_ (by first | (dsimp only; omega) | simp) _
    refine Below.setCell ?_ (by first | (dsimp only; omega) | simp) _
    refine Below.setCell ?_ (by first | (dsimp only; omega) | simp) _
    exact hbl

theorem eqPuzzle_same (o : Int) (xs : List Tri) (v0 v1 : Value) (B0 B1 : Nat) (w : World) (h0 : RdT w B0 v0 xs) (h1 : RdT w B1 v1 xs) (hB0 : B0 ≤ w.heap.size) (hB1 : B1 ≤ w.heap.size) :
    Calls Tryd.prog 36 #[pz o v0, pz o v1] w fun e w' => e = .returned (.bool true) ∧ Below w.heap.size w w' := by
  have hb := Lib.hid (bel_alloc (bel_alloc (Below.refl _ w) (.cells #[.int .i64 o, v0] 53)) (.cells #[.int .i64 o, v1] 53))
  obtain ⟨A0, cap0, rfl, _, _⟩ := h0.form
  obtain ⟨A1, cap1, rfl, _, _⟩ := h1.form
  have H0 := Lib.hid (h0.below hb.out hB0)
  have H1 := Lib.hid (h1.below hb.out hB1)
  clear h0 h1
  go_enter Tryd.func36, Tryd.ntmps36
  go_wp2_with fail
  refine (eqClueS_same xs _ _ B0 B1 _ H0.out H1.out (by simp; omega) (by simp; omega)).mono ?_
  rintro e w2 ⟨rfl, b2⟩
  go_wp2
  go_ret
  exact ⟨rfl, bel_trans hb.out b2⟩

end Go.Proofs.YtcfafgdgmkiibaaDoor
