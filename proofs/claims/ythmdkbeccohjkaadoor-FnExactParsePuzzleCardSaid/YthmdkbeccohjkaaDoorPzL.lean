/- Contracts of the law's own helpers over puzzles: sized, made, held against each other, marked, held against marks. -/
import Derived.Test.YthmdkbeccohjkaaDoorTrL
namespace Go.Proofs.YthmdkbeccohjkaaDoor
set_option linter.unusedSimpArgs false
open Go.ChangeShapes Go.WideShapes Go.ChangeAt Go.RowKit
set_option linter.unusedVariables false

abbrev pz (o : Int) (v : Value) : Value := .agg #[.int .i64 o, v]

theorem TRow.setOther {q : TypeId} {w : World} {base : Nat} {v : Value} {xs : List Tri} (h : TRow q w base v xs) {p : Addr} (hp : p.block < base) (u : Value) : TRow q (w.setCell p u) base v xs := by
  refine World.ownsRow.kept h (row := some p.block) ⟨rfl, rfl, rfl, by simp [World.setCell], fun k hk hne => Below.heap_setCell _ _ _ _ (fun e => hne (by rw [e]))⟩ ?_
  cases hv : v.ownBlock with
  | none => exact .inl rfl
  | some k =>
    refine .inr fun he => ?_
    have := (World.ownsRow.lt h k hv).1
    injection he with he
    omega
theorem eqPuzzle_same (o : Int) (xs : List Tri) (v0 v1 : Value) (B0 B1 : Nat) (w : World) (h0 : RdT w B0 v0 xs) (h1 : RdT w B1 v1 xs) (hB0 : B0 ≤ w.heap.size) (hB1 : B1 ≤ w.heap.size) :
    Calls Tryd.prog 34 #[pz o v0, pz o v1] w fun e w' => e = .returned (.bool true) ∧ Below w.heap.size w w' := by
  have hb := Lib.hid (bel_alloc (bel_alloc (Below.refl _ w) (.cells #[.int .i64 o, v0] 48)) (.cells #[.int .i64 o, v1] 48))
  obtain ⟨A0, cap0, rfl, _, _⟩ := h0.form
  obtain ⟨A1, cap1, rfl, _, _⟩ := h1.form
  have H0 := Lib.hid (h0.below hb.out hB0)
  have H1 := Lib.hid (h1.below hb.out hB1)
  clear h0 h1
  go_enter Tryd.func34, Tryd.ntmps34
  go_wp2_with fail
  refine (eqClueS_same xs _ _ B0 B1 _ H0.out H1.out (by simp; omega) (by simp; omega)).mono ?_
  rintro e w2 ⟨rfl, b2⟩
  go_wp2
  go_ret
  exact ⟨rfl, bel_trans hb.out b2⟩

theorem markPuzzle_any (o : Int) (xs : List Tri) (v : Value) (base : Nat) (k : Int) (w : World) (h : TRow 83 w base v xs) (hB : base ≤ w.heap.size) (h0 : 0 ≤ k) (h1 : k + 3 * xs.length ≤ 9000000000000000000) :
    Calls Tryd.prog 35 #[pz o v, .int .i64 k] w fun e w' => e = .returned (.int .i64 (k + 3 * xs.length)) ∧ TRow 83 w' base v (markT k xs.length xs) ∧ w.grownBy w' v.ownBlock := by
  have hb := Lib.hid (bel_alloc (Below.refl _ w) (.cells #[.int .i64 o, v] 48))
  have H := Lib.hid (h.below hb.out)
  have hg0 := World.grownBy_alloc w (.cells #[.int .i64 o, v] 48) v.ownBlock
  obtain ⟨A, cap, rfl, _, _⟩ := h.rd.form
  clear h
  go_enter Tryd.func35, Tryd.ntmps35
  go_wp2_with fail
  refine (markClue_any xs _ base k _ H.out h0 h1).mono ?_
  rintro e w2 ⟨rfl, r2, g2⟩
  generalize hX : k + 3 * (xs.length : Int) = X at *
  have HX := Lib.hid hX
  clear hX
  have R2 := Lib.hid r2
  clear r2
  go_wp2
  go_ret
  exact ⟨by rw [HX.out]; rfl, R2.out, hg0.trans g2⟩

theorem heldPuzzle_any (o : Int) (xs : List Tri) (v : Value) (B : Nat) (k : Int) (w : World) (h : RdT w B v (markT k xs.length xs)) (hB : B ≤ w.heap.size) (h0 : 0 ≤ k) (h1 : k + 3 * xs.length ≤ 9000000000000000000) :
    Calls Tryd.prog 36 #[pz o v, .int .i64 k] w fun e w' => e = .returned (.int .i64 (k + 3 * xs.length)) ∧ Below w.heap.size w w' := by
  have hb := Lib.hid (bel_alloc (Below.refl _ w) (.cells #[.int .i64 o, v] 48))
  have H := Lib.hid (h.below hb.out hB)
  obtain ⟨A, cap, rfl, _, _⟩ := h.form
  clear h
  go_enter Tryd.func36, Tryd.ntmps36
  go_wp2_with fail
  refine (heldClue_any xs _ B k _ H.out h0 h1).mono ?_
  rintro e w2 ⟨rfl, rfl⟩
  have hx : ¬ k + 3 * (xs.length : Int) < 0 := by omega
  generalize hX : k + 3 * (xs.length : Int) = X at *
  have HX := Lib.hid hX
  clear hX
  go_wp2
  go_ret
  exact ⟨by rw [HX.out]; rfl, hb.out⟩
end Go.Proofs.YthmdkbeccohjkaaDoor
