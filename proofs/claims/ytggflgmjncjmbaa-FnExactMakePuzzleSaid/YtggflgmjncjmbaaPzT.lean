/- A clue taken out of a puzzle: contract of the program. -/
import Derived.Test.YtggflgmjncjmbaaPzW
import Derived.Deep.RegionHeld3
namespace Go.Proofs.Ytggflgmjncjmbaa
set_option linter.unusedSimpArgs false
open Go.ChangeShapes Go.WideShapes Go.ChangeAt Go.RowKit
set_option linter.unusedVariables false

theorem held2_alloc {w W : World} {k : Nat} {x y : Value} (h : W.cell? ⟨k, 0, none⟩ = some x ∧ W.cell? ⟨k, 1, none⟩ = some y ∧ k < W.heap.size ∧ Below w.heap.size w W) (ob : Obj) :
    let V := W.alloc ob
    V.cell? ⟨k, 0, none⟩ = some x ∧ V.cell? ⟨k, 1, none⟩ = some y ∧ k < V.heap.size ∧ Below w.heap.size w V := by
  have b : Box2 (W.alloc ob) k x y := Box2.keep ⟨h.1, h.2.1, h.2.2.1⟩ (bel_alloc (Below.refl _ W) ob)
  exact ⟨b.1, b.2.1, b.2.2, bel_alloc h.2.2.2 ob⟩
theorem BoxW.drew1 {w : World} {k : Nat} {x y : Value} (h : BoxW w k x y) : BoxW w.drew k x y := h
theorem ext_eraseIdx (ts : List Tri) (k : Nat) : ts.take k ++ ts.drop (k + 1) = ts.eraseIdx k := (List.eraseIdx_eq_take_drop_succ ts k).symm

theorem cut_to (A : Option Addr) (n cap k : Nat) (hk : k ≤ cap) (W : World) : (Instr.sliceAt 27 (.slice A n cap) none (some (.int .i64 k)) none).run Try.prog W = .ok (.slice A k cap) W := by
  have hk' : (k : Int) ≤ (cap : Int) := by omega
  simp [Instr.sliceAt, Instr.slice, Instr.sliceBounds, Instr.sliceBound, asIntOf, run_underlying Try.underlying27, Try.sizeOf39, hk, hk']
  intro _
  cases A <;> simp [Addr.add]
theorem cut_three (A : Option Addr) (n cap k : Nat) (hk : k ≤ cap) (W : World) : (Instr.sliceAt 27 (.slice A n cap) none (some (.int .i64 k)) (some (.int .i64 k))).run Try.prog W = .ok (.slice A k k) W := by
  have hk' : (k : Int) ≤ (cap : Int) := by omega
  simp [Instr.sliceAt, Instr.slice, Instr.sliceBounds, Instr.sliceBound, asIntOf, run_underlying Try.underlying27, Try.sizeOf39, hk, hk']
  intro _
  cases A <;> simp [Addr.add]
theorem cut_from (ad : Addr) (n cap j : Nat) (hj : j ≤ n) (W : World) : (Instr.sliceAt 27 (.slice (some ad) n cap) (some (.int .i64 ((j : Nat) : Int))) none none).run Try.prog W = .ok (.slice (if cap = j then some ad else some (ad.add (j * 3))) (n - j) (cap - j)) W := by
  have hj' : (j : Int) ≤ (n : Int) := by omega
  simp [Instr.sliceAt, Instr.slice, Instr.sliceBounds, Instr.sliceBound, asIntOf, run_underlying Try.underlying27, Try.sizeOf39, hj, hj']
theorem held2_res {w W : World} {x y : Value} (h : W.cell? ⟨w.heap.size, 0, none⟩ = some x ∧ W.cell? ⟨w.heap.size, 1, none⟩ = some y ∧ w.heap.size < W.heap.size ∧ Below w.heap.size w W) (n : Nat) (hn : w.heap.size < n) (a b : Value) :
    let V := (W.setCell ⟨n, 0, none⟩ a).setCell ⟨n, 1, none⟩ b
    V.cell? ⟨w.heap.size, 0, none⟩ = some x ∧ V.cell? ⟨w.heap.size, 1, none⟩ = some y ∧ w.heap.size < V.heap.size ∧ Below w.heap.size w V := by
  have hne : n ≠ w.heap.size := by omega
  refine ⟨?_, ?_, ?_, (h.2.2.2.setCell (p := ⟨n, 0, none⟩) (by dsimp only; omega) a).setCell (p := ⟨n, 1, none⟩) (by dsimp only; omega) b⟩
  · simp [go_sem, h.1, hne]
  · simp [go_sem, h.2.1, hne]
  · simpa [World.setCell] using h.2.2.1
/-- What is behind clue k, as a value. -/
theorem cut_read {w : World} {B n cap k : Nat} {ad : Addr} {ts : List Tri} (h : RdT w B (.slice (some ad) n cap) ts) (hk : k < ts.length) :
    ∃ AT nT cT, (∀ W, (Instr.sliceAt 27 (.slice (some ad) n cap) (some (.int .i64 ((k : Int) + 1))) none none).run Try.prog W = .ok (.slice AT nT cT) W) ∧ RdT w B (.slice AT nT cT) (ts.drop (k + 1)) := by
  obtain ⟨A', cap', e, hl, hm⟩ := h.form
  injection e with e1 e2 e3
  subst e2 e3
  refine ⟨if cap = k + 1 then some ad else some (ad.add ((k + 1) * 3)), ts.length - (k + 1), cap - (k + 1), fun W => ?_, ?_⟩
  · have := cut_from ad ts.length cap (k + 1) (by omega) W
    rwa [show (((k + 1 : Nat) : Nat) : Int) = (k : Int) + 1 from by omega] at this
  · by_cases hc : cap = k + 1
    · rw [if_pos hc]
      have hd : ts.drop (k + 1) = [] := List.drop_of_length_le (by omega)
      rw [hd, show ts.length - (k + 1) = 0 from by omega]
      exact ⟨some ad, cap - (k + 1), rfl, Nat.zero_le _, by omega, fun h => by simp at h⟩
    · rw [if_neg hc]
      exact h.drop (by omega) hl hm
set_option maxRecDepth 100000 in
set_option maxHeartbeats 3200000 in
theorem without_any (o : Int) (ts : List Tri) (v : Value) (B k : Nat) (w : World) (h : RdT w B v ts) (hB : B ≤ w.heap.size) (hk : k < ts.length) (hn : ts.length ≤ 6) :
    Calls Try.prog 74 #[pz o v, .int .i64 k] w fun e w' => ∃ v', e = .returned (pz o v') ∧ TRow 39 w' w.heap.size v' (ts.eraseIdx k) ∧ Below w.heap.size w w' := by
  obtain ⟨A, cap, rfl, hl, hm⟩ := h.form
  obtain ⟨ad, rfl, hab, _⟩ := h.at_ (k := 0) (by omega)
  have bx := Lib.hid ((Box2.new w (.int .i64 o) (.slice (some ad) ts.length cap) 29).keep (bel_alloc (Below.refl _ _) (.cells #[.int .i64 0, .slice none 0 0] 29)))
  have bl := bel_alloc (bel_alloc (Below.refl _ w) (.cells #[.int .i64 o, .slice (some ad) ts.length cap] 29)) (.cells #[.int .i64 0, .slice none 0 0] 29)
  obtain ⟨AT, nT, cT, hs2, hR1⟩ := cut_read h hk
  have hs1 := cut_to (some ad) ts.length cap k (by omega)
  have hR0 : RdT w B (.slice (some ad) k cap) (ts.take k) := h.take (by omega) (by omega) hm
  have hk4 : IntKind.i64.wrap ((k : Int) + 1) = (k : Int) + 1 := IntWalk.i64_in _ (by omega)
  have hcall : ∀ (W : World) (g : Nat), Below w.heap.size w W → W.cell? ⟨g, 0, none⟩ = some (.slice (some ad) k cap) → W.cell? ⟨g, 1, none⟩ = some (.slice AT nT cT) → g < W.heap.size →
      Calls Try.prog 81 #[.slice (some ⟨g, 0, none⟩) 2 2] W (TriOne 39 (ts.eraseIdx k) W) := fun W g hb c0 c1 hg => by
    rw [← ext_eraseIdx]
    exact concat_any (ts.take k) (ts.drop (k + 1)) _ _ B g W (hR0.below hb hB) (hR1.below hb hB) (by have := hb.size; omega) c0 c1 hg (by rw [List.length_take]; omega) (by rw [List.length_drop]; omega)
  have hbw0 := Lib.hid (BoxW.new (w.alloc (.cells #[.int .i64 o, .slice (some ad) ts.length cap] 29)) (.int .i64 0) (.slice none 0 0) 29)
  unfold maxLen at hm
  clear hm hR0 hR1 h
  go_enter Try.func74, Try.ntmps74
  go_wp2_with fail
  go_region_held3 (fun w' => w'.cell? ⟨w.heap.size, 0, none⟩ = some (.int .i64 o) ∧ w'.cell? ⟨w.heap.size, 1, none⟩ = some (.slice (some ad) ts.length cap) ∧ w.heap.size < w'.heap.size ∧ Below w.heap.size w w')
    (first | exact held2_start bx.out bl | exact held2_keep (by assumption) hb2 | exact held2_alloc (by assumption) _ | exact held2_res (by assumption) _ (by simp) _ _ | assumption | go_keep)
    (first | (go_at_call 81; refine (hcall _ _ (held2_below (by assumption)).2 (by simp [go_sem]) (by simp [go_sem]) (by simp)).mono ?_; rintro e w2 ⟨v2, rfl, r2, hb2⟩; obtain ⟨A2, cap2, rfl, _, _⟩ := r2.rd.form; have R2 := Lib.hid (TRow.mono (b' := w.heap.size + 2) r2 (by simp)); clear r2; have hbw2 : BoxW w2 (w.heap.size + 1) (.int .i64 0) (.slice none 0 0) := (show BoxW _ _ _ _ from by first | simpa using (hbw0.out.keep (bel_alloc (Below.refl _ _) (.cells #[.slice (some ad) k cap, .slice AT nT cT] 27))).drew1 | simpa using hbw0.out.keep (bel_alloc (Below.refl _ _) (.cells #[.slice (some ad) k cap, .slice AT nT cT] 27))).keep hb2; obtain ⟨⟨d0, d1, d2⟩, d3, d4⟩ := hbw2))
  all_goals
    obtain ⟨hbx9, hbl9⟩ := held2_below (by assumption)
    clear hbx9
    go_wp2
    refine bodyPost_ret (v := pz o (.slice A2 (ts.eraseIdx k).length cap2)) (by simp [results, Try.results74, go_sem, d0, d1, d2]) rfl ⟨_, rfl, ?_, hbl9⟩
    refine (TRow.setOther ?_ (by dsimp only; omega) _).mono (b := w.heap.size + 2) (by omega)
    refine TRow.setOther ?_ (by dsimp only; omega) _
    exact R2.out
end Go.Proofs.Ytggflgmjncjmbaa
