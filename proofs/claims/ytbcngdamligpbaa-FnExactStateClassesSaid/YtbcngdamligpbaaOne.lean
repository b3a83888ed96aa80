/- IsOneClass: the contracts of the program and of its model. -/
import Derived.Test.YtbcngdamligpbaaCls
import Derived.Deep.RegionHeld3
namespace Go.Proofs.Ytbcngdamligpbaa
set_option linter.unusedSimpArgs false
open Go.ChangeShapes Go.WideShapes Go.ChangeAt Go.RowKit
set_option linter.unusedVariables false

def oneB (m : List (List Int)) : Bool := ((selK (clsB m 0) m.length).length : Int) == (m.length : Int)
def ansOne (lim : Int) (m : List (List Int)) : Value := if saG lim m then .tuple #[.bool (oneB m), .bool true] else .tuple #[.bool false, .bool false]
theorem ansOne_form (lim : Int) (m : List (List Int)) : ∃ (x o : Bool), ansOne lim m = .tuple #[.bool x, .bool o] := by
  unfold ansOne
  split
  · exact ⟨_, _, rfl⟩
  · exact ⟨_, _, rfl⟩
theorem irow_slice {w : World} {b : Nat} {v : Value} {xs : List Int} (h : IRow w b v xs) : ∃ A cap, v = .slice A xs.length cap := by
  rcases h.form with ⟨rfl, A, cap, rfl⟩ | ⟨_, g, cap, rfl, _⟩
  · exact ⟨A, cap, rfl⟩
  · exact ⟨_, _, rfl⟩
theorem hone_start {w W : World} {k : Nat} {x y : Value} (h : Box2 W k x y) (hb : Below w.heap.size w W) : let V := W.drew
    V.cell? ⟨k, 0, none⟩ = some x ∧ V.cell? ⟨k, 1, none⟩ = some y ∧ k < V.heap.size ∧ Below w.heap.size w V := ⟨h.1, h.2.1, h.2.2, hb.drew⟩
theorem hone_keep {w W w1 : World} {k : Nat} {x y : Value} (h : W.cell? ⟨k, 0, none⟩ = some x ∧ W.cell? ⟨k, 1, none⟩ = some y ∧ k < W.heap.size ∧ Below w.heap.size w W)
    (hb : Below W.heap.size W w1) : w1.cell? ⟨k, 0, none⟩ = some x ∧ w1.cell? ⟨k, 1, none⟩ = some y ∧ k < w1.heap.size ∧ Below w.heap.size w w1 := by
  have b : Box2 w1 k x y := Box2.keep ⟨h.1, h.2.1, h.2.2.1⟩ hb
  exact ⟨b.1, b.2.1, b.2.2, bel_trans h.2.2.2 hb⟩

set_option maxHeartbeats 1600000 in
theorem saOne_any (lim : Int) (m : List (List Int)) (v : Value) (B : Nat) (w : World) (h : RdM w B v m) (hB : B ≤ w.heap.size) (hg : Good lim m) (h0 : 0 < m.length) :
    Calls Try.prog 41 #[sts lim v] w fun e w' => e = .returned (.bool (oneB m)) ∧ Below w.heap.size w w' := by
  obtain ⟨A, cap, rfl, l0, m0⟩ := h.form
  have hbl := bel_alloc (Below.refl _ w) (.cells #[.int .i64 lim, .slice A m.length cap] 27)
  have H := Lib.hid (h.below hbl hB)
  have hBs := Lib.hid (Nat.le_trans hB hbl.size)
  have bx := Lib.hid (Box2.new w (.int .i64 lim) (.slice A m.length cap) 27)
  have hO : oneB m = (((selK (clsB m 0) m.length).length : Int) == (m.length : Int)) := rfl
  rw [hO]
  have HG := Lib.hid hg
  have hl := selK_len (clsB m 0) m.length
  clear h hg hO
  generalize hN : (selK (clsB m 0) m.length).length = N at *
  have HN := Lib.hid hN
  clear hN
  go_enter Try.func41, Try.ntmps41
  go_wp2_with fail
  go_region_held3 (fun w' => w'.cell? ⟨w.heap.size, 0, none⟩ = some (.int .i64 lim) ∧ w'.cell? ⟨w.heap.size, 1, none⟩ = some (.slice A m.length cap) ∧ w.heap.size < w'.heap.size ∧ Below w.heap.size w w')
    (first | exact hone_start bx.out hbl | exact hone_keep (by assumption) hb3 | assumption | go_keep)
    (first | (go_at_call 44; refine (saClass_any lim m _ _ 0 _ (H.out.drewN 1) hBs.out HG.out h0).mono ?_; rintro e w3 ⟨u, rfl, hI, hb3⟩; obtain ⟨A1, cap1, rfl⟩ := irow_slice hI; rw [HN.out]))
  all_goals
    obtain ⟨_, _, _, hbl9⟩ := (show _ ∧ _ ∧ _ ∧ Below w.heap.size w _ by assumption)
    go_wp2
    go_ret
    exact ⟨rfl, hbl9⟩

theorem specOne_any (lim : Int) (m : List (List Int)) (v : Value) (B : Nat) (w : World) (h : RdM w B v m) (hB : B ≤ w.heap.size) :
    Calls Try.prog 19 #[sts lim v] w fun e w' => e = .returned (ansOne lim m) ∧ Below w.heap.size w w' := by
  obtain ⟨A, cap, rfl, l0, m0⟩ := h.form
  have hbl := bel_alloc (Below.refl _ w) (.cells #[.int .i64 lim, .slice A m.length cap] 27)
  have H := Lib.hid (h.below hbl hB)
  have hBs := Lib.hid (Nat.le_trans hB hbl.size)
  have bx := Lib.hid (Box2.new w (.int .i64 lim) (.slice A m.length cap) 27)
  clear h
  cases h1 : saG lim m with
  | false =>
    rw [show ansOne lim m = .tuple #[.bool false, .bool false] from by simp [ansOne, h1]]
    have H1 := Lib.hid h1
    clear h1
    go_enter Try.func19, Try.ntmps19
    go_wp2_with fail
    refine (saGood_any lim m _ _ _ H.out hBs.out).mono ?_
    rw [H1.out]
    rintro e w1 ⟨rfl, b1⟩
    go_wp2_with fail
    go_ret2
    exact ⟨rfl, bel_trans hbl b1⟩
  | true =>
    rw [show ansOne lim m = .tuple #[.bool (oneB m), .bool true] from by simp [ansOne, h1]]
    have H1 := Lib.hid h1
    have hg := Lib.hid (good_of h1)
    have h0 : Hid (0 < m.length) := Lib.hid (by unfold saG at h1; rw [Bool.and_eq_true, Bool.and_eq_true] at h1; have := (inB_iff _ _ _).1 h1.1.2; omega)
    clear h1
    go_enter Try.func19, Try.ntmps19
    go_wp2_with fail
    refine (saGood_any lim m _ _ _ H.out hBs.out).mono ?_
    rw [H1.out]
    rintro e w1 ⟨rfl, b1⟩
    have H2 := Lib.hid (H.out.below b1 hBs.out)
    have hB2 := Lib.hid (Nat.le_trans hBs.out b1.size)
    obtain ⟨c0, c1, c2⟩ := bx.out.keep b1
    go_wp2_with fail
    refine (saOne_any lim m _ _ _ H2.out hB2.out hg.out h0.out).mono ?_
    rintro e w2 ⟨rfl, b2⟩
    go_wp2_with fail
    go_ret2
    exact ⟨rfl, bel_trans (bel_trans hbl b1) b2⟩

theorem groups_map {w : World} {P : Program} {k : TypeId} {base : Nat} {e : TypeId} {q : IntKind} {b n : Nat} {D : MDG} (h : w.ownsGroups P k base e q b n D) : w.ownsMap P k (rowElem w base e q) b n D := by
  obtain ⟨es, clock, h1, h2, h3, h4, _⟩ := h
  exact ⟨es, clock, h1, h2, h3, h4⟩

set_option maxRecDepth 100000 in
set_option maxHeartbeats 6400000 in
theorem implOne_any (lim : Int) (m : List (List Int)) (v : Value) (B : Nat) (w : World) (h : RdM w B v m) (hB : B ≤ w.heap.size) :
    Calls Try.prog 20 #[sts lim v] w fun e w' => e = .returned (ansOne lim m) ∧ Below w.heap.size w w' := by
  obtain ⟨A, cap, rfl, l0, m0⟩ := h.form
  have hbl := bel_alloc (Below.refl _ w) (.cells #[.int .i64 lim, .slice A m.length cap] 27)
  have H := Lib.hid (h.below hbl hB)
  have hBs := Lib.hid (Nat.le_trans hB hbl.size)
  obtain ⟨a, b, g, hm, hy⟩ := mvOf_form lim m
  have Hm := Lib.hid hm
  clear h hm
  cases h1 : saG lim m with
  | false =>
    rw [show ansOne lim m = .tuple #[.bool false, .bool false] from by simp [ansOne, h1]]
    have H1 := Lib.hid h1
    clear h1 hy
    go_enter Try.func20, Try.ntmps20
    go_wp2_with fail
    refine (movesOf_any lim m _ _ _ H.out hBs.out).mono ?_
    unfold MvAns
    rw [H1.out, Hm.out]
    rintro e w1 ⟨rfl, b1⟩
    go_wp2_with (first
      | (refine wpList_alloc_row rfl 66 rfl (mvC 0 0 zer) (mv_zero _) ?_)
      | (refine wpList_store_new (k := w1.heap.size) (c' := mvC a b g) rfl 66 (.tmp 4) (.tmp 9) rfl rfl ?_ ?_ mv_info rfl (mvC_one _ _ _) ?_; (· simp [Act.put, Act.eval]); (· simp [Act.put, Act.eval])))
    go_ret2
    exact ⟨rfl, bel_alloc (bel_trans hbl b1) _⟩
  | true =>
    rw [show ansOne lim m = .tuple #[.bool (oneB m), .bool true] from by simp [ansOne, h1]]
    have H1 := Lib.hid h1
    obtain ⟨rfl, rfl, rfl⟩ := hy h1
    have hg := good_of h1
    have h0 : 0 < m.length := by unfold saG at h1; rw [Bool.and_eq_true, Bool.and_eq_true] at h1; have := (inB_iff _ _ _).1 h1.1.2; omega
    have hone := one_iff hg h0
    have hO : Hid (oneB m = (((ldr m m.length : Nat) : Int) == 1)) := by
      refine Lib.hid ?_
      have e : oneB m = ((selK (clsB m 0) m.length).length == m.length) := by unfold oneB; rw [Bool.eq_iff_iff]; simp; omega
      rw [e, ← hone, Bool.eq_iff_iff]; simp; omega
    have HG := Lib.hid hg
    clear h1 hy hone h0 hg
    rw [hO.out]
    go_enter Try.func20, Try.ntmps20
    go_wp2_with fail
    refine (movesOf_any a m _ _ _ H.out hBs.out).mono ?_
    unfold MvAns
    rw [H1.out, Hm.out]
    rintro e w1 ⟨rfl, b1⟩
    have hb1 := bel_trans hbl b1
    go_wp2_with (first
      | (refine wpList_alloc_row rfl 66 rfl (mvC 0 0 zer) (mv_zero _) ?_)
      | (refine wpList_store_new (k := w1.heap.size) (c' := mvC a m.length (gridM m)) rfl 66 (.tmp 4) (.tmp 9) rfl rfl ?_ ?_ mv_info rfl (mvC_one _ _ _) ?_; (· simp [Act.put, Act.eval]); (· simp [Act.put, Act.eval]))
      | (refine wpList_load_row rfl 66 (.tmp 4) rfl w1.heap.size (by simp [Act.put, Act.eval]) _ (mvC a m.length (gridM m)) _ _ (heap_alloc_new _ _) Try.underlying66 rfl mv_info ?_))
    refine (classes_any a m _ HG.out).mono ?_
    rintro e w2 ⟨mb, base, D, rfl, hO2, hC, _, _, b2⟩
    have HC := Lib.hid hC.size
    have HO := Lib.hid (groups_map hO2)
    clear hO2 hC
    go_wp2_with (at_len; refine wpList_len_own _ rfl _ 73 rfl 3 25 Try.underlying73 _ mb m.length D rfl HO.out ?_; rw [HC.out])
    go_ret2
    exact ⟨rfl, bel_trans (bel_alloc hb1 _) b2⟩
end Go.Proofs.Ytbcngdamligpbaa
