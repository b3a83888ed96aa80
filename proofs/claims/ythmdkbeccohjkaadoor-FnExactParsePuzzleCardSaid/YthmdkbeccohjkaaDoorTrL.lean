/- Contracts of the law's own helpers over slices of structs of three integers: made, held against each other, marked, held against marks. -/
import Derived.Test.YthmdkbeccohjkaaDoorTr
import Derived.Deep.RegionHeld3
namespace Go.Proofs.YthmdkbeccohjkaaDoor
set_option linter.unusedSimpArgs false
open Go.ChangeShapes Go.WideShapes Go.ChangeAt Go.RowKit
set_option linter.unusedVariables false

theorem madeU3 (v : Value) (n : Nat) : madeCells #[v, v, v] n = Array.replicate n v := by
  apply Array.ext
  · simp [madeCells]
  · intro i h1 h2
    have : i % 3 = 0 ∨ i % 3 = 1 ∨ i % 3 = 2 := by omega
    rcases this with h | h | h <;> simp [madeCells, h]
theorem flat_rep : ∀ n, flat (List.replicate n tz) = List.replicate (n * 3) (.int .i64 0)
  | 0 => rfl
  | n + 1 => by
    rw [List.replicate_succ]
    show triL tz ++ flat (List.replicate n tz) = _
    rw [flat_rep n, Nat.succ_mul, Nat.add_comm, ← List.replicate_append_replicate]
    rfl
theorem mk_clues (n : Nat) (hn : n ≤ 1048576) (W : World) : (Instr.makeSlice 46 (.int .i64 n) (.int .i64 n)).run Tryd.prog W = .ok (.slice (some ⟨W.heap.size, 0, none⟩) n n) (W.alloc (.cells (Array.replicate (n * 3) (.int .i64 0)) 83)) := by
  obtain ⟨i0, hi, hz0, hz1, hz2⟩ := info_parts3 info_clue
  have h := run_make (P := Tryd.prog) W 46 83 i0 _ Tryd.underlying46 hi hz0 .i64 .i64 n n (by omega) (by omega) (by rw [hz2]; omega) (by omega)
  rw [h, hz1]
  simp [Value.cells, madeU3]
theorem made_clues (W : World) (n : Nat) (hn : n ≤ 1048576) : TRow 83 (W.alloc (.cells (Array.replicate (n * 3) (.int .i64 0)) 83)) W.heap.size (.slice (some ⟨W.heap.size, 0, none⟩) n n) (List.replicate n tz) := by
  have := World.ownsRow_lit (base := W.heap.size) (e := 83) (size := 3) W (Array.replicate (n * 3) (.int .i64 0)) n (Nat.le_refl _) (by unfold maxLen; omega) (by simp)
  unfold TRow
  rw [flat_rep, List.length_replicate]
  simpa using this
/-- The first k triples are copied. -/
def copT (xs : List Tri) (k : Nat) : List Tri := xs.take k ++ List.replicate (xs.length - k) tz
theorem copT_len (xs : List Tri) (k : Nat) (h : k ≤ xs.length) : (copT xs k).length = xs.length := by simp [copT]; omega
theorem copT_zero (xs : List Tri) : copT xs 0 = List.replicate xs.length tz := by simp [copT]
theorem copT_all (xs : List Tri) : copT xs xs.length = xs := by simp [copT]
theorem copT_set (xs : List Tri) (k : Nat) (h : k < xs.length) : (copT xs k).set k (xs.getD k tz) = copT xs (k + 1) := by
  unfold copT
  apply List.ext_getElem
  · simp; omega
  · intro j h1 h2
    simp only [List.getElem_set]
    by_cases e : k = j
    · subst e
      rw [if_pos rfl, List.getElem_append_left (by simp; omega)]
      simp [List.getD_eq_getElem?_getD, List.getElem?_eq_getElem h]
    · rw [if_neg e]
      rcases Nat.lt_or_ge j k with g | g
      · rw [List.getElem_append_left (by simp; omega), List.getElem_append_left (by simp; omega)]
        simp
      · rw [List.getElem_append_right (by simp; omega), List.getElem_append_right (by simp; omega)]
        simp

theorem six_keep {w W w1 : World} {p0 p1 p2 q0 q1 q2 : Addr} {x0 x1 x2 y0 y1 y2 : Value} (h : W.cell? p0 = some x0 ∧ W.cell? p1 = some x1 ∧ W.cell? p2 = some x2 ∧ W.cell? q0 = some y0 ∧ W.cell? q1 = some y1 ∧ W.cell? q2 = some y2 ∧ Below w.heap.size w W)
    (hp0 : p0.block < w.heap.size) (hp1 : p1.block < w.heap.size) (hp2 : p2.block < w.heap.size) (hq0 : q0.block < w.heap.size) (hq1 : q1.block < w.heap.size) (hq2 : q2.block < w.heap.size) (hb : Below W.heap.size W w1) :
    w1.cell? p0 = some x0 ∧ w1.cell? p1 = some x1 ∧ w1.cell? p2 = some x2 ∧ w1.cell? q0 = some y0 ∧ w1.cell? q1 = some y1 ∧ w1.cell? q2 = some y2 ∧ Below w.heap.size w w1 := by
  obtain ⟨a, b, c, d, e, f, g⟩ := h
  have hs := g.size
  exact ⟨(hb.cell (by omega)).trans a, (hb.cell (by omega)).trans b, (hb.cell (by omega)).trans c, (hb.cell (by omega)).trans d, (hb.cell (by omega)).trans e, (hb.cell (by omega)).trans f, bel_trans g hb⟩
theorem six_bel {w W : World} {p0 p1 p2 q0 q1 q2 : Addr} {x0 x1 x2 y0 y1 y2 : Value} (h : W.cell? p0 = some x0 ∧ W.cell? p1 = some x1 ∧ W.cell? p2 = some x2 ∧ W.cell? q0 = some y0 ∧ W.cell? q1 = some y1 ∧ W.cell? q2 = some y2 ∧ Below w.heap.size w W) : Below w.heap.size w W := h.2.2.2.2.2.2


theorem eqClue_same (a b c : Int) (w : World) :
    Calls Tryd.prog 90 #[chn a b c, chn a b c] w fun e w' => e = .returned (.bool true) ∧ Below w.heap.size w w' := by
  go_enter Tryd.func90, Tryd.ntmps90
  go_wp2
  go_ret
  refine ⟨rfl, ?_⟩
  repeat (first | assumption | with_reducible exact Below.refl _ _ | refine bel_alloc ?_ _ | refine bel_drewN ?_ _ | refine Below.drew ?_ | (refine Below.setCell ?_ (by simp) _) | (refine bel_trans ?_ (by assumption)))
set_option maxHeartbeats 3200000 in
theorem eqClueS_same (xs : List Tri) (v0 v1 : Value) (B0 B1 : Nat) (w : World) (h0 : RdT w B0 v0 xs) (h1 : RdT w B1 v1 xs) (hB0 : B0 ≤ w.heap.size) (hB1 : B1 ≤ w.heap.size) :
    Calls Tryd.prog 69 #[v0, v1] w fun e w' => e = .returned (.bool true) ∧ Below w.heap.size w w' := by
  obtain ⟨A0, cap0, rfl, hl0, hm0⟩ := h0.form
  obtain ⟨A1, cap1, rfl, hl1, hm1⟩ := h1.form
  unfold maxLen at hm0 hm1
  have H0 := Lib.hid h0
  have H1 := Lib.hid h1
  clear h0 h1
  generalize hN : xs.length = N at *
  have HN := Lib.hid hN
  clear hN
  go_enter Tryd.func69, Tryd.ntmps69
  go_wp2
  go_loopw [5] (fun i wr => ∃ k : Nat, k ≤ N ∧ i = .int .i64 k ∧ Below w.heap.size w wr) (fun i _ => N - (intOf i).toNat)
  case atStart => exact ⟨0, by omega, rfl, Below.refl _ _⟩
  case round =>
    obtain ⟨k, hk, rfl, hbl⟩ := hrel
    by_cases hlt : k < N
    · have hkx : k < xs.length := by rw [HN.out]; exact hlt
      obtain ⟨ad0, x, y, z, rfl, hab0, hx0, c0, c1, c2⟩ := (H0.out.below hbl hB0).at3 hkx
      obtain ⟨ad1, x', y', z', rfl, hab1, hx1, d0, d1, d2⟩ := (H1.out.below hbl hB1).at3 hkx
      rw [hx0] at hx1
      obtain ⟨rfl, rfl, rfl⟩ : x = x' ∧ y = y' ∧ z = z' := by simpa using hx1
      have ha0 : (ad0.add (k * 3)).block < w.heap.size := by rw [block_of_add]; omega
      have ha1 : (ad1.add (k * 3)).block < w.heap.size := by rw [block_of_add]; omega
      clear hx0 hx1
      have hki : (k : Int) < (N : Int) := by omega
      go_wp2_with fail
      go_region_held3 (fun w' => w'.cell? (ad0.add (k * 3)) = some (.int .i64 x) ∧ w'.cell? ⟨(ad0.add (k * 3)).block, (ad0.add (k * 3)).off + 1, none⟩ = some (.int .i64 y) ∧ w'.cell? ⟨(ad0.add (k * 3)).block, (ad0.add (k * 3)).off + 2, none⟩ = some (.int .i64 z) ∧
          w'.cell? (ad1.add (k * 3)) = some (.int .i64 x) ∧ w'.cell? ⟨(ad1.add (k * 3)).block, (ad1.add (k * 3)).off + 1, none⟩ = some (.int .i64 y) ∧ w'.cell? ⟨(ad1.add (k * 3)).block, (ad1.add (k * 3)).off + 2, none⟩ = some (.int .i64 z) ∧ Below w.heap.size w w')
        (first | exact ⟨c0, c1, c2, d0, d1, d2, hbl.drew⟩ | exact six_keep (by assumption) ha0 ha0 ha0 ha1 ha1 ha1 hb2 | assumption | go_keep)
        (first | (go_at_call 90; refine (eqClue_same x y z _).mono ?_; rintro e w2 ⟨rfl, hb2⟩))
      all_goals
        have hgE := six_bel (by assumption)
        go_wp2
        exact ⟨⟨k + 1, by omega, by go_num, hgE⟩, by simp [intOf]; omega⟩
    · go_wp2
      go_ret
      exact ⟨rfl, hbl⟩
set_option maxHeartbeats 3200000 in
theorem markClue_any (xs : List Tri) (v : Value) (base : Nat) (k : Int) (w : World) (h : TRow 83 w base v xs) (h0 : 0 ≤ k) (h1 : k + 3 * xs.length ≤ 9000000000000000000) :
    Calls Tryd.prog 70 #[v, .int .i64 k] w fun e w' => e = .returned (.int .i64 (k + 3 * xs.length)) ∧ TRow 83 w' base v (markT k xs.length xs) ∧ w.grownBy w' v.ownBlock := by
  rcases h.form with ⟨hx, A, cap, rfl⟩ | ⟨hx, g, cap, rfl, _, _, hl, hm⟩
  · subst hx
    have H := Lib.hid h
    clear h
    go_enter Tryd.func70, Tryd.ntmps70
    go_wp2
    go_loop [1, 5] (fun x i => i = .int .i64 0 ∧ x = .int .i64 k) (fun _ _ => 0)
    case atStart => exact ⟨rfl, rfl⟩
    case round =>
      obtain ⟨rfl, rfl⟩ := hrel
      go_wp2
      go_ret
      exact ⟨by simp, H.out, World.grownBy.refl _ _⟩
  · unfold maxLen at hm
    have H := Lib.hid h
    clear h
    generalize hN' : xs.length = N at *
    have HN := Lib.hid hN'
    clear hN'
    go_enter Tryd.func70, Tryd.ntmps70
    go_wp2
    go_loopw [1, 5] (fun x i wr => ∃ j : Nat, j ≤ N ∧ i = .int .i64 j ∧ x = .int .i64 (k + 3 * j) ∧ Hid (TRow 83 wr base (.slice (some ⟨g, 0, none⟩) N cap) (markT k j xs)) ∧ w.grownBy wr (some g)) (fun _ i _ => N - (intOf i).toNat)
    case atStart => exact ⟨0, by omega, rfl, by simp, by rw [markT_zero]; exact H.out, World.grownBy.refl _ _⟩
    case round =>
      obtain ⟨j, hj, rfl, rfl, hrow, hg⟩ := hrel
      by_cases hlt : j < N
      · have hlen : (markT k j xs).length = N := by rw [markT_len]; exact HN.out
        have hr := hrow.out
        rw [← hlen] at hr
        obtain ⟨c0, c1, c2⟩ := hr.at_ j (by omega)
        have f0 := World.ownsRow.frozenAt hr (j * 3)
        have f1 := World.ownsRow.frozenAt hr (j * 3 + 1)
        have f2 := World.ownsRow.frozenAt hr (j * 3 + 2)
        obtain ⟨hr2, hg2⟩ := hr.store j (by omega) (k + 3 * j) (k + 3 * j + 1) (k + 3 * j + 2)
        rw [markT_set, hlen] at hr2
        have e2 : k + 3 * (j : Int) + 1 + 1 = k + 3 * j + 2 := by omega
        have e3 : k + 3 * (j : Int) + 2 + 1 = k + 3 * ((j + 1 : Nat) : Int) := by omega
        generalize (markT k j xs).getD j tz = u at *
        obtain ⟨u0, u1, u2⟩ := u
        have hbd : k + 3 * (j : Int) + 3 ≤ 9000000000000000000 := by omega
        have hkj : 0 ≤ k + 3 * (j : Int) := by omega
        generalize hX : k + 3 * (j : Int) = X at *
        have HX := Lib.hid hX
        have HR2 := Lib.hid hr2
        have E3 := Lib.hid e3
        clear hr hr2 hlen hX e3
        go_wp2
        exact ⟨⟨j + 1, by omega, by go_num, by rw [← E3.out], HR2, hg.trans hg2⟩, by simp [intOf]; omega⟩
      · have hjN : j = N := by omega
        have HJ := Lib.hid hjN
        clear hjN
        go_wp2
        go_ret
        exact ⟨by rw [← HJ.out]; rfl, by have q := hrow.out; rw [HJ.out] at q; exact q, hg⟩
set_option maxHeartbeats 3200000 in
theorem heldClue_any (xs : List Tri) (v : Value) (B : Nat) (k : Int) (w : World) (h : RdT w B v (markT k xs.length xs)) (h0 : 0 ≤ k) (h1 : k + 3 * xs.length ≤ 9000000000000000000) :
    Calls Tryd.prog 71 #[v, .int .i64 k] w fun e w' => e = .returned (.int .i64 (k + 3 * xs.length)) ∧ w = w' := by
  obtain ⟨A, cap, rfl, hl, hm⟩ := h.form
  rw [markT_len] at hl h ⊢
  unfold maxLen at hm
  have H := Lib.hid h
  clear h
  generalize hN' : xs.length = N at *
  have HN := Lib.hid hN'
  clear hN'
  go_enter Tryd.func71, Tryd.ntmps71
  go_wp2
  go_loop [1, 5] (fun x i => ∃ j : Nat, j ≤ N ∧ i = .int .i64 j ∧ x = .int .i64 (k + 3 * j)) (fun _ i => N - (intOf i).toNat)
  case atStart => exact ⟨0, by omega, rfl, by simp⟩
  case round =>
    obtain ⟨j, hj, rfl, rfl⟩ := hrel
    by_cases hlt : j < N
    · obtain ⟨ad, x, y, z, rfl, hab, hxyz, c0, c1, c2⟩ := H.out.at3 (k := j) (by rw [markT_len, HN.out]; exact hlt)
      rw [markT_at k N j xs hlt (by rw [HN.out]; exact hlt)] at hxyz
      obtain ⟨rfl, rfl, rfl⟩ : k + 3 * (j : Int) = x ∧ k + 3 * (j : Int) + 1 = y ∧ k + 3 * (j : Int) + 2 = z := by simpa using hxyz
      clear hxyz
      have e2 : k + 3 * (j : Int) + 1 + 1 = k + 3 * j + 2 := by omega
      have e3 : k + 3 * (j : Int) + 2 + 1 = k + 3 * ((j + 1 : Nat) : Int) := by omega
      have hbd : k + 3 * (j : Int) + 3 ≤ 9000000000000000000 := by omega
      have hkj : 0 ≤ k + 3 * (j : Int) := by omega
      generalize hX : k + 3 * (j : Int) = X at *
      have HX := Lib.hid hX
      have E3 := Lib.hid e3
      clear hX e3
      go_wp2
      exact ⟨⟨j + 1, by omega, by go_num, by rw [← E3.out]⟩, by simp [intOf]; omega⟩
    · have hjN : j = N := by omega
      have HJ := Lib.hid hjN
      clear hjN
      go_wp2
      go_ret
      exact ⟨by rw [← HJ.out]; rfl, rfl⟩


end Go.Proofs.YthmdkbeccohjkaaDoor
