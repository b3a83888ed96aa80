/- Contracts of the law's own helpers over slices of integers that the calls have made: held against each other, marked, held against marks. -/
import Derived.Test.YthmdkbeccohjkaaStNum
import Derived.Laws.AppendOwn
import Derived.Laws.OwnMore
namespace Go.Proofs.Ythmdkbeccohjkaa
set_option linter.unusedSimpArgs false
open Go.ChangeShapes Go.WideShapes Go.ChangeAt Go.RowKit
set_option linter.unusedVariables false

/-- v is a slice that holds the numbers xs, made since block base. -/
def IRow (w : World) (base : Nat) (v : Value) (xs : List Int) : Prop := w.ownsRow base 3 1 v xs.length (xs.map (Value.int .i64))

theorem IRow.form {w : World} {base : Nat} {v : Value} {xs : List Int} (h : IRow w base v xs) :
    (xs = [] ∧ ∃ A cap, v = .slice A 0 cap) ∨ (0 < xs.length ∧ ∃ g cap, v = .slice (some ⟨g, 0, none⟩) xs.length cap ∧ base ≤ g ∧ g < w.heap.size ∧ xs.length ≤ cap ∧ cap ≤ maxLen) := by
  by_cases hx : xs = []
  · subst hx
    rcases h.2 with ⟨rfl, _⟩ | ⟨g, cap, cur, rfl, _⟩
    · exact .inl ⟨rfl, none, 0, rfl⟩
    · exact .inl ⟨rfl, _, cap, rfl⟩
  · have hl : 0 < xs.length := List.length_pos_iff.2 hx
    rcases h.2 with ⟨_, h0⟩ | ⟨g, cap, cur, rfl, hb, hg, hn, hc, _⟩
    · omega
    · refine .inr ⟨hl, g, cap, rfl, hb, ?_, hn, hc⟩
      rcases Nat.lt_or_ge g w.heap.size with hlt | hge
      · exact hlt
      · rw [Array.getElem?_eq_none hge] at hg; cases hg
theorem IRow.at_ {w : World} {base g cap : Nat} {xs : List Int} (h : IRow w base (.slice (some ⟨g, 0, none⟩) xs.length cap) xs) (k : Nat) (hk : k < xs.length) :
    w.cell? ⟨g, k, none⟩ = some (.int .i64 (xs.getD k 0)) := by
  rw [World.ownsRow.cellAt h k (by omega), List.getElem?_map, List.getElem?_eq_getElem hk]
  simp [List.getD_eq_getElem?_getD, List.getElem?_eq_getElem hk]
theorem IRow.drewN {w : World} {base : Nat} {v : Value} {xs : List Int} (h : IRow w base v xs) (n : Nat) : IRow (w.drewN n) base v xs := h

set_option maxHeartbeats 800000 in
theorem eqInt_same (xs : List Int) (v0 v1 : Value) (b0 b1 : Nat) (w : World) (h0 : IRow w b0 v0 xs) (h1 : IRow w b1 v1 xs) :
    Calls Try.prog 8 #[v0, v1] w fun e w' => e = .returned (.bool true) ∧ ∃ n, w' = w.drewN n := by
  rcases h0.form with ⟨hx, A0, cap0, rfl⟩ | ⟨hx, g0, cap0, rfl, _, _, hl0, hm0⟩
  · rcases h1.form with ⟨hx1, A1, cap1, rfl⟩ | ⟨hx1, g1, cap1, rfl, _, _, hl1, hm1⟩
    · go_enter Try.func8, Try.ntmps8
      go_wp2
      go_loop [5] (fun i => i = .int .i64 0) (fun _ => 0)
      case atStart => rfl
      case round =>
        obtain rfl := hrel
        go_wp2
        go_ret
        exact ⟨rfl, 0, rfl⟩
    · rw [hx] at hx1; simp at hx1
  · rcases h1.form with ⟨hx1, A1, cap1, rfl⟩ | ⟨hx1, g1, cap1, rfl, _, _, hl1, hm1⟩
    · rw [hx1] at hx; simp at hx
    · unfold maxLen at hm0 hm1
      have H0 := Lib.hid h0
      have H1 := Lib.hid h1
      clear h0 h1
      generalize hN : xs.length = N at *
      go_enter Try.func8, Try.ntmps8
      go_wp2
      go_loopw [5] (fun i wr => ∃ k : Nat, k ≤ N ∧ i = .int .i64 k ∧ ∃ n, wr = w.drewN n) (fun i _ => N - (intOf i).toNat)
      case atStart => exact ⟨0, by omega, rfl, 0, rfl⟩
      case round =>
        obtain ⟨k, hk, rfl, n, rfl⟩ := hrel
        by_cases hlt : k < N
        · subst hN
          have e0 := H0.out.at_ k hlt
          have e1 := H1.out.at_ k hlt
          generalize xs.getD k 0 = x at *
          go_wp2_with fail
          go_quiet (fail)
          go_wp2
          exact ⟨⟨k + 1, by omega, by go_num, _, rfl⟩, by simp [intOf]; omega⟩
        · go_wp2
          go_ret
          exact ⟨rfl, n, rfl⟩

/-- The numbers xs, the first i of them marked: k, k + 1, .. -/
def marked (k : Int) (i : Nat) (xs : List Int) : List Int := xs.mapIdx (fun j x => if j < i then k + j else x)
theorem marked_len (k : Int) (i : Nat) (xs : List Int) : (marked k i xs).length = xs.length := by simp [marked]
theorem marked_zero (k : Int) (xs : List Int) : marked k 0 xs = xs := by
  unfold marked
  apply List.ext_getElem
  · simp
  · intro j h1 h2; simp
theorem marked_set (k : Int) (i : Nat) (xs : List Int) : (marked k i xs).set i (k + i) = marked k (i + 1) xs := by
  unfold marked
  apply List.ext_getElem
  · simp
  · intro j h1 h2
    simp only [List.getElem_set, List.getElem_mapIdx]
    by_cases e : i = j
    · subst e; simp
    · rw [if_neg e]
      by_cases g : j < i
      · rw [if_pos g, if_pos (by omega)]
      · rw [if_neg g, if_neg (by omega)]
theorem marked_at (k : Int) (n i : Nat) (xs : List Int) (hi : i < n) (hx : i < xs.length) : (marked k n xs).getD i 0 = k + i := by
  rw [List.getD_eq_getElem?_getD, List.getElem?_eq_getElem (by rw [marked_len]; exact hx)]
  simp [marked, hi]

theorem IRow.store {w : World} {base g cap : Nat} {xs : List Int} (h : IRow w base (.slice (some ⟨g, 0, none⟩) xs.length cap) xs) (k : Nat) (u : Int) :
    IRow (w.setCell ⟨g, k, none⟩ (.int .i64 u)) base (.slice (some ⟨g, 0, none⟩) xs.length cap) (xs.set k u) ∧ w.grownBy (w.setCell ⟨g, k, none⟩ (.int .i64 u)) (some g) := by
  obtain ⟨h1, h2⟩ := World.ownsRow.stored h k (.int .i64 u)
  refine ⟨?_, h2⟩
  unfold IRow
  rw [List.length_set, List.map_set]
  exact h1

set_option maxHeartbeats 800000 in
theorem mark_any (xs : List Int) (v : Value) (base : Nat) (k : Int) (w : World) (h : IRow w base v xs) (h0 : 0 ≤ k) (h1 : k + xs.length ≤ 9000000000000000000) :
    Calls Try.prog 11 #[v, .int .i64 k] w fun e w' => e = .returned (.int .i64 (k + xs.length)) ∧ IRow w' base v (marked k xs.length xs) ∧ w.grownBy w' v.ownBlock := by
  rcases h.form with ⟨hx, A, cap, rfl⟩ | ⟨hx, g, cap, rfl, _, _, hl, hm⟩
  · subst hx
    have H := Lib.hid h
    clear h
    go_enter Try.func11, Try.ntmps11
    go_wp2
    go_loop [1, 5] (fun x i => i = .int .i64 0 ∧ x = .int .i64 k) (fun _ _ => 0)
    case atStart => exact ⟨rfl, rfl⟩
    case round =>
      obtain ⟨rfl, rfl⟩ := hrel
      go_wp2
      go_ret
      exact ⟨by simp, H.out, World.grownBy.refl _ _⟩
  · unfold maxLen at hm
    have H := Lib.hid h
    clear h
    have hN : Hid (xs.length = xs.length) := rfl
    generalize hN' : xs.length = N at *
    have HN := Lib.hid hN'
    clear hN'
    go_enter Try.func11, Try.ntmps11
    go_wp2
    go_loopw [1, 5] (fun x i wr => ∃ j : Nat, j ≤ N ∧ i = .int .i64 j ∧ x = .int .i64 (k + j) ∧ Hid (IRow wr base (.slice (some ⟨g, 0, none⟩) N cap) (marked k j xs)) ∧ w.grownBy wr (some g)) (fun _ i _ => N - (intOf i).toNat)
    case atStart => exact ⟨0, by omega, rfl, by simp, by rw [marked_zero]; exact H.out, World.grownBy.refl _ _⟩
    case round =>
      obtain ⟨j, hj, rfl, rfl, hrow, hg⟩ := hrel
      by_cases hlt : j < N
      · have hlen : (marked k j xs).length = N := by rw [marked_len]; exact HN.out
        have hr := hrow.out
        rw [← hlen] at hr
        have c0 := hr.at_ j (by omega)
        have f0 := World.ownsRow.frozenAt hr j
        obtain ⟨hr2, hg2⟩ := hr.store j (k + j)
        rw [marked_set, hlen] at hr2
        have HR2 := Lib.hid hr2
        generalize (marked k j xs).getD j 0 = x at *
        clear hr hr2 hlen
        go_wp2
        exact ⟨⟨j + 1, by omega, by go_num, by go_num, HR2, hg.trans hg2⟩, by simp [intOf]; omega⟩
      · have hjN : j = N := by omega
        have HJ := Lib.hid hjN
        clear hjN
        go_wp2
        go_ret
        exact ⟨by rw [← HJ.out]; rfl, by have q := hrow.out; rw [HJ.out] at q; exact q, hg⟩

set_option maxHeartbeats 800000 in
theorem held_any (xs : List Int) (v : Value) (base : Nat) (k : Int) (w : World) (h : IRow w base v (marked k xs.length xs)) (h0 : 0 ≤ k) (h1 : k + xs.length ≤ 9000000000000000000) :
    Calls Try.prog 12 #[v, .int .i64 k] w fun e w' => e = .returned (.int .i64 (k + xs.length)) ∧ ∃ n, w' = w.drewN n := by
  rcases h.form with ⟨hx, A, cap, rfl⟩ | ⟨hx, g, cap, rfl, _, _, hl, hm⟩
  · have hx0 : xs.length = 0 := by rw [← marked_len k xs.length xs, hx]; rfl
    rw [hx0]
    go_enter Try.func12, Try.ntmps12
    go_wp2
    go_loop [1, 5] (fun x i => i = .int .i64 0 ∧ x = .int .i64 k) (fun _ _ => 0)
    case atStart => exact ⟨rfl, rfl⟩
    case round =>
      obtain ⟨rfl, rfl⟩ := hrel
      go_wp2
      go_ret
      exact ⟨by simp, 0, rfl⟩
  · rw [marked_len] at hx hl h ⊢
    unfold maxLen at hm
    have H := Lib.hid h
    clear h
    generalize hN' : xs.length = N at *
    have HN := Lib.hid hN'
    clear hN'
    go_enter Try.func12, Try.ntmps12
    go_wp2
    go_loopw [1, 5] (fun x i wr => ∃ j : Nat, j ≤ N ∧ i = .int .i64 j ∧ x = .int .i64 (k + j) ∧ ∃ n, wr = w.drewN n) (fun _ i _ => N - (intOf i).toNat)
    case atStart => exact ⟨0, by omega, rfl, by simp, 0, rfl⟩
    case round =>
      obtain ⟨j, hj, rfl, rfl, n, rfl⟩ := hrel
      by_cases hlt : j < N
      · have hlen : (marked k N xs).length = N := by rw [marked_len]; exact HN.out
        have hr := H.out
        rw [← hlen] at hr
        rw [hlen] at hr
        have hr' : IRow w base (.slice (some ⟨g, 0, none⟩) (marked k N xs).length cap) (marked k N xs) := by rw [hlen]; exact H.out
        have c0 := hr'.at_ j (by omega)
        rw [marked_at k N j xs hlt (by rw [HN.out]; exact hlt)] at c0
        clear hr hr' hlen
        go_wp2
        exact ⟨⟨j + 1, by omega, by go_num, by go_num, n, rfl⟩, by simp [intOf]; omega⟩
      · have hjN : j = N := by omega
        have HJ := Lib.hid hjN
        clear hjN
        go_wp2
        go_ret
        exact ⟨by rw [← HJ.out]; rfl, n, rfl⟩
/-- What a call answers that makes a slice of numbers: the slice holds xs, in memory made since the call began. -/
def RowAns (xs : List Int) (ok : Bool) (w : World) (e : Ending) (w' : World) : Prop :=
  ∃ v, e = .returned (.tuple #[v, .bool ok]) ∧ IRow w' w.heap.size v xs ∧ Below w.heap.size w w'
/-- The same of a call with one result. -/
def RowOne (xs : List Int) (w : World) (e : Ending) (w' : World) : Prop :=
  ∃ v, e = .returned v ∧ IRow w' w.heap.size v xs ∧ Below w.heap.size w w'
theorem IRow.nil (w : World) (b : Nat) : IRow w b (.slice none 0 0) [] := World.ownsRow_nil w b _ _
theorem IRow.below {w w' : World} {base : Nat} {v : Value} {xs : List Int} (h : IRow w base v xs) (hb : Below w.heap.size w w') : IRow w' base v xs := by
  refine ⟨h.1, ?_⟩
  rcases h.2 with hn | ⟨g, cap, cur, rfl, hbg, hgg, rest⟩
  · exact .inl hn
  · refine .inr ⟨g, cap, cur, rfl, hbg, ?_, rest⟩
    rw [← hgg]
    refine hb.block g ?_
    rcases Nat.lt_or_ge g w.heap.size with hlt | hge
    · exact hlt
    · rw [Array.getElem?_eq_none hge] at hgg; cases hgg
theorem IRow.mono {w : World} {b b' : Nat} {v : Value} {xs : List Int} (h : IRow w b v xs) (hb : b' ≤ b) : IRow w b' v xs := by
  refine ⟨h.1, ?_⟩
  rcases h.2 with hn | ⟨g, cap, cur, rfl, hbg, rest⟩
  · exact .inl hn
  · exact .inr ⟨g, cap, cur, rfl, Nat.le_trans hb hbg, rest⟩
theorem bel_undrewN {W w1 : World} {n : Nat} (h : Below (W.drewN n).heap.size (W.drewN n) w1) : Below W.heap.size W w1 := ⟨h.os, h.tape, h.output, h.size, h.block⟩
theorem bel_grown {w W w' : World} {b : Nat} {v : Value} {xs : List Int} (h : Below w.heap.size w W) (hg : W.grownBy w' v.ownBlock) (hr : IRow W b v xs) (hb : w.heap.size ≤ b) : Below w.heap.size w w' :=
  h.grown hg h.size fun k hk => Nat.le_trans hb (World.ownsRow.lt hr k hk).1
/-- A row that was there before another one was made is as it was when that one is written. -/
theorem IRow.kept_by {w0 W w' : World} {b0 b1 : Nat} {v0 v1 : Value} {xs ys : List Int} (h : IRow W b0 v0 xs) (hg : W.grownBy w' v1.ownBlock) (h1 : IRow W b1 v1 ys) {n : Nat} (hn : n ≤ w0.heap.size) (h0 : IRow w0 b0 v0 xs) (hb : w0.heap.size ≤ b1 := by exact Nat.le_refl _) : IRow w' b0 v0 xs := by
  refine World.ownsRow.kept h hg ?_
  cases hv : v0.ownBlock with
  | none => exact .inl rfl
  | some k =>
    refine .inr fun he => ?_
    have l0 := (World.ownsRow.lt h0 k hv).2
    have l1 := (World.ownsRow.lt h1 k he.symm).1
    omega

end Go.Proofs.Ythmdkbeccohjkaa
