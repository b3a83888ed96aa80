/- Slices of texts that the calls have made, and the contracts of the law's own helpers over them: held against each other, marked, held against marks. -/
import Derived.Test.YtdfjfojkheikiaaDoorRowI
import Derived.Laws.IdiomStrings
namespace Go.Proofs.YtdfjfojkheikiaaDoor
set_option linter.unusedSimpArgs false
open Go.ChangeShapes Go.WideShapes Go.ChangeAt Go.RowKit
set_option linter.unusedVariables false

/-- v is a slice that holds the texts xs, made since block base. -/
def SRow (w : World) (base : Nat) (v : Value) (xs : List ByteArray) : Prop := w.ownsRow base 9 1 v xs.length (xs.map Value.string)

theorem SRow.form {w : World} {base : Nat} {v : Value} {xs : List ByteArray} (h : SRow w base v xs) :
    (xs = [] ∧ ∃ A cap, v = .slice A 0 cap) ∨ (0 < xs.length ∧ ∃ g cap, v = .slice (some ⟨g, 0, none⟩) xs.length cap ∧ base ≤ g ∧ g < w.heap.size ∧ xs.length ≤ cap ∧ cap ≤ maxLen) := by
  by_cases hx : xs = []
  · subst hx
    rcases h.2 with ⟨rfl, _⟩ | ⟨g, cap, cur, rfl, _⟩
    · exact .inl ⟨rfl, none, 0, rfl⟩
    · exact .inl ⟨rfl, _, cap, rfl⟩
  · have hl : 0 < xs.length := List.length_pos_iff.2 hx
    rcases h.2 with ⟨_, h0⟩ | ⟨g, cap, cur, rfl, hb, hg, hn, hc, _⟩
    · omega
    · refine .inr ⟨hl, g, cap, rfl, hb, ?_, hn, hc⟩
      rcases Nat.lt_or_ge g w.heap.size with hlt | hge
      · exact hlt
      · rw [Array.getElem?_eq_none hge] at hg; cases hg
theorem SRow.at_ {w : World} {base g cap : Nat} {xs : List ByteArray} (h : SRow w base (.slice (some ⟨g, 0, none⟩) xs.length cap) xs) (k : Nat) (hk : k < xs.length) :
    w.cell? ⟨g, k, none⟩ = some (.string (xs.getD k ByteArray.empty)) := by
  rw [World.ownsRow.cellAt h k (by omega), List.getElem?_map, List.getElem?_eq_getElem hk]
  simp [List.getD_eq_getElem?_getD, List.getElem?_eq_getElem hk]
theorem SRow.drewN {w : World} {base : Nat} {v : Value} {xs : List ByteArray} (h : SRow w base v xs) (n : Nat) : SRow (w.drewN n) base v xs := h

set_option maxHeartbeats 800000 in
theorem eqStr_same (xs : List ByteArray) (v0 v1 : Value) (b0 b1 : Nat) (w : World) (h0 : SRow w b0 v0 xs) (h1 : SRow w b1 v1 xs) :
    Calls Tryd.prog 8 #[v0, v1] w fun e w' => e = .returned (.bool true) ∧ ∃ n, w' = w.drewN n := by
  rcases h0.form with ⟨hx, A0, cap0, rfl⟩ | ⟨hx, g0, cap0, rfl, _, _, hl0, hm0⟩
  · rcases h1.form with ⟨hx1, A1, cap1, rfl⟩ | ⟨hx1, g1, cap1, rfl, _, _, hl1, hm1⟩
    · go_enter Tryd.func8, Tryd.ntmps8
      go_wp2
      go_loop [5] (fun i => i = .int .i64 0) (fun _ => 0)
      case atStart => rfl
      case round =>
        obtain rfl := hrel
        go_wp2
        go_ret
        exact ⟨rfl, 0, rfl⟩
    · rw [hx] at hx1; simp at hx1
  · rcases h1.form with ⟨hx1, A1, cap1, rfl⟩ | ⟨hx1, g1, cap1, rfl, _, _, hl1, hm1⟩
    · rw [hx1] at hx; simp at hx
    · unfold maxLen at hm0 hm1
      have H0 := Lib.hid h0
      have H1 := Lib.hid h1
      clear h0 h1
      generalize hN : xs.length = N at *
      go_enter Tryd.func8, Tryd.ntmps8
      go_wp2
      go_loopw [5] (fun i wr => ∃ k : Nat, k ≤ N ∧ i = .int .i64 k ∧ ∃ n, wr = w.drewN n) (fun i _ => N - (intOf i).toNat)
      case atStart => exact ⟨0, by omega, rfl, 0, rfl⟩
      case round =>
        obtain ⟨k, hk, rfl, n, rfl⟩ := hrel
        by_cases hlt : k < N
        · subst hN
          have e0 := H0.out.at_ k hlt
          have e1 := H1.out.at_ k hlt
          generalize xs.getD k ByteArray.empty = x at *
          go_wp2_with fail
          go_quiet (fail)
          go_wp2
          exact ⟨⟨k + 1, by omega, by go_num, _, rfl⟩, by simp [intOf]; omega⟩
        · go_wp2
          go_ret
          exact ⟨rfl, n, rfl⟩

/-- The digits of k ahead of a text. -/
def mkT (k : Nat) (out : ByteArray) : ByteArray := if h : k = 0 then out else mkT (k / 10) (⟨#[UInt8.ofNat (48 + k % 10)]⟩ ++ out)
termination_by k
decreasing_by omega
def mkS (k : Nat) : ByteArray := ⟨#[109]⟩ ++ mkT k ⟨#[]⟩
theorem mkT_zero (out : ByteArray) : mkT 0 out = out := by rw [mkT]; simp
theorem mkT_pos (k : Nat) (hk : 0 < k) (out : ByteArray) : mkT k out = mkT (k / 10) (⟨#[UInt8.ofNat (48 + k % 10)]⟩ ++ out) := by
  rw [mkT, dif_neg (by omega)]

theorem mkT_step (m : Nat) (out : ByteArray) : mkT (m + 1) out = mkT ((m + 1) / 10) (⟨#[UInt8.ofNat (48 + (m + 1) % 10)]⟩ ++ out) := mkT_pos _ (by omega) out
set_option maxRecDepth 100000 in
set_option maxHeartbeats 1600000 in
theorem markText_any (k : Nat) (w : World) (h1 : 1 ≤ k) (h2 : k ≤ 1000000) :
    Calls Tryd.prog 19 #[.int .i64 k] w fun e w' => e = .returned (.string (mkS k)) ∧ Below w.heap.size w w' := by
  have h0 : ¬ (k : Int) ≤ 0 := by omega
  have hfin : Hid (⟨#[109]⟩ ++ mkT k ⟨#[]⟩ = mkS k) := rfl
  go_enter Tryd.func19, Tryd.ntmps19
  go_wp2
  go_loopw [0, 3] (fun x y wr => ∃ (j : Nat) (out : ByteArray), Hid (mkT j out = mkT k ⟨#[]⟩) ∧ out.size + j ≤ k ∧ x = .int .i64 j ∧ y = .string out ∧ Below w.heap.size w wr) (fun x _ _ => (intOf x).toNat)
  case atStart => exact ⟨k, ⟨#[]⟩, rfl, by show 0 + k ≤ k; omega, rfl, rfl, Below.refl _ _⟩
  case round =>
    obtain ⟨j, out, hj, hs, rfl, rfl, hb⟩ := hrel
    cases j with
    | zero =>
      have he := hj.out
      rw [mkT_zero] at he
      have t1 : ¬ 9223372036854775807 < 1 + out.size := by omega
      have he2 : Hid (⟨#[109]⟩ ++ out = mkS k) := Lib.hid (by rw [he]; exact hfin.out)
      clear he
      go_wp2_with fail
      go_ret
      exact ⟨by rw [← he2.out]; rfl, hb⟩
    | succ m =>
      obtain ⟨wa, rfl⟩ : ∃ wa : World, wa = wr := ⟨_, rfl⟩
      have hn := hj.out
      rw [mkT_step] at hn
      obtain ⟨d, hd⟩ : ∃ d, d = (m + 1) % 10 := ⟨_, rfl⟩
      obtain ⟨q, hq⟩ : ∃ q, q = (m + 1) / 10 := ⟨_, rfl⟩
      rw [← hd, ← hq] at hn
      have HN := Lib.hid hn
      have hd9 : d < 10 := by omega
      have hqm : q ≤ m := by omega
      have e1 : ((m + 1 : Nat) : Int).tmod 10 = (d : Int) := by rw [Int.tmod_eq_emod_of_nonneg (by omega)]; omega
      have e0 : ((m : Int) + 1) % 10 = (d : Int) := by omega
      have e2 : IntKind.i64.wrap (((m : Int) + 1) / 10) = (q : Int) := by rw [IntWalk.i64_in _ (by omega)]; omega
      have e3 : ((m : Int) + 1).tmod 10 = (d : Int) := by rw [Int.tmod_eq_emod_of_nonneg (by omega)]; omega
      have e4 : ((m : Int) + 1) / 10 = (q : Int) := by omega
      have w1 : IntKind.i64.wrap (48 + (d : Int)) = 48 + (d : Int) := IntWalk.i64_in _ (by omega)
      have w2 : IntKind.u8.wrap (48 + (d : Int)) = 48 + (d : Int) := IntWalk.u8_in _ (by omega)
      have hconv := run_convert_bytes_back (P := Tryd.prog) (wa.alloc (.cells #[.int .u8 (48 + (d : Int))] 5)) 53 9 5 ⟨wa.heap.size, 0, none⟩ 1 [UInt8.ofNat (48 + d)] Tryd.underlying53 Tryd.underlying5 Tryd.underlying9 (fun i hi => by
        obtain rfl : i = 0 := by simpa using hi
        rw [Addr.add_lit, Nat.zero_add]
        simp [go_sem]
        omega)
      simp only [List.length_singleton] at hconv
      have t1 : ¬ 9223372036854775807 < 1 + out.size := by omega
      have hpos : (0 : Int) < (m : Int) + 1 := by omega
      clear hn hd hq
      have hc : Hid ((⟨#[48 + UInt8.ofNat d]⟩ : ByteArray) = ⟨#[UInt8.ofNat (48 + d)]⟩) := Lib.hid (by simp [UInt8.ofNat_add])
      have E4 := Lib.hid e4
      have Hsz : Hid (((⟨#[48 + UInt8.ofNat d]⟩ : ByteArray) ++ out).size + q ≤ k) := by
        refine Lib.hid ?_
        rw [ByteArray.size_append]
        show 1 + out.size + q ≤ k
        omega
      have Hqm := Lib.hid hqm
      go_wp2_with fail
      exact ⟨⟨q, _, by rw [hc.out]; exact HN, Hsz.out, by rw [E4.out], rfl, bel_alloc hb _⟩, by rw [E4.out]; have := Hqm.out; simp [intOf]; omega⟩

/-- The texts xs, the first i of them marked: m and k, m and k + 1, .. -/
def markedS (k : Nat) (i : Nat) (xs : List ByteArray) : List ByteArray := xs.mapIdx (fun j x => if j < i then mkS (k + j) else x)
theorem markedS_len (k : Nat) (i : Nat) (xs : List ByteArray) : (markedS k i xs).length = xs.length := by simp [markedS]
theorem markedS_zero (k : Nat) (xs : List ByteArray) : markedS k 0 xs = xs := by
  unfold markedS
  apply List.ext_getElem
  · simp
  · intro j h1 h2; simp
theorem markedS_set (k : Nat) (i : Nat) (xs : List ByteArray) : (markedS k i xs).set i (mkS (k + i)) = markedS k (i + 1) xs := by
  unfold markedS
  apply List.ext_getElem
  · simp
  · intro j h1 h2
    simp only [List.getElem_set, List.getElem_mapIdx]
    by_cases e : i = j
    · subst e; simp
    · rw [if_neg e]
      by_cases g : j < i
      · rw [if_pos g, if_pos (by omega)]
      · rw [if_neg g, if_neg (by omega)]
theorem markedS_at (k : Nat) (n i : Nat) (xs : List ByteArray) (hi : i < n) (hx : i < xs.length) : (markedS k n xs).getD i ByteArray.empty = mkS (k + i) := by
  rw [List.getD_eq_getElem?_getD, List.getElem?_eq_getElem (by rw [markedS_len]; exact hx)]
  simp [markedS, hi]

theorem SRow.store {w : World} {base g cap : Nat} {xs : List ByteArray} (h : SRow w base (.slice (some ⟨g, 0, none⟩) xs.length cap) xs) (k : Nat) (u : ByteArray) :
    SRow (w.setCell ⟨g, k, none⟩ (.string u)) base (.slice (some ⟨g, 0, none⟩) xs.length cap) (xs.set k u) ∧ w.grownBy (w.setCell ⟨g, k, none⟩ (.string u)) (some g) := by
  obtain ⟨h1, h2⟩ := World.ownsRow.stored h k (.string u)
  refine ⟨?_, h2⟩
  unfold SRow
  rw [List.length_set, List.map_set]
  exact h1
theorem SRow.nil (w : World) (b : Nat) : SRow w b (.slice none 0 0) [] := World.ownsRow_nil w b _ _
theorem SRow.below {w w' : World} {base : Nat} {v : Value} {xs : List ByteArray} (h : SRow w base v xs) (hb : Below w.heap.size w w') : SRow w' base v xs := by
  refine ⟨h.1, ?_⟩
  rcases h.2 with hn | ⟨g, cap, cur, rfl, hbg, hgg, rest⟩
  · exact .inl hn
  · refine .inr ⟨g, cap, cur, rfl, hbg, ?_, rest⟩
    rw [← hgg]
    refine hb.block g ?_
    rcases Nat.lt_or_ge g w.heap.size with hlt | hge
    · exact hlt
    · rw [Array.getElem?_eq_none hge] at hgg; cases hgg
theorem SRow.mono {w : World} {b b' : Nat} {v : Value} {xs : List ByteArray} (h : SRow w b v xs) (hb : b' ≤ b) : SRow w b' v xs := by
  refine ⟨h.1, ?_⟩
  rcases h.2 with hn | ⟨g, cap, cur, rfl, hbg, rest⟩
  · exact .inl hn
  · exact .inr ⟨g, cap, cur, rfl, Nat.le_trans hb hbg, rest⟩
theorem bel_grownS {w W w' : World} {b : Nat} {v : Value} {xs : List ByteArray} (h : Below w.heap.size w W) (hg : W.grownBy w' v.ownBlock) (hr : SRow W b v xs) (hb : w.heap.size ≤ b) : Below w.heap.size w w' :=
  h.grown hg h.size fun k hk => Nat.le_trans hb (World.ownsRow.lt hr k hk).1
theorem SRow.kept_by {w0 W w' : World} {b0 b1 : Nat} {v0 v1 : Value} {xs ys : List ByteArray} (h : SRow W b0 v0 xs) (hg : W.grownBy w' v1.ownBlock) (h1 : SRow W b1 v1 ys) {n : Nat} (hn : n ≤ w0.heap.size) (h0 : SRow w0 b0 v0 xs) (hb : w0.heap.size ≤ b1 := by exact Nat.le_refl _) : SRow w' b0 v0 xs := by
  refine World.ownsRow.kept h hg ?_
  cases hv : v0.ownBlock with
  | none => exact .inl rfl
  | some k =>
    refine .inr fun he => ?_
    have l0 := (World.ownsRow.lt h0 k hv).2
    have l1 := (World.ownsRow.lt h1 k he.symm).1
    omega

set_option maxHeartbeats 1600000 in
theorem markS_any (xs : List ByteArray) (v : Value) (base : Nat) (k : Nat) (w : World) (h : SRow w base v xs) (h0 : 1 ≤ k) (h1 : k + xs.length ≤ 1000000) (hB : base ≤ w.heap.size) :
    Calls Tryd.prog 9 #[v, .int .i64 k] w fun e w' => e = .returned (.int .i64 ((k : Int) + xs.length)) ∧ SRow w' base v (markedS k xs.length xs) ∧ Below base w w' := by
  rcases h.form with ⟨hx, A, cap, rfl⟩ | ⟨hx, g, cap, rfl, hbg, hgl, hl, hm⟩
  · subst hx
    have H := Lib.hid h
    clear h
    go_enter Tryd.func9, Tryd.ntmps9
    go_wp2
    go_loop [1, 5] (fun x i => i = .int .i64 0 ∧ x = .int .i64 k) (fun _ _ => 0)
    case atStart => exact ⟨rfl, rfl⟩
    case round =>
      obtain ⟨rfl, rfl⟩ := hrel
      go_wp2
      go_ret
      exact ⟨by simp, H.out, Below.refl _ _⟩
  · unfold maxLen at hm
    have H := Lib.hid h
    clear h
    generalize hN' : xs.length = N at *
    have HN := Lib.hid hN'
    clear hN'
    go_enter Tryd.func9, Tryd.ntmps9
    go_wp2
    go_loopw [1, 5] (fun x i wr => ∃ j : Nat, j ≤ N ∧ i = .int .i64 j ∧ x = .int .i64 ((k : Int) + j) ∧ Hid (SRow wr base (.slice (some ⟨g, 0, none⟩) N cap) (markedS k j xs)) ∧ Below base w wr) (fun _ i _ => N - (intOf i).toNat)
    case atStart => exact ⟨0, by omega, rfl, by simp, by rw [markedS_zero]; exact H.out, Below.refl _ _⟩
    case round =>
      obtain ⟨j, hj, rfl, rfl, hrow, hg⟩ := hrel
      obtain ⟨wa, rfl⟩ : ∃ wa : World, wa = wr := ⟨_, rfl⟩
      have hsz := hg.size
      by_cases hlt : j < N
      · have hcall : ∀ W : World, Calls Tryd.prog 19 #[.int .i64 ((k : Int) + j)] W fun e w' => e = .returned (.string (mkS (k + j))) ∧ Below W.heap.size W w' := fun W => markText_any (k + j) W (by omega) (by omega)
        have hki : (j : Int) < (N : Int) := by omega
        go_wp2_with fail
        refine (hcall _).mono ?_
        rintro e w2 ⟨rfl, hb2⟩
        have hlen : (markedS k j xs).length = N := by rw [markedS_len]; exact HN.out
        have hr := hrow.out.below hb2
        rw [← hlen] at hr
        have c0 := hr.at_ j (by omega)
        have f0 := World.ownsRow.frozenAt hr j
        obtain ⟨hr2, hg2⟩ := hr.store j (mkS (k + j))
        rw [markedS_set, hlen] at hr2
        have HR2 := Lib.hid hr2
        have Hb3 : Hid (Below base w (w2.setCell ⟨g, j, none⟩ (.string (mkS (k + j))))) := Lib.hid ((hg.trans (hb2.mono (Nat.le_trans hB hsz))).setCell hbg _)
        clear hr hr2 hlen hg2
        generalize (markedS k j xs).getD j ByteArray.empty = x at *
        generalize mkS (k + j) = U at *
        go_wp2
        exact ⟨⟨j + 1, by omega, by go_num, by simp; omega, HR2, Hb3.out⟩, by simp [intOf]; omega⟩
      · have hjN : j = N := by omega
        have HJ := Lib.hid hjN
        clear hjN
        go_wp2
        go_ret
        exact ⟨by rw [← HJ.out]; rfl, by have q := hrow.out; rw [HJ.out] at q; exact q, hg⟩

theorem heldS_keep {w W w1 : World} {g j : Nat} {x : Value} (h : Below w.heap.size w W ∧ g < W.heap.size ∧ W.cell? ⟨g, j, none⟩ = some x) (hb : Below W.heap.size W w1) :
    Below w.heap.size w w1 ∧ g < w1.heap.size ∧ w1.cell? ⟨g, j, none⟩ = some x :=
  ⟨h.1.trans (hb.mono h.1.size), Nat.lt_of_lt_of_le h.2.1 hb.size, (hb.cell (p := ⟨g, j, none⟩) h.2.1).trans h.2.2⟩
theorem heldS_self {w W : World} {g j : Nat} {x : Value} (h : Below w.heap.size w W ∧ g < W.heap.size ∧ W.cell? ⟨g, j, none⟩ = some x) : Below w.heap.size w W := h.1

set_option maxHeartbeats 1600000 in
theorem heldS_any (xs : List ByteArray) (v : Value) (base : Nat) (k : Nat) (w : World) (h : SRow w base v (markedS k xs.length xs)) (h0 : 1 ≤ k) (h1 : k + xs.length ≤ 1000000) :
    Calls Tryd.prog 10 #[v, .int .i64 k] w fun e w' => e = .returned (.int .i64 ((k : Int) + xs.length)) ∧ Below w.heap.size w w' := by
  rcases h.form with ⟨hx, A, cap, rfl⟩ | ⟨hx, g, cap, rfl, hbg, hgl, hl, hm⟩
  · have hx0 : xs.length = 0 := by rw [← markedS_len k xs.length xs, hx]; rfl
    rw [hx0]
    go_enter Tryd.func10, Tryd.ntmps10
    go_wp2
    go_loop [1, 5] (fun x i => i = .int .i64 0 ∧ x = .int .i64 k) (fun _ _ => 0)
    case atStart => exact ⟨rfl, rfl⟩
    case round =>
      obtain ⟨rfl, rfl⟩ := hrel
      go_wp2
      go_ret
      exact ⟨by simp, Below.refl _ _⟩
  · rw [markedS_len] at hx hl
    have h' := h
    rw [markedS_len] at h' ⊢
    unfold maxLen at hm
    have H := Lib.hid h
    clear h h'
    generalize hN' : xs.length = N at *
    have HN := Lib.hid hN'
    clear hN'
    go_enter Tryd.func10, Tryd.ntmps10
    go_wp2
    go_loopw [1, 5] (fun x i wr => ∃ j : Nat, j ≤ N ∧ i = .int .i64 j ∧ x = .int .i64 ((k : Int) + j) ∧ Below w.heap.size w wr) (fun _ i _ => N - (intOf i).toNat)
    case atStart => exact ⟨0, by omega, rfl, by simp, Below.refl _ _⟩
    case round =>
      obtain ⟨j, hj, rfl, rfl, hg⟩ := hrel
      obtain ⟨wa, rfl⟩ : ∃ wa : World, wa = wr := ⟨_, rfl⟩
      by_cases hlt : j < N
      · have hcall : ∀ W : World, Calls Tryd.prog 19 #[.int .i64 ((k : Int) + j)] W fun e w' => e = .returned (.string (mkS (k + j))) ∧ Below W.heap.size W w' := fun W => markText_any (k + j) W (by omega) (by omega)
        have hlen : (markedS k N xs).length = N := by rw [markedS_len]; exact HN.out
        have hr := H.out.below hg
        have c0 := hr.at_ j (by omega)
        rw [markedS_at k N j xs hlt (by rw [HN.out]; exact hlt)] at c0
        have hgw : g < wa.heap.size := Nat.lt_of_lt_of_le (World.ownsRow.lt H.out g rfl).2 hg.size
        have hki : (j : Int) < (N : Int) := by omega
        clear hr hlen
        generalize mkS (k + j) = U at *
        go_wp2_with fail
        go_region_held3 (fun w' => Below w.heap.size w w' ∧ g < w'.heap.size ∧ w'.cell? ⟨g, j, none⟩ = some (.string U)) (first | exact ⟨hg.drew, hgw, c0⟩ | exact heldS_keep (by assumption) hb2 | assumption | go_keep) (first | (go_at_call 19; refine (hcall _).mono ?_; rintro e w2 ⟨rfl, hb2⟩))
        all_goals
          have hgE := heldS_self (by assumption)
          go_wp2
          exact ⟨⟨j + 1, by omega, by go_num, by simp; omega, hgE⟩, by simp [intOf]; omega⟩
      · have hjN : j = N := by omega
        have HJ := Lib.hid hjN
        clear hjN
        go_wp2
        go_ret
        exact ⟨by rw [← HJ.out]; rfl, hg⟩
end Go.Proofs.YtdfjfojkheikiaaDoor
