/- All texts of tosses led on together, for several patterns: the contract of the program's loop over a map. -/
import Derived.Test.YtjckmnbpfmcadacDoorMapG
namespace Go.Proofs.YtjckmnbpfmcadacDoor
set_option linter.unusedSimpArgs false
open Go.ChangeShapes Go.WideShapes Go.ChangeAt Go.RowKit Go.Maps Go.Sort
set_option linter.unusedVariables false

theorem lawS : Keyed Tryd.prog 9 := string_keyed Tryd.underlying9
theorem own_empty {w : World} {b n : Nat} {D : MD} (h : World.ownsMap (H := Unit) w Tryd.prog 9 (plainElem Tryd.prog 3) b n D) (he : ∀ kl, Maps.has D kl = false) : World.ownsMap (H := Unit) w Tryd.prog 9 (plainElem Tryd.prog 3) b 0 D := by
  obtain ⟨es', hD, hpw, hk⟩ := h.entries lawS
  obtain ⟨es, clock, h1, h2, h3, h4⟩ := h
  refine ⟨es, clock, h1, h2, ?_, h4⟩
  have hl := length_read (R0 := plainElem (H := Unit) Tryd.prog 3) es (P := Tryd.prog) (k := 9)
  rw [hD] at h4
  injection h4 with h5
  rw [← h5] at hl
  cases es' with
  | nil => simp at hl; omega
  | cons q l =>
    have := he q.1
    rw [hD, has_eq] at this
    have hq := hk q (by simp)
    have hs : q.1.sameKey q.1 = true := by
      cases hq1 : q.1 with
      | bool x => simp [Lit.sameKey]
      | int k x => simp [Lit.sameKey]
      | string x => simp [Lit.sameKey]
      | _ => rw [hq1] at hq; exact hq.elim
    simp [hs] at this
theorem litZ_inj {x y : Int} (h : litZ x = litZ y) : x = y := by
  injection h with h1
  injection h1
/-- A scope in which the run jumps back to its one label: one walk from the label on serves the first pass and the others. -/
theorem scope_jumps {P : Program} {a : Act} {w : World} {Q : Exit → Act → World → Prop} {c rest : Code} (l : Nat) (J : Act → World → Prop) (μ : Act → World → Nat) (hf : findLabel c l = some (Code.skip.seq rest))
    (first : (∀ a w, J a w → rest.wp P (Exit.jump l J Q) a w) → c.wp P (Exit.jump l J Q) a w)
    (pass : ∀ a w, J a w → rest.wp P (Exit.jump l (fun a' w' => J a' w' ∧ μ a' w' < μ a w) Q) a w) : (Code.scope c).wp P Q a w :=
  wp_scope_jumps l J μ hf (first fun a w h => wp_mono (pass a w h) fun e a w h => by
    cases e with
    | goto l' => exact ⟨h.1, h.2.1⟩
    | _ => exact h) (fun a w h => wp_seq (wp_skip (pass a w h)))
/-- The slots that hold what is of no account at the label. -/
structure FrU where
  u4 : Value
  u5 : Value
  u6 : Value
  u7 : Value
  u13 : Value
  u14 : Value
  u15 : Value
  u16 : Value
  u17 : Value
  u18 : Value
  u19 : Value
  u20 : Value
  u21 : Value
  u22 : Value
  u23 : Value
  u24 : Value
  u25 : Value
  u26 : Value
  u27 : Value
  u28 : Value
  u29 : Value
  u30 : Value
  u31 : Value
  u32 : Value
  u33 : Value
  u34 : Value
  u35 : Value
  u36 : Value
  u37 : Value
  u38 : Value
  u39 : Value
  u40 : Value
  u41 : Value
  u42 : Value
  u43 : Value
  u44 : Value
  u45 : Value
  u46 : Value
  u47 : Value
  u48 : Value
  u49 : Value
  u50 : Value
  u51 : Value
  u52 : Value
  u53 : Value
  u54 : Value
  u55 : Value
  u56 : Value
  u57 : Value
  u58 : Value
  u59 : Value
  u60 : Value
  u61 : Value
  u62 : Value
  u63 : Value
  u64 : Value
  u65 : Value
  u66 : Value
  u67 : Value
  u68 : Value
  u69 : Value
  u70 : Value
  u71 : Value
  u72 : Value
  u73 : Value
  u74 : Value
  u75 : Value
  u76 : Value
  u77 : Value
  u78 : Value
  u79 : Value
  u80 : Value
  u81 : Value
  u82 : Value
  u83 : Value
  u84 : Value
  u85 : Value
  u86 : Value
  u87 : Value
def FrU.of (A : Array Value) : FrU := ⟨A.getD 4 undef, A.getD 5 undef, A.getD 6 undef, A.getD 7 undef, A.getD 13 undef, A.getD 14 undef, A.getD 15 undef, A.getD 16 undef, A.getD 17 undef, A.getD 18 undef, A.getD 19 undef, A.getD 20 undef, A.getD 21 undef, A.getD 22 undef, A.getD 23 undef, A.getD 24 undef, A.getD 25 undef, A.getD 26 undef, A.getD 27 undef, A.getD 28 undef, A.getD 29 undef, A.getD 30 undef, A.getD 31 undef, A.getD 32 undef, A.getD 33 undef, A.getD 34 undef, A.getD 35 undef, A.getD 36 undef, A.getD 37 undef, A.getD 38 undef, A.getD 39 undef, A.getD 40 undef, A.getD 41 undef, A.getD 42 undef, A.getD 43 undef, A.getD 44 undef, A.getD 45 undef, A.getD 46 undef, A.getD 47 undef, A.getD 48 undef, A.getD 49 undef, A.getD 50 undef, A.getD 51 undef, A.getD 52 undef, A.getD 53 undef, A.getD 54 undef, A.getD 55 undef, A.getD 56 undef, A.getD 57 undef, A.getD 58 undef, A.getD 59 undef, A.getD 60 undef, A.getD 61 undef, A.getD 62 undef, A.getD 63 undef, A.getD 64 undef, A.getD 65 undef, A.getD 66 undef, A.getD 67 undef, A.getD 68 undef, A.getD 69 undef, A.getD 70 undef, A.getD 71 undef, A.getD 72 undef, A.getD 73 undef, A.getD 74 undef, A.getD 75 undef, A.getD 76 undef, A.getD 77 undef, A.getD 78 undef, A.getD 79 undef, A.getD 80 undef, A.getD 81 undef, A.getD 82 undef, A.getD 83 undef, A.getD 84 undef, A.getD 85 undef, A.getD 86 undef, A.getD 87 undef⟩
theorem fr_intro {A : Act} {fr : FrU → Act} {P : Prop} (h : A = fr (FrU.of A.tmps)) (hp : P) : ∃ U, A = fr U ∧ P := ⟨_, h, hp⟩
abbrev ownM (w : World) (b n : Nat) (D : MD) : Prop := World.ownsMap (H := Unit) w Tryd.prog 9 (plainElem Tryd.prog 3) b n D
abbrev fstV (g N : Nat) : Value := .slice (some ⟨g, 0, none⟩) (N + 1) (N + 1)
/-- The state at the label: what both maps hold, and how many have been won with the last toss. -/
def TG (key : Nat → ByteArray) (n N : Nat) (F : Nat → Nat → Int) (s b1 b2 g : Nat) (w0 w : World) : Prop :=
  ∃ (D1 D2 : MD) (n1 : Nat), ownM w b1 n1 D1 ∧ n1 ≤ 2 ^ s ∧ MG D1 key (n + (N + 1)) (fun j => decide (j < n)) (fun j => if j < n then F s j else 0) ∧ ownM w b2 0 D2 ∧ (∀ kl, Maps.has D2 kl = false) ∧ b1 ≠ b2 ∧ w0.heap.size ≤ b1 ∧ w0.heap.size ≤ b2 ∧ Below w0.heap.size w0 w ∧ IRow w w0.heap.size (fstV g N) (rowF N (fun k => F s (n + k))) ∧ w0.heap.size ≤ g ∧ g ≠ b1 ∧ g ≠ b2
theorem keyOfS (x : ByteArray) (hx : x.size ≤ 100) : keyOf Tryd.prog 9 (.string x) = some (.string x.data.toList) := Go.WideMaps.keyOf_string_mk Tryd.underlying9 (by unfold maxLen; omega)

theorem fst_kept {w w' : World} {b g N : Nat} {xs : List Int} {row : Option Nat} (h : IRow w b (fstV g N) xs) (hg : w.grownBy w' row) (hr : row ≠ some g) : IRow w' b (fstV g N) xs :=
  World.ownsRow.kept h hg (.inr (by simpa [Value.ownBlock] using fun e => hr e.symm))
theorem fst_lt {w : World} {b g N : Nat} {xs : List Int} (h : IRow w b (fstV g N) xs) : g < w.heap.size := (World.ownsRow.lt h g rfl).2
/-- What has been won: the first k of them are told anew. -/
def midF (f f' : Nat → Int) (k : Nat) : Nat → Int := fun i => if i < k then f i else f' i
theorem midF_zero (f f' : Nat → Int) (N : Nat) : rowF N (midF f f' 0) = rowF N f' := rowF_congr N fun k _ => by unfold midF; rw [if_neg (by omega)]
theorem midF_all (f f' : Nat → Int) (N : Nat) : rowF N (midF f f' (N + 1)) = rowF N f := rowF_congr N fun k hk => by unfold midF; rw [if_pos (by omega)]
def leftP (n k : Nat) : Nat → Bool := fun j => decide (j < n) || decide (n + k ≤ j)
def leftF (f : Nat → Int) (n k : Nat) : Nat → Int := fun j => if n ≤ j ∧ j < n + k then 0 else f j

set_option maxRecDepth 100000 in
set_option maxHeartbeats 12800000 in
theorem tossG_any (xs : List ByteArray) (v : Value) (n N : Nat) (key : Nat → ByteArray) (gh gt : Nat → Nat) (P : Pres xs n key gh gt) (hN : xs.length = N + 1) (h40 : N ≤ 40) (a b : Int) (t base : Nat) (w : World) (hR : SRow w base v xs) (ht : t ≤ 40) (ha : 0 ≤ a) (ha2 : a ≤ 10) (hb : 0 ≤ b) (hb2 : b ≤ 10) (hM : ∀ s, s ≤ t → (a + b) ^ s ≤ 4000000000000) :
    Calls Tryd.prog 38 #[v, .int .i64 a, .int .i64 b, .int .i64 t] w fun e w' => ∃ v', e = .returned (.tuple #[.int .i64 (sumJ (cnt gh gt a b n t) n), v']) ∧ IRow w' w.heap.size v' (rowF N (fun k => cnt gh gt a b n t (n + k))) ∧ Below w.heap.size w w' := by
  have hFs : Hid (∀ s k, cnt gh gt a b n (s + 1) k = stp gh gt a b (cnt gh gt a b n s) n k) := Lib.hid (fun s k => rfl)
  have hFn : Hid (∀ s k, 0 ≤ cnt gh gt a b n s k) := Lib.hid (fun s k => cnt_nonneg _ _ ha hb _ s k)
  have hFt : Hid (∀ s, s ≤ t → sumJ (cnt gh gt a b n s) n ≤ 4000000000000) := Lib.hid (fun s hs => Int.le_trans (cnt_sum _ _ ha hb n s) (hM s hs))
  have hF1 : Hid (∀ k, cnt gh gt a b n 0 k = if k = 0 then 1 else 0) := Lib.hid (fun k => rfl)
  have hFb : Hid (∀ s k, s ≤ t → 0 ≤ cnt gh gt a b n s k ∧ cnt gh gt a b n s k ≤ 80000000000000) := Lib.hid (fun s k hs => by
    refine ⟨cnt_nonneg _ _ ha hb _ s k, ?_⟩
    cases s with
    | zero => show (if k = 0 then (1 : Int) else 0) ≤ _; split <;> omega
    | succ s =>
      have h1 := stp_le gh gt ha hb n k (f := cnt gh gt a b n s) (fun j _ => cnt_nonneg _ _ ha hb _ s j)
      have h2 := Int.le_trans (cnt_sum gh gt ha hb n s) (hM s (by omega))
      have h3 : (a + b) * sumJ (cnt gh gt a b n s) n ≤ 20 * 4000000000000 := Int.mul_le_mul (by omega) h2 (sumJ_nonneg _ fun j _ => cnt_nonneg _ _ ha hb _ s j) (by omega)
      exact Int.le_trans h1 (by omega))
  generalize hF : cnt gh gt a b n = F at *
  clear hF hM
  have hv : ∃ gp cap, v = .slice (some ⟨gp, 0, none⟩) (N + 1) cap := by
    rcases hR.form with ⟨hx, _⟩ | ⟨hx, g, cap, rfl, _⟩
    · rw [hx] at hN; simp at hN
    · rw [hN]; exact ⟨g, cap, rfl⟩
  have HP := Lib.hid P
  have HN := Lib.hid hN
  have HR := Lib.hid hR
  have hn0 := P.pos
  clear P hN hR
  obtain ⟨gp, capp, rfl⟩ := hv
  go_enter Tryd.func38, Tryd.ntmps38
  go_wp2
  refine scope_jumps 0 (fun a2 w2 => ∃ (r b1 b2 g : Nat) (U : FrU), a2 = { tmps := #[.slice (some ⟨gp, 0, none⟩) (N + 1) capp, .int .i64 a, .int .i64 b, .int .i64 r, U.u4, U.u5, U.u6, U.u7, .int .i64 0, .slice none 0 0, .map (some b1), .map (some b2), .slice (some ⟨g, 0, none⟩) (N + 1) (N + 1), U.u13, U.u14, U.u15, U.u16, U.u17, U.u18, U.u19, U.u20, U.u21, U.u22, U.u23, U.u24, U.u25, U.u26, U.u27, U.u28, U.u29, U.u30, U.u31, U.u32, U.u33, U.u34, U.u35, U.u36, U.u37, U.u38, U.u39, U.u40, U.u41, U.u42, U.u43, U.u44, U.u45, U.u46, U.u47, U.u48, U.u49, U.u50, U.u51, U.u52, U.u53, U.u54, U.u55, U.u56, U.u57, U.u58, U.u59, U.u60, U.u61, U.u62, U.u63, U.u64, U.u65, U.u66, U.u67, U.u68, U.u69, U.u70, U.u71, U.u72, U.u73, U.u74, U.u75, U.u76, U.u77, U.u78, U.u79, U.u80, U.u81, U.u82, U.u83, U.u84, U.u85, U.u86, U.u87], defers := [] } ∧ r ≤ t ∧ TG key n N F (t - r) b1 b2 g w w2) (fun a2 _ => (intOf (a2.tmps.getD 3 undef)).toNat) rfl ?first ?pass
  case first =>
    intro pass
    have hmk : ∀ W : World, (Instr.makeMap 63 none).run Tryd.prog W = .ok (.map (some W.heap.size)) (W.alloc (.map #[] 0)) := fun W => run_makeMap _ W
    have hmkS : ∀ W : World, (Instr.makeSlice 48 (.int .i64 ((N : Int) + 1)) (.int .i64 ((N : Int) + 1))).run Tryd.prog W = .ok (.slice (some ⟨W.heap.size, 0, none⟩) (N + 1) (N + 1)) (W.alloc (.cells (Array.replicate (N + 1) (.int .i64 0)) 3)) := fun W => by
      have := mk_ints (N + 1) (by omega) W
      simpa using this
    have hk0 : keyL key 0 = .string [] := by unfold keyL; rw [HP.out.zero]
    have hkey0 : keyOf Tryd.prog 9 (.string ⟨#[]⟩) = some (keyL key 0) := by rw [hk0]; exact Go.WideMaps.keyOf_string_mk Tryd.underlying9 (by decide)
    have hv0 : plainElem (H := Unit) Tryd.prog 3 (.int .i64 1) = some (litZ 1, []) := plainElem_int Tryd.underlying3 (Go.WalkArith.wf_i64 (by omega))
    obtain ⟨wa, hrun1, hown1, hg1⟩ := (World.ownsMap_made (H := Unit) w Tryd.prog 9 (plainElem Tryd.prog 3)).update lawS Tryd.underlying63 (by decide) hkey0 hv0
    have hbl1 : Below w.heap.size w wa := (bel_alloc (Below.refl _ w) (.map #[] 0)).grown hg1 (by show w.heap.size ≤ (w.heap.push _).size; simp) (fun k e => by cases e; exact Nat.le_refl _)
    have hb1lt : w.heap.size < wa.heap.size := hown1.lt
    have how1 := Lib.hid ((hown1.alloc (.map #[] 0)).alloc (.cells (Array.replicate (N + 1) (.int .i64 0)) 3))
    have how2 := Lib.hid ((World.ownsMap_made (H := Unit) wa Tryd.prog 9 (plainElem Tryd.prog 3)).alloc (.cells (Array.replicate (N + 1) (.int .i64 0)) 3))
    have hbl2 := Lib.hid (bel_alloc (bel_alloc hbl1 (.map #[] 0)) (.cells (Array.replicate (N + 1) (.int .i64 0)) 3))
    have hrw0 := IRow.made (wa.alloc (.map #[] 0)) (N + 1) (by omega)
    rw [← rowF_zero] at hrw0
    have hsz2 : (wa.alloc (.map #[] 0)).heap.size = wa.heap.size + 1 := by simp
    have hrow0 : Hid (IRow ((wa.alloc (.map #[] 0)).alloc (.cells (Array.replicate (N + 1) (.int .i64 0)) 3)) w.heap.size (fstV (wa.heap.size + 1) N) (rowF N (fun k => F (t - t) (n + k)))) := by
      refine Lib.hid ?_
      rw [← hsz2]
      rw [rowF_congr N (g := fun _ => 0) (fun k _ => by rw [Nat.sub_self, hF1.out, if_neg (by omega)])]
      exact hrw0.mono (by have := (bel_alloc hbl1 (.map #[] 0)).size; exact this)
    have hbs := Lib.hid hbl1.size
    have Hb1lt := Lib.hid hb1lt
    have hmf0 : MG (DataW.put (.map []) (keyL key 0) (litZ 1)) key (n + (N + 1)) (fun j => decide (j < n)) (fun j => if j < n then F (t - t) j else 0) := by
      have h0 := (MG.none_ (D := .map []) ⟨[], rfl⟩ key (n + xs.length) (fun j => decide (j < n)) (fun kl => rfl)).put HP.out 0 (by omega) (by simpa using hn0) 1
      rw [HN.out] at h0
      refine h0.congr fun j hj => ?_
      rw [Nat.sub_self]
      unfold ind
      by_cases e : j = 0
      · subst e
        rw [if_pos rfl, if_pos hn0, hF1.out, if_pos rfl]; rfl
      · rw [if_neg (fun q => e q.symm)]
        by_cases e2 : j < n
        · rw [if_pos e2, hF1.out, if_neg e]; rfl
        · rw [if_neg e2]; rfl
    have Hmf0 := Lib.hid hmf0
    have Hsz2 := Lib.hid hsz2
    clear hown1 hg1 hbl1 hb1lt hmf0 hkey0 hv0 hk0 hrw0 hsz2
    go_wp2_with fail
    go_step3
    rename_i hK
    exact hK _ _ (pass _ _ ⟨t, w.heap.size, wa.heap.size, wa.heap.size + 1, ⟨_, _, _, _, _, _, _, _, _, _, _, _, _, _, _, _, _, _, _, _, _, _, _, _, _, _, _, _, _, _, _, _, _, _, _, _, _, _, _, _, _, _, _, _, _, _, _, _, _, _, _, _, _, _, _, _, _, _, _, _, _, _, _, _, _, _, _, _, _, _, _, _, _, _, _, _, _, _, _⟩, rfl, Nat.le_refl _, ⟨_, _, 1, how1.out, by rw [Nat.sub_self]; exact Nat.le_refl _, Hmf0.out, how2.out, fun kl => rfl, by have := Hb1lt.out; omega, Nat.le_refl _, hbs.out, hbl2.out, hrow0.out, by have := hbs.out; omega, by have := Hb1lt.out; omega, by omega⟩⟩)
  case pass =>
    rintro a' w' ⟨r, b1, b2, g, U, rfl, hr, D1, D2, n1, ho1, hn1, hm1, ho2, hz2, hne, hb1, hb2', hbel, hI, hgb, hg1, hg2'⟩
    cases r with
    | zero =>
      rw [Nat.sub_zero] at hm1 hn1 hI
      have hsz := hbel.size
      have hp0 := partSG_start hm1 (n := n) (by omega)
      have hff : Hid (∀ j, j < n → (fun j => if j < n then F t j else 0) j = F t j) := Lib.hid (fun j hj => if_pos hj)
      have hsum : Hid (sumJ (fun j => if j < n then F t j else 0) n = sumJ (F t) n) := Lib.hid (sumJ_congr _ fun j hj => if_pos hj)
      have hnn : Hid (∀ j, j < n → 0 ≤ (fun j => if j < n then F t j else 0) j) := Lib.hid (fun j hj => by rw [hff.out j hj]; exact hFn.out t j)
      have hsM : Hid (sumJ (fun j => if j < n then F t j else 0) n ≤ 4000000000000) := Lib.hid (by rw [hsum.out]; exact hFt.out t (Nat.le_refl _))
      generalize (fun j => if j < n then F t j else 0) = f at *
      have Hm1 := Lib.hid hm1
      have HI := Lib.hid hI
      have hglt := fst_lt hI
      clear hff ho2 hm1 hI
      obtain ⟨r0, hr0⟩ : ∃ n, n = w'.heap.size := ⟨_, rfl⟩
      have hr0b : w.heap.size ≤ r0 := by omega
      have hgr0 : g < r0 := by omega
      have Hr0 := Lib.hid hr0
      clear hr0
      go_wp2_with (at_range; refine wpList_range_own _ rfl _ 63 rfl 9 3 lawS Tryd.underlying63 _ b1 n1 _ rfl ho1 ?_; intro w0 hrg0 hg0 hs0)
      rw [← Hr0.out] at hrg0
      rw [← Hr0.out]
      clear hs0
      have hI0 := Lib.hid (fst_kept HI.out hg0 (by simp))
      go_frame
      go_loopw [13] (fun x wr => ∃ (left : Lit → Bool) (c0 : Nat), x = .int .i64 (partSG key n f left) ∧ Hid (World.ranges (H := Unit) wr Tryd.prog 9 (plainElem Tryd.prog 3) b1 r0 n1 D1 left c0) ∧ Hid (IRow wr w.heap.size (fstV g N) (rowF N (fun k => F t (n + k)))) ∧ Below w.heap.size w wr) (fun _ wr => wr.rangeLeft b1 r0)
      case atStart => exact ⟨_, _, by rw [hp0], hrg0, hI0, hbel.grown hg0 hsz (fun k e => by cases e)⟩
      case round =>
        obtain ⟨left, c0, rfl, hrg, hIr, hb⟩ := hrel
        go_wp2_with (at_next; refine wpList_next_ranges _ rfl _ rfl 9 lawS (plainElem (H := Unit) Tryd.prog 3) encStr (Value.int .i64) (fun key kl hk => by obtain ⟨x, hx, _⟩ := Maps.keyOf_str Tryd.underlying9 hk; exact ⟨x, hx⟩) (fun v y hv => by obtain ⟨c, rfl, _⟩ := plainElem_int_inv Tryd.underlying3 hv; exact ⟨c, rfl⟩) b1 r0 n1 _ _ _ rfl hrg.out ?_ ?_)
        · intro _ hl0
          have he := Lib.hid ((partSG_end (key := key) (n := n) hl0 f).trans hsum.out)
          rw [he.out]
          go_wp2_with fail
          simp only [Exit.jump]
          go_ret2
          exact ⟨_, rfl, hIr.out, hb⟩
        · intro x c kl yd yp w2 cnt2 hkey hlk hv2 hat hrg2 hlt hg2 hs2 hen
          obtain ⟨x', ex, rfl, _⟩ := Maps.keyOf_str Tryd.underlying9 hkey
          obtain rfl : x = x' := encStr_inj ex
          obtain ⟨c', ec, ey, hwc⟩ := plainElem_int_inv Tryd.underlying3 hv2
          cases ec
          cases ey
          obtain ⟨j, hjM, hjn, ekl⟩ := Hm1.out.key _ (has_true_of_atKey hat)
          have hj : j < n := by simpa using hjn
          have hcf : f j = c := by
            have q1 := Hm1.out.at_ j hjM
            rw [← ekl, hat] at q1
            injection q1 with q2
            injection q2 with _ q3
            exact q3.symm
          rw [ekl] at hrg2 hlk
          have hnx := partSG_next HP.out hj hlk f
          rw [hcf] at hnx
          have hin := partSG_in (key := key) (n := n) (f := f) (fun z => left z && !z.sameKey (keyL key j)) hnn.out
          have hin0 := partSG_in (key := key) (n := n) (f := f) left hnn.out
          have hsm := hsM.out
          rw [hnx] at hin
          have Hnx := Lib.hid hnx
          have Hrg2 := Lib.hid hrg2
          have hI2 := Lib.hid (fst_kept hIr.out hg2 (by simp; omega))
          have hb2'' := hb.grown hg2 hb.size (fun k e => by cases e; exact hr0b)
          have hw1 : IntKind.i64.wrap (partSG key n f left + c) = partSG key n f left + c := IntWalk.i64_in _ (by omega)
          clear hs2 hnx hrg2 hin hin0 hsm hkey hv2 hat
          go_wp2_with fail
          first
            | exact ⟨⟨_, _, by rw [Hnx.out], Hrg2, hI2, hb2''⟩, by rw [Hrg2.out.left_eq, hrg.out.left_eq]; exact hlt⟩
            | exact ⟨⟨_, Hnx.out.symm, _, Hrg2, hI2⟩, by rw [Hrg2.out.left_eq, hrg.out.left_eq]; exact hlt⟩
    | succ m =>
      have hsz := hbel.size
      have hr0b : w.heap.size ≤ w'.heap.size := by omega
      have hfeq : Hid (∀ j, j < n → (fun j => if j < n then F (t - (m + 1)) j else 0) j = F (t - (m + 1)) j) := Lib.hid (fun j hj => if_pos hj)
      have hnn : Hid (∀ j, j < n → 0 ≤ (fun j => if j < n then F (t - (m + 1)) j else 0) j) := Lib.hid (fun j hj => by rw [hfeq.out j hj]; exact hFn.out _ j)
      have hsM : Hid (sumJ (fun j => if j < n then F (t - (m + 1)) j else 0) n ≤ 4000000000000) := Lib.hid (by rw [sumJ_congr (h := F (t - (m + 1))) n (fun j hj => if_pos hj)]; exact hFt.out _ (by omega))
      have hstp : Hid (∀ k, stp gh gt a b (fun j => if j < n then F (t - (m + 1)) j else 0) n k = F (t - m) k) := by
        refine Lib.hid fun k => ?_
        rw [show t - m = (t - (m + 1)) + 1 from by omega, hFs.out _ k]
        unfold stp
        refine sumJ_congr _ fun j hj => ?_
        unfold con
        dsimp only
        rw [if_pos hj]
      have hst0 := fun k => partG_start (gh := gh) (gt := gt) (n := n) hm1 (by omega) a b k
      generalize (fun j => if j < n then F (t - (m + 1)) j else 0) = f at *
      have Hm1 := Lib.hid hm1
      have Hst0 := Lib.hid hst0
      have HI := Lib.hid hI
      have hglt := fst_lt hI
      have hn40 : n1 ≤ 1099511627776 := by
        refine Nat.le_trans hn1 ?_
        exact Nat.le_trans (Nat.pow_le_pow_right (by omega) (show t - (m + 1) ≤ 40 by omega)) (by decide)
      have Hn1 := Lib.hid hn1
      have hlen1 : Maps.size D1 ≤ n1 := ho1.size_le
      have hmf2 := Lib.hid (MG.none_ (ho2.isMap) key (n + (N + 1)) (fun _ => true) hz2)
      obtain ⟨r0, hr0⟩ : ∃ n, n = w'.heap.size := ⟨_, rfl⟩
      have hr0b2 : w.heap.size ≤ r0 := by omega
      have hbl2 : b2 < r0 := by have := ho2.lt; omega
      have hbl1 : b1 < r0 := by have := ho1.lt; omega
      have hgr0 : g < r0 := by omega
      have Hr0 := Lib.hid hr0
      clear hr0 hm1 hst0 hfeq hn1 hI
      go_wp2_with (at_range; refine wpList_range_own _ rfl _ 63 rfl 9 3 lawS Tryd.underlying63 _ b1 n1 _ rfl ho1 ?_; intro w0 hrg0 hg0 hs0)
      rw [← Hr0.out] at hrg0
      rw [← Hr0.out]
      clear hs0
      have ho2a := ho2.kept hg0 (by simp)
      have hI0 := Lib.hid (fst_kept HI.out hg0 (by simp))
      go_frame
      go_loopw [16] (fun _ wr => ∃ (left : Lit → Bool) (c0 n2 : Nat) (Dh Dn : MD), Hid (World.ranges (H := Unit) wr Tryd.prog 9 (plainElem Tryd.prog 3) b1 r0 n1 Dh left c0) ∧ (∀ kl, left kl = true → ∃ j, j < n ∧ kl = keyL key j ∧ Dh.atKey kl (litZ 0) = litZ (f j)) ∧ (∀ kl, Maps.has Dh kl = true → left kl = true) ∧ Hid (ownM wr b2 n2 Dn) ∧ n2 + 2 * c0 ≤ 2 * n1 ∧ MG Dn key (n + (N + 1)) (fun _ => true) (partG key gh gt n a b f left) ∧ Hid (IRow wr w.heap.size (fstV g N) (rowF N (fun k => F (t - (m + 1)) (n + k)))) ∧ Below w.heap.size w wr) (fun _ wr => wr.rangeLeft b1 r0)
      case atStart => exact ⟨_, _, 0, D1, D2, hrg0, fun kl hk => by obtain ⟨q, hqM, hq, e⟩ := Hm1.out.key kl hk; exact ⟨q, by simpa using hq, e, by rw [e]; exact Hm1.out.at_ q hqM⟩, fun kl hk => hk, ho2a, by omega, hmf2.out.congr (fun k _ => (Hst0.out k).symm), hI0, hbel.grown hg0 hsz (fun k e => by cases e)⟩
      case round =>
        obtain ⟨left, c0, n2, Dh, Dn, hrg, hlf, hhs, hon, hn2, hmf, hIr, hb⟩ := hrel
        have Hlf := Lib.hid hlf
        have Hhs := Lib.hid hhs
        have Hmf := Lib.hid hmf
        have Hb := Lib.hid hb
        have Hn2 := Lib.hid hn2
        clear hlf hhs hmf hb hn2
        go_wp2_with (at_next; refine wpList_next_ranges _ rfl _ rfl 9 lawS (plainElem (H := Unit) Tryd.prog 3) encStr (Value.int .i64) (fun key kl hk => by obtain ⟨x, hx, _⟩ := Maps.keyOf_str Tryd.underlying9 hk; exact ⟨x, hx⟩) (fun v y hv => by obtain ⟨c, rfl, _⟩ := plainElem_int_inv Tryd.underlying3 hv; exact ⟨c, rfl⟩) b1 r0 n1 _ _ _ rfl hrg.out ?_ ?_)
        · intro hc0 hl0
          obtain ⟨wa, rfl⟩ : ∃ wa : World, wa = wr := ⟨_, rfl⟩
          have hno : Hid (∀ kl, Maps.has Dh kl = false) := by
            refine Lib.hid fun kl => ?_
            cases hh : Maps.has Dh kl with
            | false => rfl
            | true => have := Hhs.out kl hh; rw [hl0 kl] at this; cases this
          have hdn : MG Dn key (n + (N + 1)) (fun _ => true) (F (t - m)) := Hmf.out.congr fun k hk => by rw [partG_end hl0]; exact hstp.out k
          have hd0 : MG Dn key (n + (N + 1)) (leftP n 0) (leftF (F (t - m)) n 0) := (hdn.weak fun j _ _ => by unfold leftP; simp; omega).congr fun j _ => by unfold leftF; rw [if_neg (by omega)]
          have Hd0 := Lib.hid hd0
          have hpow : n2 ≤ 2 ^ (t - m) := by
            have h1 := Hn1.out
            have h2 := Hn2.out
            rw [show t - m = (t - (m + 1)) + 1 from by omega, Nat.pow_succ]
            omega
          have Hpow := Lib.hid hpow
          have how1 := Lib.hid (own_empty hrg.out.owns hno.out)
          have hI1 : IRow wa w.heap.size (fstV g N) (rowF N (midF (fun i => F (t - m) (n + i)) (fun i => F (t - (m + 1)) (n + i)) 0)) := by rw [midF_zero]; exact hIr.out
          have HI1 := Lib.hid hI1
          have HG := Lib.hid hgb
          have hNx := HN.out
          clear hdn hd0 hpow hl0 hI1 hrg
          go_wp2_with fail
          go_loopw [70] (fun i wr => ∃ (k : Nat) (Dk : MD), k ≤ N + 1 ∧ i = .int .i64 k ∧ Hid (ownM wr b2 n2 Dk) ∧ Hid (MG Dk key (n + (N + 1)) (leftP n k) (leftF (F (t - m)) n k)) ∧ Hid (ownM wr b1 0 Dh) ∧ Hid (IRow wr w.heap.size (fstV g N) (rowF N (midF (fun i => F (t - m) (n + i)) (fun i => F (t - (m + 1)) (n + i)) k))) ∧ Below w.heap.size w wr) (fun i _ => N + 1 - (intOf i).toNat)
          case atStart => exact ⟨0, Dn, by omega, rfl, hon.out, Hd0.out, how1.out, HI1.out, Hb.out⟩
          case round =>
            obtain ⟨k, Dk, hk, rfl, honk, hmk, ho1k, hIk, hbk⟩ := hrel
            obtain ⟨wc, rfl⟩ : ∃ wc : World, wc = wr := ⟨_, rfl⟩
            by_cases hlt : k < N + 1
            · have hrow := HR.out.below hbk
              rw [← HN.out] at hrow
              have c1 := hrow.at_ k (by omega)
              rw [← HP.out.fin k (by omega)] at c1
              have hkeyp : keyOf Tryd.prog 9 (.string (key (n + k))) = some (keyL key (n + k)) := keyOfS _ (by have := HP.out.sz (n + k) (by omega); omega)
              have hat := hmk.out.at_ (n + k) (by omega)
              rw [show leftF (F (t - m)) n k (n + k) = F (t - m) (n + k) from by unfold leftF; rw [if_neg (by omega)]] at hat
              have Hat := Lib.hid hat
              obtain ⟨c2, f2⟩ := rowF_cell hIk.out k (by omega)
              obtain ⟨hs1, hs2⟩ := rowF_store hIk.out k (F (t - m) (n + k)) (midF (fun i => F (t - m) (n + i)) (fun i => F (t - (m + 1)) (n + i)) (k + 1)) (by unfold midF; rw [if_pos (by omega)]) (fun i _ hne => by
                unfold midF
                by_cases e : i < k
                · rw [if_pos e, if_pos (by omega)]
                · rw [if_neg e, if_neg (by omega)])
              have Hs1 := Lib.hid hs1
              have honk2 := Lib.hid (honk.out.kept hs2 (by simpa using fun e => hg2' e.symm))
              have ho1k2 := Lib.hid (ho1k.out.kept hs2 (by simpa using fun e => hg1 e.symm))
              have hbk2 := Lib.hid (hbk.setCell (p := ⟨g, k, none⟩) (u := .int .i64 (F (t - m) (n + k))) HG.out)
              have hstr := hmk.out
              rw [← HN.out] at hstr
              have hstr2 := hstr.strike HP.out (n + k) (by omega)
              rw [HN.out] at hstr2
              have Hstr : Hid (MG (Dk.del (keyL key (n + k))) key (n + (N + 1)) (leftP n (k + 1)) (leftF (F (t - m)) n (k + 1))) := by
                refine Lib.hid ((hstr2.weak fun j _ hj => ?_).congr fun j _ => ?_)
                · unfold leftP at hj ⊢
                  simp only [Bool.and_eq_true, Bool.or_eq_true, decide_eq_true_iff, Bool.not_eq_true', decide_eq_false_iff_not] at hj ⊢
                  omega
                · unfold leftF
                  by_cases e : j = n + k
                  · rw [if_pos e, if_pos (by omega)]
                  · rw [if_neg e]
                    by_cases e2 : n ≤ j ∧ j < n + k
                    · rw [if_pos e2, if_pos (by omega)]
                    · rw [if_neg e2, if_neg (by omega)]
              have hki : (k : Int) < (N : Int) + 1 := by omega
              have Hkeyp := Lib.hid hkeyp
              clear hrow hat hs1 hs2 hstr hstr2 hkeyp
              generalize midF (fun i => F (t - m) (n + i)) (fun i => F (t - (m + 1)) (n + i)) k k = y0 at *
              generalize F (t - m) (n + k) = y at *
              generalize key (n + k) = p at *
              go_wp2_with (first
                | (at_lookup; refine wpList_lookup_own_int _ rfl _ _ 63 rfl 9 3 .i64 lawS Tryd.underlying63 Tryd.underlying3 (Tryd.zeroValue3 _) b2 n2 Dk rfl honk.out _ _ rfl Hkeyp.out ?_; intro cx hcx hwx; have ecx := litZ_inj (hcx.symm.trans Hat.out); rw [ecx]; clear ecx hcx hwx)
                | (at_delete; refine wpList_delete_own _ rfl _ _ 63 9 rfl 3 lawS Tryd.underlying63 _ b2 n2 Dk rfl honk2.out _ _ rfl Hkeyp.out ?_; intro w1 hown1 hturn1; go_frame))
              have ho1k3 := Lib.hid (ho1k2.out.kept hturn1.grown (by simpa using hne))
              have hI3 := Lib.hid (fst_kept Hs1.out hturn1.grown (by simpa using fun e => hg2' e.symm))
              have hb3 := Lib.hid (hbk2.out.grown hturn1.grown hbk2.out.size (fun k e => by cases e; exact hb2'))
              exact ⟨⟨k + 1, _, by omega, by go_num, hown1, Hstr.out, ho1k3.out, hI3.out, hb3.out⟩, by simp [intOf]; omega⟩
            · obtain rfl : k = N + 1 := by omega
              have hm9 : MG Dk key (n + (N + 1)) (fun j => decide (j < n)) (fun j => if j < n then F (t - m) j else 0) := (hmk.out.weak fun j hj hp => by
                  unfold leftP at hp
                  simp only [Bool.or_eq_true, decide_eq_true_iff] at hp ⊢
                  omega).congr fun j hj => by
                  unfold leftF
                  by_cases e : j < n
                  · rw [if_pos e, if_neg (by omega)]
                  · rw [if_neg e, if_pos (by omega)]
              have Hm9 := Lib.hid hm9
              have hI9 := hIk.out
              rw [midF_all] at hI9
              have HI9 := Lib.hid hI9
              clear hm9 hI9
              go_wp2_with fail
              go_step3
              exact ⟨rfl, ⟨m, b2, b1, g, fr_intro rfl ⟨by omega, ⟨_, _, n2, honk.out, Hpow.out, Hm9.out, ho1k.out, hno.out, hne.symm, hb2', hb1, hbk, HI9.out, HG.out, hg2', hg1⟩⟩⟩, by show (intOf (Value.int .i64 (m : Int))).toNat < (intOf (Value.int .i64 ((m + 1 : Nat) : Int))).toNat; simp [intOf]⟩
        · intro x c kl yd yp w2 cnt2 hkey hlk hv2 hat hrg2 hlt hg2 hs2 hen
          obtain ⟨x', ex, rfl, _⟩ := Maps.keyOf_str Tryd.underlying9 hkey
          obtain rfl : x = x' := encStr_inj ex
          obtain ⟨c', ec, ey, hwc⟩ := plainElem_int_inv Tryd.underlying3 hv2
          cases ec
          cases ey
          obtain ⟨j, hj, ekl, hval⟩ := Hlf.out _ hlk
          have hcf : f j = c := by
            rw [hat] at hval
            injection hval with q2
            injection q2 with _ q3
            exact q3.symm
          subst hcf
          obtain rfl : x = (key j).data.toList := by injection ekl
          have hes : encStr (key j).data.toList = .string (key j) := by unfold encStr; rfl
          rw [hes] at hen
          rw [hes]
          change left (keyL key j) = true at hlk
          rw [show Lit.string (key j).data.toList = keyL key j from rfl] at hrg2
          clear hes hkey hv2 hwc hval hs2 ekl
          have hNx := HN.out
          have hz0 := HP.out.sz j (by omega)
          have t1 : ¬ 9223372036854775807 < (key j).size + 1 := by omega
          obtain ⟨eH, hkH0⟩ := HP.out.gh j hj
          obtain ⟨eT, hkT0⟩ := HP.out.gt j hj
          have hkH : gh j < n + (N + 1) := by omega
          have hkT : gt j < n + (N + 1) := by omega
          have hkeyH : keyOf Tryd.prog 9 (.string (key (gh j))) = some (keyL key (gh j)) := keyOfS _ (by have := HP.out.sz _ hkH0; omega)
          have hkeyT : keyOf Tryd.prog 9 (.string (key (gt j))) = some (keyL key (gt j)) := keyOfS _ (by have := HP.out.sz _ hkT0; omega)
          have hkeyJ : keyOf Tryd.prog 9 (.string (key j)) = some (keyL key j) := keyOfS _ (by omega)
          have hcH : ∀ W : World, Below w.heap.size w W → Calls Tryd.prog 58 #[.slice (some ⟨gp, 0, none⟩) (N + 1) capp, .string (key j ++ ⟨#[104]⟩)] W fun e w' => e = .returned (.string (key (gh j))) ∧ Below W.heap.size W w' := fun W hW => by
            have := keptG_any xs _ base (key j ++ sH) W (HR.out.below hW) (by omega) (by rw [ByteArray.size_append]; show (key j).size + 1 ≤ 100; omega)
            rw [eH] at this
            exact this
          have hcT : ∀ W : World, Below w.heap.size w W → Calls Tryd.prog 58 #[.slice (some ⟨gp, 0, none⟩) (N + 1) capp, .string (key j ++ ⟨#[116]⟩)] W fun e w' => e = .returned (.string (key (gt j))) ∧ Below W.heap.size W w' := fun W hW => by
            have := keptG_any xs _ base (key j ++ sT) W (HR.out.below hW) (by omega) (by rw [ByteArray.size_append]; show (key j).size + 1 ≤ 100; omega)
            rw [eT] at this
            exact this
          have hfj := hnn.out j hj
          have hfM := Int.le_trans (sumJ_ge n hnn.out j hj) hsM.out
          have pin := fun k => partG_in (key := key) (gh := gh) (gt := gt) (n := n) (a := a) (b := b) (f := f) left ha hb hnn.out k
          have hss := hsM.out
          have hab : (a + b) * sumJ f n ≤ 20 * 4000000000000 := Int.mul_le_mul (by omega) hss (sumJ_nonneg _ hnn.out) (by omega)
          have pinH := pin (gh j)
          have pinT := pin (gt j)
          have mH0 : 0 ≤ a * f j := Int.mul_nonneg ha hfj
          have mT0 : 0 ≤ b * f j := Int.mul_nonneg hb hfj
          have mH1 : a * f j ≤ 10 * 4000000000000 := Int.mul_le_mul ha2 hfM hfj (by omega)
          have mT1 : b * f j ≤ 10 * 4000000000000 := Int.mul_le_mul hb2 hfM hfj (by omega)
          have iH := ind_in (gh j) mH0 (gt j)
          have hatH := Lib.hid (Hmf.out.at_ (gh j) hkH)
          have hmfN := Hmf.out
          rw [← HN.out] at hmfN
          have hmf1 := hmfN.put HP.out (gh j) hkH0 rfl (a * f j)
          have hatT := Lib.hid (hmf1.at_ (gt j) hkT0)
          have hmf2' := hmf1.put HP.out (gt j) hkT0 rfl (b * f j)
          rw [HN.out] at hmf2'
          have Hmf3 : Hid (MG _ key (n + (N + 1)) (fun _ => true) (partG key gh gt n a b f (fun z => left z && !z.sameKey (keyL key j)))) := Lib.hid (hmf2'.congr (g := partG key gh gt n a b f (fun z => left z && !z.sameKey (keyL key j))) fun k _ => by rw [partG_next HP.out hj hlk]; unfold con; omega)
          have hvH : plainElem (H := Unit) Tryd.prog 3 (.int .i64 (partG key gh gt n a b f left (gh j) + a * f j)) = some (litZ (partG key gh gt n a b f left (gh j) + a * f j), []) := plainElem_int Tryd.underlying3 (Go.WalkArith.wf_i64 (by omega))
          have hvT : plainElem (H := Unit) Tryd.prog 3 (.int .i64 (partG key gh gt n a b f left (gt j) + ind (gh j) (a * f j) (gt j) + b * f j)) = some (litZ (partG key gh gt n a b f left (gt j) + ind (gh j) (a * f j) (gt j) + b * f j), []) := plainElem_int Tryd.underlying3 (Go.WalkArith.wf_i64 (by omega))
          have bdH : 0 ≤ a * f j ∧ a * f j ≤ 40000000000000 ∧ 0 ≤ partG key gh gt n a b f left (gh j) ∧ partG key gh gt n a b f left (gh j) ≤ 80000000000000 := by omega
          have bdT : 0 ≤ b * f j ∧ b * f j ≤ 40000000000000 ∧ 0 ≤ partG key gh gt n a b f left (gt j) + ind (gh j) (a * f j) (gt j) ∧ partG key gh gt n a b f left (gt j) + ind (gh j) (a * f j) (gt j) ≤ 120000000000000 := by omega
          clear hmfN hmf1 hmf2' eH eT hkH0 hkT0 hNx
          generalize hX1 : partG key gh gt n a b f left (gh j) = X1 at *
          generalize hX2 : partG key gh gt n a b f left (gt j) + ind (gh j) (a * f j) (gt j) = X2 at *
          clear hX1 hX2
          have Hrg2 := Lib.hid hrg2
          have Hlt := Lib.hid hlt
          have Hg2 := Lib.hid hg2
          have hon2 := Lib.hid (hon.out.kept hg2 (by simp; omega))
          have hI2 := Lib.hid (fst_kept hIr.out hg2 (by simp; omega))
          have hb2w := Lib.hid (Hb.out.grown hg2 Hb.out.size (fun k e => by cases e; exact hr0b2))
          have Hat := Lib.hid hat
          have Hlk := Lib.hid hlk
          have hn2s := Hn2.out
          have Hcap : Hid (n2 + 2 ≤ 9000000000000000) := Lib.hid (by omega)
          clear hrg2 hlt hg2 hat hlk pin hss hab pinH pinT mH0 mT0 mH1 mT1 iH hn2s hfM hfj hz0
          have HkeyH := Lib.hid hkeyH
          have HkeyT := Lib.hid hkeyT
          have HkeyJ := Lib.hid hkeyJ
          have HcH := Lib.hid hcH
          have HcT := Lib.hid hcT
          have HvH := Lib.hid hvH
          have HvT := Lib.hid hvT
          have HbdT := Lib.hid bdT
          obtain ⟨bd1, bd2, bd3, bd4⟩ := bdH
          clear hkeyH hkeyT hkeyJ hcH hcT hvH hvT bdT hkH hkT
          go_wp2_with fail
          refine (HcH.out _ hb2w.out).mono ?_
          rintro e w3 ⟨rfl, hb3⟩
          have hon3 := Lib.hid (hon2.out.kept (bel_by hb3) (by simp))
          have Hrg3 := Lib.hid (Hrg2.out.kept (bel_by hb3) (by simp) (by simp))
          have hI3 := Lib.hid (fst_kept hI2.out (bel_by hb3) (by simp))
          have hb3w := Lib.hid (bel_trans hb2w.out hb3)
          clear hb3
          go_wp2_with (first
            | (at_lookup; refine wpList_lookup_own_int _ rfl _ _ 63 rfl 9 3 .i64 lawS Tryd.underlying63 Tryd.underlying3 (Tryd.zeroValue3 _) b2 n2 Dn rfl hon3.out _ (keyL key (gh j)) rfl HkeyH.out ?_; intro cx hcx hwx; have ecx := litZ_inj (hcx.symm.trans hatH.out); rw [ecx]; clear ecx hcx hwx)
            | (at_mapUpdate; refine wpList_mapUpdate_own _ rfl _ _ _ 63 rfl 9 3 lawS Tryd.underlying63 _ b2 n2 Dn rfl hon3.out (by have := Hcap.out; unfold maxLen; omega) _ _ (keyL key (gh j)) rfl rfl HkeyH.out _ _ HvH.out ?_; intro w4 hon4 hg4))
          have Hon4 := Lib.hid hon4
          have Hrg4 := Lib.hid (Hrg3.out.kept hg4 (by simpa using hne) (by simp; omega))
          have hI4 := Lib.hid (fst_kept hI3.out hg4 (by simpa using fun e => hg2' e.symm))
          have hb4w := Lib.hid (hb3w.out.grown hg4 hb3w.out.size (fun k e => by cases e; exact hb2'))
          clear hon4 hg4 bd1 bd2 bd3 bd4
          obtain ⟨bd1, bd2, bd3, bd4⟩ := HbdT.out
          refine (HcT.out _ hb4w.out).mono ?_
          rintro e w5 ⟨rfl, hb5⟩
          have hon5 := Lib.hid (Hon4.out.kept (bel_by hb5) (by simp))
          have Hrg5 := Lib.hid (Hrg4.out.kept (bel_by hb5) (by simp) (by simp))
          have hI5 := Lib.hid (fst_kept hI4.out (bel_by hb5) (by simp))
          have hb5w := Lib.hid (bel_trans hb4w.out hb5)
          clear hb5
          go_wp2_with (first
            | (at_lookup; refine wpList_lookup_own_int _ rfl _ _ 63 rfl 9 3 .i64 lawS Tryd.underlying63 Tryd.underlying3 (Tryd.zeroValue3 _) b2 (n2 + 1) _ rfl hon5.out _ (keyL key (gt j)) rfl HkeyT.out ?_; intro cy hcy hwy; have ecy := litZ_inj (hcy.symm.trans hatT.out); rw [ecy]; clear ecy hcy hwy)
            | (at_mapUpdate; refine wpList_mapUpdate_own _ rfl _ _ _ 63 rfl 9 3 lawS Tryd.underlying63 _ b2 (n2 + 1) _ rfl hon5.out (by have := Hcap.out; unfold maxLen; omega) _ _ (keyL key (gt j)) rfl rfl HkeyT.out _ _ HvT.out ?_; intro w6 hon6 hg6)
            | (at_delete; refine wpList_delete_ranges _ rfl _ _ 63 9 rfl 3 lawS Tryd.underlying63 _ b1 r0 n1 Dh _ cnt2 rfl (Hrg5.out.kept hg6 (by simpa using hne) (by simp; omega)) _ _ rfl HkeyJ.out ?_; intro w7 cnt3 hrg7 hle hturn; go_frame))
          rw [strike_twice] at hrg7
          have Hrg7 := Lib.hid hrg7
          have Hon7 := Lib.hid (hon6.kept hturn.grown (by simpa using fun e => hne e.symm))
          have hI6 := fst_kept hI5.out hg6 (by simpa using fun e => hg2' e.symm)
          have hI7 := Lib.hid (fst_kept hI6 hturn.grown (by simpa using fun e => hg1 e.symm))
          have hb6w := hb5w.out.grown hg6 hb5w.out.size (fun k e => by cases e; exact hb2')
          have hb7w := Lib.hid (hb6w.grown hturn.grown hb6w.size (fun k e => by cases e; exact hb1))
          have hlf7 : Hid (∀ kl, (left kl && !kl.sameKey (keyL key j)) = true → ∃ q, q < n ∧ kl = keyL key q ∧ (Dh.del (keyL key j)).atKey kl (litZ 0) = litZ (f q)) := by
            refine Lib.hid fun kl hk => ?_
            rw [Bool.and_eq_true] at hk
            obtain ⟨q, hq, e, hv⟩ := Hlf.out kl hk.1
            have hne2 : kl ≠ keyL key j := fun e2 => by rw [e2, keyL_same] at hk; simp at hk
            exact ⟨q, hq, e, by rw [atKey_del_other hne2]; exact hv⟩
          have hhs7 : Hid (∀ kl, Maps.has (Dh.del (keyL key j)) kl = true → (left kl && !kl.sameKey (keyL key j)) = true) := by
            refine Lib.hid fun kl hk => ?_
            have hne2 : kl ≠ keyL key j := fun e2 => by rw [e2, has_del_same] at hk; cases hk
            rw [has_del_other hne2] at hk
            rw [Hhs.out kl hk, sameKey_ne hne2]
            rfl
          have hcnt : Hid (n2 + 1 + 1 + 2 * cnt3 ≤ 2 * n1) := by
            refine Lib.hid ?_
            have h1 := Hn2.out
            have h2 := Hlt.out
            omega
          clear hrg7 hon6 hg6 hturn hb6w hI6
          go_roundw
          case rel =>
            (repeat apply Exists.intro)
            exact ⟨⟨_, _, _, _, _, Hrg7, hlf7.out, hhs7.out, Hon7, hcnt.out, Hmf3.out, hI7, hb7w.out⟩, rfl⟩
          case measure =>
            rw [Hrg7.out.left_eq, hrg.out.left_eq]
            have := Hlt.out
            omega
end Go.Proofs.YtjckmnbpfmcadacDoor
