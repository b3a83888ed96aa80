/- All texts of tosses led on together: the contract of the program's loop over a map. -/
import Derived.Test.YtjkcmphhbaeioaaDoorMapF
namespace Go.Proofs.YtjkcmphhbaeioaaDoor
open Go.ChangeShapes Go.WideShapes Go.ChangeAt Go.RowKit Go.Maps Go.Sort
set_option linter.unusedVariables false

theorem lawS : Keyed Tryd.prog 9 := string_keyed Tryd.underlying9
theorem own_empty {w : World} {b n : Nat} {D : MD} (h : World.ownsMap (H := Unit) w Tryd.prog 9 (plainElem Tryd.prog 3) b n D) (he : ∀ kl, Maps.has D kl = false) : World.ownsMap (H := Unit) w Tryd.prog 9 (plainElem Tryd.prog 3) b 0 D := by
  obtain ⟨es', hD, hpw, hk⟩ := h.entries lawS
  obtain ⟨es, clock, h1, h2, h3, h4⟩ := h
  refine ⟨es, clock, h1, h2, ?_, h4⟩
  have hl := length_read (R0 := plainElem (H := Unit) Tryd.prog 3) es (P := Tryd.prog) (k := 9)
  rw [hD] at h4
  injection h4 with h5
  rw [← h5] at hl
  cases es' with
  | nil => simp at hl; omega
  | cons q l =>
    have := he q.1
    rw [hD, has_eq] at this
    have hq := hk q (by simp)
    have hs : q.1.sameKey q.1 = true := by
      cases hq1 : q.1 with
      | bool x => simp [Lit.sameKey]
      | int k x => simp [Lit.sameKey]
      | string x => simp [Lit.sameKey]
      | _ => rw [hq1] at hq; exact hq.elim
    simp [hs] at this

theorem litZ_inj {x y : Int} (h : litZ x = litZ y) : x = y := by
  injection h with h1
  injection h1
/-- A scope in which the run jumps back to its one label: one walk from the label on serves the first pass and the others. -/
theorem scope_jumps {P : Program} {a : Act} {w : World} {Q : Exit → Act → World → Prop} {c rest : Code} (l : Nat) (J : Act → World → Prop) (μ : Act → World → Nat) (hf : findLabel c l = some (Code.skip.seq rest))
    (first : (∀ a w, J a w → rest.wp P (Exit.jump l J Q) a w) → c.wp P (Exit.jump l J Q) a w)
    (pass : ∀ a w, J a w → rest.wp P (Exit.jump l (fun a' w' => J a' w' ∧ μ a' w' < μ a w) Q) a w) : (Code.scope c).wp P Q a w :=
  wp_scope_jumps l J μ hf (first fun a w h => wp_mono (pass a w h) fun e a w h => by
    cases e with
    | goto l' => exact ⟨h.1, h.2.1⟩
    | _ => exact h) (fun a w h => wp_seq (wp_skip (pass a w h)))
/-- The state at the label: the tosses that are still to come, and what both maps hold. -/
def TW (p : ByteArray) (F : Nat → Nat → Int) (t r b1 b2 : Nat) (w0 w : World) : Prop :=
  ∃ (D1 D2 : MD) (n1 : Nat), World.ownsMap (H := Unit) w Tryd.prog 9 (plainElem Tryd.prog 3) b1 n1 D1 ∧ n1 ≤ 2 ^ (t - r) ∧ MF D1 p p.size (fun j => if j < p.size then F (t - r) j else 0) ∧ World.ownsMap (H := Unit) w Tryd.prog 9 (plainElem Tryd.prog 3) b2 0 D2 ∧ (∀ kl, Maps.has D2 kl = false) ∧ b1 ≠ b2 ∧ w0.heap.size ≤ b1 ∧ w0.heap.size ≤ b2 ∧ Below w0.heap.size w0 w

set_option maxRecDepth 100000 in
set_option maxHeartbeats 6400000 in
theorem tossed_any (p : ByteArray) (a b : Int) (t : Nat) (w : World) (h1 : 1 ≤ p.size) (h8 : p.size ≤ 8) (ht : t ≤ 40) (ha : 0 ≤ a) (ha2 : a ≤ 10) (hb : 0 ≤ b) (hb2 : b ≤ 10) (hM : ∀ s, s ≤ t → (a + b) ^ s ≤ 4000000000000) :
    Calls Tryd.prog 35 #[.string p, .int .i64 a, .int .i64 b, .int .i64 t] w fun e w' => e = .returned (.tuple #[.int .i64 (sumJ (cnt (gH p) (gT p) a b p.size t) p.size), .int .i64 (cnt (gH p) (gT p) a b p.size t p.size)]) ∧ Below w.heap.size w w' := by
  have hF0 : cnt (gH p) (gT p) a b p.size 0 p.size = 0 := by show (if p.size = 0 then (1 : Int) else 0) = 0; rw [if_neg (by omega)]
  have hFs : Hid (∀ s k, k ≤ p.size → cnt (gH p) (gT p) a b p.size (s + 1) k = stp (gH p) (gT p) a b (cnt (gH p) (gT p) a b p.size s) p.size k) := Lib.hid (fun s k _ => rfl)
  have hFn : Hid (∀ s k, 0 ≤ cnt (gH p) (gT p) a b p.size s k) := Lib.hid (fun s k => cnt_nonneg _ _ ha hb _ s k)
  have hFt : Hid (∀ s, s ≤ t → sumJ (cnt (gH p) (gT p) a b p.size s) p.size ≤ 4000000000000) := Lib.hid (fun s hs => Int.le_trans (cnt_sum _ _ ha hb p.size s) (hM s hs))
  have hF1 : Hid (∀ k, cnt (gH p) (gT p) a b p.size 0 k = if k = 0 then 1 else 0) := Lib.hid (fun k => rfl)
  generalize hF : cnt (gH p) (gT p) a b p.size = F at *
  clear hF hM
  go_enter Tryd.func35, Tryd.ntmps35
  go_wp2
  refine scope_jumps 0 (fun a2 w2 => ∃ (r b1 b2 : Nat) (u4 u5 u6 u7 u13 u14 u15 u16 u17 u18 u19 u20 u21 u22 u23 u24 u25 u26 u27 u28 u29 u30 u31 u32 u33 u34 u35 u36 u37 u38 u39 u40 u41 u42 u43 u44 u45 u46 u47 u48 u49 u50 u51 u52 u53 u54 u55 u56 u57 u58 u59 u60 u61 u62 u63 u64 u65 u66 u67 u68 u69 u70 u71 : Value), a2 = { tmps := #[.string p, .int .i64 a, .int .i64 b, .int .i64 r, u4, u5, u6, u7, .int .i64 0, .int .i64 0, .map (some b1), .map (some b2), .int .i64 (F (t - r) p.size), u13, u14, u15, u16, u17, u18, u19, u20, u21, u22, u23, u24, u25, u26, u27, u28, u29, u30, u31, u32, u33, u34, u35, u36, u37, u38, u39, u40, u41, u42, u43, u44, u45, u46, u47, u48, u49, u50, u51, u52, u53, u54, u55, u56, u57, u58, u59, u60, u61, u62, u63, u64, u65, u66, u67, u68, u69, u70, u71], defers := [] } ∧ r ≤ t ∧ TW p F t r b1 b2 w w2) (fun a2 _ => (intOf (a2.tmps.getD 3 undef)).toNat) rfl ?first ?pass
  case first =>
    intro pass
    have hmk : ∀ W : World, (Instr.makeMap 74 none).run Tryd.prog W = .ok (.map (some W.heap.size)) (W.alloc (.map #[] 0)) := fun W => run_makeMap _ W
    have hk0 : keyL p 0 = .string [] := by unfold keyL; rw [ext_list]; simp
    have hkey0 : keyOf Tryd.prog 9 (.string ⟨#[]⟩) = some (keyL p 0) := by rw [hk0]; exact Go.WideMaps.keyOf_string_mk Tryd.underlying9 (by decide)
    have hv0 : plainElem (H := Unit) Tryd.prog 3 (.int .i64 1) = some (litZ 1, []) := plainElem_int Tryd.underlying3 (Go.WalkArith.wf_i64 (by omega))
    obtain ⟨wa, hrun1, hown1, hg1⟩ := (World.ownsMap_made (H := Unit) w Tryd.prog 9 (plainElem Tryd.prog 3)).update lawS Tryd.underlying74 (by decide) hkey0 hv0
    have hbl1 : Below w.heap.size w wa := (bel_alloc (Below.refl _ w) (.map #[] 0)).grown hg1 (by show w.heap.size ≤ (w.heap.push _).size; simp) (fun k e => by cases e; exact Nat.le_refl _)
    have hb1lt : w.heap.size < wa.heap.size := hown1.lt
    have how1 := Lib.hid (hown1.alloc (.map #[] 0))
    have how2 := Lib.hid (World.ownsMap_made (H := Unit) wa Tryd.prog 9 (plainElem Tryd.prog 3))
    have hbl2 := Lib.hid (bel_alloc hbl1 (.map #[] 0))
    have hbs := Lib.hid hbl1.size
    have Hb1lt := Lib.hid hb1lt
    have hmf0 : MF (DataW.put (.map []) (keyL p 0) (litZ 1)) p p.size (fun j => if j < p.size then F (t - t) j else 0) := by
      have h0 := (MF.none_ (D := .map []) ⟨[], rfl⟩ p p.size (fun kl => rfl)).put 0 (by omega) (by omega) 1
      refine h0.congr fun j hj => ?_
      rw [Nat.sub_self]
      unfold ind
      by_cases e : j = 0
      · subst e
        rw [if_pos rfl, if_pos (by omega), hF1.out, if_pos rfl]; rfl
      · rw [if_neg (fun q => e q.symm)]
        by_cases e2 : j < p.size
        · rw [if_pos e2, hF1.out, if_neg e]; rfl
        · rw [if_neg e2]; rfl
    have Hmf0 := Lib.hid hmf0
    have HF0 := Lib.hid hF0
    have Hg1 := Lib.hid hg1
    clear hown1 hg1 hbl1 hb1lt hmf0 hF0 hkey0 hv0 hk0
    go_wp2_with fail
    go_step3
    rename_i hK
    exact hK _ _ (pass _ _ ⟨t, w.heap.size, wa.heap.size, _, _, _, _, _, _, _, _, _, _, _, _, _, _, _, _, _, _, _, _, _, _, _, _, _, _, _, _, _, _, _, _, _, _, _, _, _, _, _, _, _, _, _, _, _, _, _, _, _, _, _, _, _, _, _, _, _, _, _, _, _, _, _, by rw [Nat.sub_self, HF0.out], Nat.le_refl _, ⟨_, _, 1, how1.out, by rw [Nat.sub_self]; exact Nat.le_refl _, Hmf0.out, how2.out, fun kl => rfl, by have := Hb1lt.out; omega, Nat.le_refl _, hbs.out, hbl2.out⟩⟩)
  case pass =>
    rintro a' w' ⟨r, b1, b2, u4, u5, u6, u7, u13, u14, u15, u16, u17, u18, u19, u20, u21, u22, u23, u24, u25, u26, u27, u28, u29, u30, u31, u32, u33, u34, u35, u36, u37, u38, u39, u40, u41, u42, u43, u44, u45, u46, u47, u48, u49, u50, u51, u52, u53, u54, u55, u56, u57, u58, u59, u60, u61, u62, u63, u64, u65, u66, u67, u68, u69, u70, u71, rfl, hr, D1, D2, n1, ho1, hn1, hm1, ho2, hz2, hne, hb1, hb2', hbel⟩
    cases r with
    | zero =>
      rw [Nat.sub_zero] at hm1 hn1 ⊢
      have hsz := hbel.size
      have hp0 := partS_start hm1
      have hff : Hid (∀ j, j < p.size → (fun j => if j < p.size then F t j else 0) j = F t j) := Lib.hid (fun j hj => if_pos hj)
      have hsum : Hid (sumJ (fun j => if j < p.size then F t j else 0) p.size = sumJ (F t) p.size) := Lib.hid (sumJ_congr _ fun j hj => if_pos hj)
      have hnn : Hid (∀ j, j < p.size → 0 ≤ (fun j => if j < p.size then F t j else 0) j) := Lib.hid (fun j hj => by rw [hff.out j hj]; exact hFn.out t j)
      have hsM : Hid (sumJ (fun j => if j < p.size then F t j else 0) p.size ≤ 4000000000000) := Lib.hid (by rw [hsum.out]; exact hFt.out t (Nat.le_refl _))
      generalize (fun j => if j < p.size then F t j else 0) = f at *
      have Hm1 := Lib.hid hm1
      clear hff ho2 hm1
      obtain ⟨r0, hr0⟩ : ∃ n, n = w'.heap.size := ⟨_, rfl⟩
      have hr0b : w.heap.size ≤ r0 := by omega
      have Hr0 := Lib.hid hr0
      clear hr0
      go_wp2_with (at_range; refine wpList_range_own _ rfl _ 74 rfl 9 3 lawS Tryd.underlying74 _ b1 n1 _ rfl ho1 ?_; intro w0 hrg0 hg0 hs0)
      rw [← Hr0.out] at hrg0
      rw [← Hr0.out]
      clear hs0
      go_frame
      go_loopw [13] (fun x wr => ∃ (left : Lit → Bool) (c0 : Nat), x = .int .i64 (partS p f left) ∧ Hid (World.ranges (H := Unit) wr Tryd.prog 9 (plainElem Tryd.prog 3) b1 r0 n1 D1 left c0) ∧ Below w.heap.size w wr) (fun _ wr => wr.rangeLeft b1 r0)
      case atStart => exact ⟨_, _, by rw [hp0], hrg0, hbel.grown hg0 hsz (fun k e => by cases e)⟩
      case round =>
        obtain ⟨left, c0, rfl, hrg, hb⟩ := hrel
        go_wp2_with (at_next; refine wpList_next_ranges _ rfl _ rfl 9 lawS (plainElem (H := Unit) Tryd.prog 3) encStr (Value.int .i64) (fun key kl hk => by obtain ⟨x, hx, _⟩ := Maps.keyOf_str Tryd.underlying9 hk; exact ⟨x, hx⟩) (fun v y hv => by obtain ⟨c, rfl, _⟩ := plainElem_int_inv Tryd.underlying3 hv; exact ⟨c, rfl⟩) b1 r0 n1 _ _ _ rfl hrg.out ?_ ?_)
        · intro _ hl0
          have he := Lib.hid ((partS_end (p := p) hl0 f).trans hsum.out)
          rw [he.out]
          go_wp2_with fail
          simp only [Exit.jump]
          go_ret2
          exact ⟨rfl, hb⟩
        · intro x c kl yd yp w2 cnt2 hkey hlk hv hat hrg2 hlt hg2 hs2 hen
          obtain ⟨x', ex, rfl, _⟩ := Maps.keyOf_str Tryd.underlying9 hkey
          obtain rfl : x = x' := encStr_inj ex
          obtain ⟨c', ec, ey, hwc⟩ := plainElem_int_inv Tryd.underlying3 hv
          cases ec
          cases ey
          obtain ⟨j, hj, ekl⟩ := Hm1.out.key _ (has_true_of_atKey hat)
          have hcf : f j = c := by
            have q1 := Hm1.out.at_ j (by omega)
            rw [← ekl, hat] at q1
            injection q1 with q2
            injection q2 with _ q3
            exact q3.symm
          rw [ekl] at hrg2 hlk
          have hnx := partS_next hj hlk f
          rw [hcf] at hnx
          have hin := partS_in (p := p) (f := f) (fun z => left z && !z.sameKey (keyL p j)) hnn.out
          have hin0 := partS_in (p := p) (f := f) left hnn.out
          have hsm := hsM.out
          rw [hnx] at hin
          have Hnx := Lib.hid hnx
          have Hrg2 := Lib.hid hrg2
          have hb2'' := hb.grown hg2 hb.size (fun k e => by cases e; exact hr0b)
          have hw1 : IntKind.i64.wrap (partS p f left + c) = partS p f left + c := IntWalk.i64_in _ (by omega)
          clear hs2 hnx hrg2 hin hin0 hsm hkey hv hat
          go_wp2_with fail
          first
            | exact ⟨⟨_, _, by rw [Hnx.out], Hrg2, hb2''⟩, by rw [Hrg2.out.left_eq, hrg.out.left_eq]; exact hlt⟩
            | exact ⟨⟨_, Hnx.out.symm, _, Hrg2⟩, by rw [Hrg2.out.left_eq, hrg.out.left_eq]; exact hlt⟩
    | succ m =>
      have hsz := hbel.size
      have hr0b : w.heap.size ≤ w'.heap.size := by omega
      have hfeq : Hid (∀ j, j < p.size → (fun j => if j < p.size then F (t - (m + 1)) j else 0) j = F (t - (m + 1)) j) := Lib.hid (fun j hj => if_pos hj)
      have hnn : Hid (∀ j, j < p.size → 0 ≤ (fun j => if j < p.size then F (t - (m + 1)) j else 0) j) := Lib.hid (fun j hj => by rw [hfeq.out j hj]; exact hFn.out _ j)
      have hsM : Hid (sumJ (fun j => if j < p.size then F (t - (m + 1)) j else 0) p.size ≤ 4000000000000) := Lib.hid (by rw [sumJ_congr (h := F (t - (m + 1))) p.size (fun j hj => if_pos hj)]; exact hFt.out _ (by omega))
      have hstp : Hid (∀ k, k ≤ p.size → stp (gH p) (gT p) a b (fun j => if j < p.size then F (t - (m + 1)) j else 0) p.size k = F (t - m) k) := by
        refine Lib.hid fun k hk => ?_
        rw [show t - m = (t - (m + 1)) + 1 from by omega, hFs.out _ k hk]
        unfold stp
        refine sumJ_congr _ fun j hj => ?_
        unfold con
        dsimp only
        rw [if_pos hj]
      have hst0 := fun k => part_start hm1 a b k
      generalize (fun j => if j < p.size then F (t - (m + 1)) j else 0) = f at *
      have Hm1 := Lib.hid hm1
      have Hst0 := Lib.hid hst0
      have hn40 : n1 ≤ 1099511627776 := by
        refine Nat.le_trans hn1 ?_
        exact Nat.le_trans (Nat.pow_le_pow_right (by omega) (show t - (m + 1) ≤ 40 by omega)) (by decide)
      have Hn1 := Lib.hid hn1
      have hlen1 : Maps.size D1 ≤ n1 := ho1.size_le
      have hmf2 := Lib.hid (MF.none_ (ho2.isMap) p (p.size + 1) hz2)
      obtain ⟨r0, hr0⟩ : ∃ n, n = w'.heap.size := ⟨_, rfl⟩
      have hr0b2 : w.heap.size ≤ r0 := by omega
      have hbl2 : b2 < r0 := by have := ho2.lt; omega
      have hbl1 : b1 < r0 := by have := ho1.lt; omega
      have Hr0 := Lib.hid hr0
      clear hr0 hm1 hst0 hfeq hn1
      go_wp2_with (at_range; refine wpList_range_own _ rfl _ 74 rfl 9 3 lawS Tryd.underlying74 _ b1 n1 _ rfl ho1 ?_; intro w0 hrg0 hg0 hs0)
      rw [← Hr0.out] at hrg0
      rw [← Hr0.out]
      clear hs0
      have ho2a := ho2.kept hg0 (by simp)
      go_frame
      go_loopw [16] (fun _ wr => ∃ (left : Lit → Bool) (c0 n2 : Nat) (Dh Dn : MD), Hid (World.ranges (H := Unit) wr Tryd.prog 9 (plainElem Tryd.prog 3) b1 r0 n1 Dh left c0) ∧ (∀ kl, left kl = true → ∃ j, j < p.size ∧ kl = keyL p j ∧ Dh.atKey kl (litZ 0) = litZ (f j)) ∧ (∀ kl, Maps.has Dh kl = true → left kl = true) ∧ Hid (World.ownsMap (H := Unit) wr Tryd.prog 9 (plainElem Tryd.prog 3) b2 n2 Dn) ∧ n2 + 2 * c0 ≤ 2 * n1 ∧ MF Dn p (p.size + 1) (part p a b f left) ∧ Below w.heap.size w wr) (fun _ wr => wr.rangeLeft b1 r0)
      case atStart => exact ⟨_, _, 0, D1, D2, hrg0, fun kl hk => by obtain ⟨q, hq, e⟩ := Hm1.out.key kl hk; exact ⟨q, hq, e, by rw [e]; exact Hm1.out.at_ q (by omega)⟩, fun kl hk => hk, ho2a, by omega, hmf2.out.congr (fun k _ => (Hst0.out k).symm), hbel.grown hg0 hsz (fun k e => by cases e)⟩
      case round =>
        obtain ⟨left, c0, n2, Dh, Dn, hrg, hlf, hhs, hon, hn2, hmf, hb⟩ := hrel
        have Hlf := Lib.hid hlf
        have Hhs := Lib.hid hhs
        have Hmf := Lib.hid hmf
        have Hb := Lib.hid hb
        have Hn2 := Lib.hid hn2
        clear hlf hhs hmf hb hn2
        go_wp2_with (at_next; refine wpList_next_ranges _ rfl _ rfl 9 lawS (plainElem (H := Unit) Tryd.prog 3) encStr (Value.int .i64) (fun key kl hk => by obtain ⟨x, hx, _⟩ := Maps.keyOf_str Tryd.underlying9 hk; exact ⟨x, hx⟩) (fun v y hv => by obtain ⟨c, rfl, _⟩ := plainElem_int_inv Tryd.underlying3 hv; exact ⟨c, rfl⟩) b1 r0 n1 _ _ _ rfl hrg.out ?_ ?_)
        · intro hc0 hl0
          have hno : Hid (∀ kl, Maps.has Dh kl = false) := by
            refine Lib.hid fun kl => ?_
            cases hh : Maps.has Dh kl with
            | false => rfl
            | true => have := Hhs.out kl hh; rw [hl0 kl] at this; cases this
          have hdn : MF Dn p (p.size + 1) (F (t - m)) := Hmf.out.congr fun k hk => by rw [part_end hl0]; exact hstp.out k hk
          have hdel := Lib.hid (hdn.strike)
          have hfull : Hid (keyL p p.size = .string p.data.toList) := by
            refine Lib.hid ?_
            unfold keyL
            rw [ext_list, List.drop_zero, List.take_of_length_le (by rw [len_list]; exact Nat.le_refl _)]
          have hkeyp : keyOf Tryd.prog 9 (.string p) = some (keyL p p.size) := by rw [hfull.out]; exact Go.WideMaps.keyOf_string_mk Tryd.underlying9 (by unfold maxLen; omega)
          have hatn := Lib.hid (hdn.at_ p.size (Nat.le_refl _))
          have hpow : n2 ≤ 2 ^ (t - m) := by
            have h1 := Hn1.out
            have h2 := Hn2.out
            rw [show t - m = (t - (m + 1)) + 1 from by omega, Nat.pow_succ]
            omega
          have Hpow := Lib.hid hpow
          have how1 := Lib.hid (own_empty hrg.out.owns hno.out)
          clear hdn hpow hl0
          go_wp2_with (first
            | (at_lookup; refine wpList_lookup_own_int _ rfl _ _ 74 rfl 9 3 .i64 lawS Tryd.underlying74 Tryd.underlying3 (Tryd.zeroValue3 _) b2 n2 Dn rfl hon.out _ (keyL p p.size) rfl hkeyp ?_; intro cx hcx hwx)
            | (at_delete; refine wpList_delete_own _ rfl _ _ 74 9 rfl 3 lawS Tryd.underlying74 _ b2 n2 Dn rfl hon.out _ _ rfl hkeyp ?_; intro w1 hown1 hturn1; go_frame))
          obtain rfl : cx = F (t - m) p.size := by
            have q1 := hatn.out
            rw [hcx] at q1
            injection q1 with q2
            injection q2 with _ q3
          have how2 := Lib.hid (how1.out.kept hturn1.grown (by simpa using hne))
          have hbel2 := Lib.hid (Hb.out.grown hturn1.grown Hb.out.size (fun k e => by cases e; exact hb2'))
          have Hown1 := Lib.hid hown1
          clear hown1 hturn1 hcx hwx
          go_wp2_with fail
          go_step3
          exact ⟨rfl, ⟨m, b2, b1, _, _, _, _, _, _, _, _, _, _, _, _, _, _, _, _, _, _, _, _, _, _, _, _, _, _, _, _, _, _, _, _, _, _, _, _, _, _, _, _, _, _, _, _, _, _, _, _, _, _, _, _, _, _, _, _, _, _, _, _, _, _, _, rfl, by omega, ⟨_, _, n2, Hown1.out, Hpow.out, hdel.out, how2.out, hno.out, hne.symm, hb2', hb1, hbel2.out⟩⟩, by show (intOf (Value.int .i64 (m : Int))).toNat < (intOf (Value.int .i64 ((m + 1 : Nat) : Int))).toNat; simp [intOf]⟩
        · intro x c kl yd yp w2 cnt2 hkey hlk hv hat hrg2 hlt hg2 hs2 hen
          obtain ⟨x', ex, rfl, _⟩ := Maps.keyOf_str Tryd.underlying9 hkey
          obtain rfl : x = x' := encStr_inj ex
          obtain ⟨c', ec, ey, hwc⟩ := plainElem_int_inv Tryd.underlying3 hv
          cases ec
          cases ey
          obtain ⟨j, hj, ekl, hval⟩ := Hlf.out _ hlk
          have hcf : f j = c := by
            rw [hat] at hval
            injection hval with q2
            injection q2 with _ q3
            exact q3.symm
          subst hcf
          obtain rfl : x = (p.extract 0 j).data.toList := by injection ekl
          have hes : encStr (p.extract 0 j).data.toList = .string (p.extract 0 j) := by unfold encStr; rfl
          rw [hes] at hen
          rw [hes]
          change left (keyL p j) = true at hlk
          rw [show Lit.string (p.extract 0 j).data.toList = keyL p j from rfl] at hrg2
          clear hes hkey hv hwc hval hs2 ekl
          have hz0 := ext_size p 0 j (by omega)
          have t1 : ¬ 9223372036854775807 < (p.extract 0 j).size + 1 := by omega
          have hkH : gH p j ≤ p.size := by have := goN_le p j sH; show goN p j sH ≤ _; omega
          have hkT : gT p j ≤ p.size := by have := goN_le p j sT; show goN p j sT ≤ _; omega
          have hkeyH : keyOf Tryd.prog 9 (.string (p.extract 0 (gH p j))) = some (keyL p (gH p j)) := Go.WideMaps.keyOf_string_mk Tryd.underlying9 (by rw [ext_size _ _ _ hkH]; unfold maxLen; omega)
          have hkeyT : keyOf Tryd.prog 9 (.string (p.extract 0 (gT p j))) = some (keyL p (gT p j)) := Go.WideMaps.keyOf_string_mk Tryd.underlying9 (by rw [ext_size _ _ _ hkT]; unfold maxLen; omega)
          have hkeyJ : keyOf Tryd.prog 9 (.string (p.extract 0 j)) = some (keyL p j) := Go.WideMaps.keyOf_string_mk Tryd.underlying9 (by unfold maxLen; omega)
          have hcH : ∀ W : World, Calls Tryd.prog 59 #[.string p, .string (p.extract 0 j ++ ⟨#[104]⟩)] W fun e w' => e = .returned (.string (p.extract 0 (gH p j))) ∧ W = w' := fun W => kept_any p j sH W hj h8 rfl
          have hcT : ∀ W : World, Calls Tryd.prog 59 #[.string p, .string (p.extract 0 j ++ ⟨#[116]⟩)] W fun e w' => e = .returned (.string (p.extract 0 (gT p j))) ∧ W = w' := fun W => kept_any p j sT W hj h8 rfl
          have hfj := hnn.out j hj
          have hfM := Int.le_trans (sumJ_ge p.size hnn.out j hj) hsM.out
          have pin := fun k => part_in (p := p) (a := a) (b := b) (f := f) left ha hb hnn.out k
          have hss := hsM.out
          have hab : (a + b) * sumJ f p.size ≤ 20 * 4000000000000 := Int.mul_le_mul (by omega) hss (sumJ_nonneg _ hnn.out) (by omega)
          have pinH := pin (gH p j)
          have pinT := pin (gT p j)
          have mH0 : 0 ≤ a * f j := Int.mul_nonneg ha hfj
          have mT0 : 0 ≤ b * f j := Int.mul_nonneg hb hfj
          have mH1 : a * f j ≤ 10 * 4000000000000 := Int.mul_le_mul ha2 hfM hfj (by omega)
          have mT1 : b * f j ≤ 10 * 4000000000000 := Int.mul_le_mul hb2 hfM hfj (by omega)
          have iH := ind_in (gH p j) mH0 (gT p j)
          have hatH := Lib.hid (Hmf.out.at_ (gH p j) hkH)
          have hmf1 := Hmf.out.put (gH p j) (by omega) hkH (a * f j)
          have hatT := Lib.hid (hmf1.at_ (gT p j) hkT)
          have hmf2' := hmf1.put (gT p j) (by omega) hkT (b * f j)
          have Hmf3 : Hid (MF _ p (p.size + 1) (part p a b f (fun z => left z && !z.sameKey (keyL p j)))) := Lib.hid (hmf2'.congr (g := part p a b f (fun z => left z && !z.sameKey (keyL p j))) fun k _ => by rw [part_next hj hlk]; unfold con; omega)
          have hvH : plainElem (H := Unit) Tryd.prog 3 (.int .i64 (part p a b f left (gH p j) + a * f j)) = some (litZ (part p a b f left (gH p j) + a * f j), []) := plainElem_int Tryd.underlying3 (Go.WalkArith.wf_i64 (by omega))
          have hvT : plainElem (H := Unit) Tryd.prog 3 (.int .i64 (part p a b f left (gT p j) + ind (gH p j) (a * f j) (gT p j) + b * f j)) = some (litZ (part p a b f left (gT p j) + ind (gH p j) (a * f j) (gT p j) + b * f j), []) := plainElem_int Tryd.underlying3 (Go.WalkArith.wf_i64 (by omega))
          have bdH : 0 ≤ a * f j ∧ a * f j ≤ 40000000000000 ∧ 0 ≤ part p a b f left (gH p j) ∧ part p a b f left (gH p j) ≤ 80000000000000 := by omega
          have bdT : 0 ≤ b * f j ∧ b * f j ≤ 40000000000000 ∧ 0 ≤ part p a b f left (gT p j) + ind (gH p j) (a * f j) (gT p j) ∧ part p a b f left (gT p j) + ind (gH p j) (a * f j) (gT p j) ≤ 120000000000000 := by omega
          generalize hX1 : part p a b f left (gH p j) = X1 at *
          generalize hX2 : part p a b f left (gT p j) + ind (gH p j) (a * f j) (gT p j) = X2 at *
          clear hX1 hX2
          have Hrg2 := Lib.hid hrg2
          have Hlt := Lib.hid hlt
          have Hg2 := Lib.hid hg2
          have hon2 := Lib.hid (hon.out.kept hg2 (by simp; omega))
          have hb2w := Lib.hid (Hb.out.grown hg2 Hb.out.size (fun k e => by cases e; exact hr0b2))
          have Hat := Lib.hid hat
          have Hlk := Lib.hid hlk
          have hn2s := Hn2.out
          have Hcap : Hid (n2 + 2 ≤ 9000000000000000) := Lib.hid (by omega)
          clear hrg2 hlt hg2 hat hlk hmf1 hmf2' pin hss hab pinH pinT mH0 mT0 mH1 mT1 iH hn2s hfM hfj hz0
          have HkeyH := Lib.hid hkeyH
          have HkeyT := Lib.hid hkeyT
          have HkeyJ := Lib.hid hkeyJ
          have HcH := Lib.hid hcH
          have HcT := Lib.hid hcT
          have HvH := Lib.hid hvH
          have HvT := Lib.hid hvT
          have HbdT := Lib.hid bdT
          obtain ⟨bd1, bd2, bd3, bd4⟩ := bdH
          clear hkeyH hkeyT hkeyJ hcH hcT hvH hvT bdT hkH hkT
          go_wp2_with fail
          refine (HcH.out _).mono ?_
          rintro e w3 ⟨rfl, rfl⟩
          go_wp2_with (first
            | (at_lookup; refine wpList_lookup_own_int _ rfl _ _ 74 rfl 9 3 .i64 lawS Tryd.underlying74 Tryd.underlying3 (Tryd.zeroValue3 _) b2 n2 Dn rfl hon2.out _ (keyL p (gH p j)) rfl HkeyH.out ?_; intro cx hcx hwx; have ecx := litZ_inj (hcx.symm.trans hatH.out); rw [ecx]; clear ecx hcx hwx)
            | (at_mapUpdate; refine wpList_mapUpdate_own _ rfl _ _ _ 74 rfl 9 3 lawS Tryd.underlying74 _ b2 n2 Dn rfl hon2.out (by have := Hcap.out; unfold maxLen; omega) _ _ (keyL p (gH p j)) rfl rfl HkeyH.out _ _ HvH.out ?_; intro w4 hon4 hg4))
          have Hon4 := Lib.hid hon4
          have Hrg4 := Lib.hid (Hrg2.out.kept hg4 (by simpa using hne) (by simp; omega))
          have hb4w := Lib.hid (hb2w.out.grown hg4 hb2w.out.size (fun k e => by cases e; exact hb2'))
          clear hon4 hg4 bd1 bd2 bd3 bd4
          obtain ⟨bd1, bd2, bd3, bd4⟩ := HbdT.out
          refine (HcT.out _).mono ?_
          rintro e w5 ⟨rfl, rfl⟩
          go_wp2_with (first
            | (at_lookup; refine wpList_lookup_own_int _ rfl _ _ 74 rfl 9 3 .i64 lawS Tryd.underlying74 Tryd.underlying3 (Tryd.zeroValue3 _) b2 (n2 + 1) _ rfl Hon4.out _ (keyL p (gT p j)) rfl HkeyT.out ?_; intro cy hcy hwy; have ecy := litZ_inj (hcy.symm.trans hatT.out); rw [ecy]; clear ecy hcy hwy)
            | (at_mapUpdate; refine wpList_mapUpdate_own _ rfl _ _ _ 74 rfl 9 3 lawS Tryd.underlying74 _ b2 (n2 + 1) _ rfl Hon4.out (by have := Hcap.out; unfold maxLen; omega) _ _ (keyL p (gT p j)) rfl rfl HkeyT.out _ _ HvT.out ?_; intro w6 hon6 hg6)
            | (at_delete; refine wpList_delete_ranges _ rfl _ _ 74 9 rfl 3 lawS Tryd.underlying74 _ b1 r0 n1 Dh _ cnt2 rfl (Hrg4.out.kept hg6 (by simpa using hne) (by simp; omega)) _ _ rfl HkeyJ.out ?_; intro w7 cnt3 hrg7 hle hturn; go_frame))
          rw [strike_twice] at hrg7
          have Hrg7 := Lib.hid hrg7
          have Hon7 := Lib.hid (hon6.kept hturn.grown (by simpa using fun e => hne e.symm))
          have hb6w := hb4w.out.grown hg6 hb4w.out.size (fun k e => by cases e; exact hb2')
          have hb7w := Lib.hid (hb6w.grown hturn.grown hb6w.size (fun k e => by cases e; exact hb1))
          have hlf7 : Hid (∀ kl, (left kl && !kl.sameKey (keyL p j)) = true → ∃ q, q < p.size ∧ kl = keyL p q ∧ (Dh.del (keyL p j)).atKey kl (litZ 0) = litZ (f q)) := by
            refine Lib.hid fun kl hk => ?_
            rw [Bool.and_eq_true] at hk
            obtain ⟨q, hq, e, hv⟩ := Hlf.out kl hk.1
            have hne2 : kl ≠ keyL p j := fun e2 => by rw [e2, keyL_same] at hk; simp at hk
            exact ⟨q, hq, e, by rw [atKey_del_other hne2]; exact hv⟩
          have hhs7 : Hid (∀ kl, Maps.has (Dh.del (keyL p j)) kl = true → (left kl && !kl.sameKey (keyL p j)) = true) := by
            refine Lib.hid fun kl hk => ?_
            have hne2 : kl ≠ keyL p j := fun e2 => by rw [e2, has_del_same] at hk; cases hk
            rw [has_del_other hne2] at hk
            rw [Hhs.out kl hk, sameKey_ne hne2]
            rfl
          have hcnt : Hid (n2 + 1 + 1 + 2 * cnt3 ≤ 2 * n1) := by
            refine Lib.hid ?_
            have h1 := Hn2.out
            have h2 := Hlt.out
            omega
          clear hrg7 hon6 hg6 hturn hb6w
          go_roundw
          case rel => exact ⟨_, _, _, _, _, _, _, _, _, _, _, _, _, _, _, _, _, _, _, _, _, _, _, _, _, _, _, _, _, ⟨_, _, _, _, _, Hrg7, hlf7.out, hhs7.out, Hon7, hcnt.out, Hmf3.out, hb7w.out⟩, rfl⟩
          case measure =>
            rw [Hrg7.out.left_eq, hrg.out.left_eq]
            have := Hlt.out
            omega
end Go.Proofs.YtjkcmphhbaeioaaDoor
