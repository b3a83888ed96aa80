/- Chances within some plays: the contracts of the model. -/
import Derived.Test.YtfogipdhipipfaaSkY
import Derived.Test.YtfogipdhipipfaaSkD
namespace Go.Proofs.Ytfogipdhipipfaa
set_option linter.unusedSimpArgs false
open Go.ChangeShapes Go.WideShapes Go.ChangeAt Go.RowKit
set_option linter.unusedVariables false

theorem rowF_congr (n : Nat) {f g : Nat → Int} (h : ∀ k, k ≤ n → f k = g k) : rowF n f = rowF n g := by
  unfold rowF
  apply List.map_congr_left
  intro k hk
  exact h k (by simpa using Nat.lt_succ_iff.1 (by simpa using hk))
def mwG (H T O : Int) (kind : Nat) (F : Nat → Int) (G k j : Nat) : Int := if j < k then mdS H T O kind F j (bdN j G) (bdN j G) else 0
def mwH (H T O : Int) (kind : Nat) (F : Nat → Int) (G k s j : Nat) : Int := if j = k then mdS H T O kind F k (bdN k G) s else mwG H T O kind F G k j
theorem mwG_zero (H T O : Int) (kind : Nat) (F : Nat → Int) (G : Nat) : mwG H T O kind F G 0 = noI := by
  funext j
  unfold mwG
  rw [if_neg (by omega)]
theorem mwG_at (H T O : Int) (kind : Nat) (F : Nat → Int) (G k : Nat) : mwG H T O kind F G k k = 0 := by unfold mwG; rw [if_neg (by omega)]
theorem mwH_at (H T O : Int) (kind : Nat) (F : Nat → Int) (G k s : Nat) : mwH H T O kind F G k s k = mdS H T O kind F k (bdN k G) s := by unfold mwH; rw [if_pos rfl]
theorem mwH_old (H T O : Int) (kind : Nat) (F : Nat → Int) (G k s s' j : Nat) (h : j ≠ k) : mwH H T O kind F G k s j = mwH H T O kind F G k s' j := by unfold mwH; rw [if_neg h, if_neg h]
theorem mwH_first (H T O : Int) (kind : Nat) (F : Nat → Int) (G k j : Nat) (h : j ≠ k) : mwH H T O kind F G k 0 j = mwG H T O kind F G k j := by unfold mwH; rw [if_neg h]
theorem mwH_all (H T O : Int) (kind : Nat) (F : Nat → Int) (G k : Nat) : mwH H T O kind F G k (bdN k G) = mwG H T O kind F G (k + 1) := by
  funext j
  unfold mwH
  by_cases e : j = k
  · subst e
    rw [if_pos rfl]
    unfold mwG
    rw [if_pos (by omega)]
  · rw [if_neg e]
    unfold mwG
    by_cases a : j < k
    · rw [if_pos a, if_pos (by omega)]
    · rw [if_neg a, if_neg (by omega)]
theorem mwH_same {H T O : Int} {kind : Nat} {F : Nat → Int} {G k s : Nat} (h : mdS H T O kind F k (bdN k G) (s + 1) = mdS H T O kind F k (bdN k G) s) : mwH H T O kind F G k (s + 1) = mwH H T O kind F G k s := by
  funext j
  by_cases e : j = k
  · subst e
    rw [mwH_at, mwH_at, h]
  · exact mwH_old H T O kind F G k _ _ j e
theorem mdS_in {H T O B : Int} {F : Nat → Int} (kind : Nat) (h0 : 0 ≤ H) (t0 : 0 ≤ T) (ho : H + T = O) (hF : ∀ i, 0 ≤ F i ∧ F i ≤ B) (q b : Nat) : ∀ s, 0 ≤ mdS H T O kind F q b s ∧ mdS H T O kind F q b s ≤ O * B
  | 0 => by
    have a := Int.mul_nonneg (hF q).1 (show 0 ≤ O by omega)
    have b := Int.mul_le_mul_of_nonneg_right (hF q).2 (show 0 ≤ O by omega)
    unfold mdS
    rw [Int.mul_comm O B]
    exact ⟨a, b⟩
  | s + 1 => by
    have a := mdS_in kind h0 t0 ho hF q b s
    have c := ptI_in h0 t0 hF q (s + 1)
    rw [ho] at c
    unfold mdS
    split
    · exact c
    · exact a
set_option maxRecDepth 100000 in
set_option maxHeartbeats 3200000 in
theorem skPart_any (H T o : Int) (F : Nat → Int) (q s G g cap b : Nat) (w : World) (hc : coinG H o = true) (hT : o - H = T) (h1 : q + s ≤ G) (h2 : s ≤ q) (hG : G ≤ 16) (hF : ∀ i, 0 ≤ F i ∧ F i ≤ 1000000) (hI : IRow w b (.slice (some ⟨g, 0, none⟩) (G + 1) cap) (rowF G F)) (hcap : G + 1 ≤ cap) (hmx : cap ≤ 9223372036854775807) :
    Calls Try.prog 74 #[cn H o, .slice (some ⟨g, 0, none⟩) (G + 1) cap, .int .i64 q, .int .i64 s] w fun e w' => e = .returned (.int .i64 (ptI H T F q s)) ∧ Below w.heap.size w w' := by
  obtain ⟨r1, r2, r3, r4⟩ := coin_in hc
  have bx := Box2.new w (.int .i64 H) (.int .i64 o) 32
  have hba := bel_alloc (Below.refl _ w) (.cells #[.int .i64 H, .int .i64 o] 32)
  have Hba := Lib.hid hba
  obtain ⟨c0, c1, ck⟩ := bx
  obtain ⟨x0, x1⟩ := rowF_cell (hI.below hba) (q + s) (by omega)
  obtain ⟨y0, y1⟩ := rowF_cell (hI.below hba) (q - s) (by omega)
  obtain ⟨f0, f1⟩ := hF (q + s)
  obtain ⟨f2, f3⟩ := hF (q - s)
  unfold ptI
  have w1' : IntKind.i64.wrap ((q : Int) + (s : Int)) = ((q + s : Nat) : Int) := by rw [← Int.natCast_add]; exact IntWalk.i64_in _ (by omega)
  have w2' : IntKind.i64.wrap ((q : Int) - (s : Int)) = ((q - s : Nat) : Int) := by rw [show (q : Int) - (s : Int) = ((q - s : Nat) : Int) from by omega]; exact IntWalk.i64_in _ (by omega)
  have b1 : ((q + s : Nat) : Int) < (G : Int) + 1 := by omega
  have b2 : ((q - s : Nat) : Int) < (G : Int) + 1 := by omega
  generalize F (q + s) = X at *
  generalize F (q - s) = Y at *
  generalize q + s = Q1 at *
  generalize q - s = Q2 at *
  have m0 := Int.mul_nonneg (show (0 : Int) ≤ H by omega) f0
  have m1 := Int.mul_le_mul (show H ≤ 10 by omega) f1 f0 (by omega)
  have m2 := Int.mul_nonneg (show (0 : Int) ≤ T by omega) f2
  have m3 := Int.mul_le_mul (show T ≤ 10 by omega) f3 f2 (by omega)
  have hw0 : IntKind.i64.wrap (o - H) = T := by rw [hT]; exact IntWalk.i64_in _ (by omega)
  have hw1 : IntKind.i64.wrap (H * X) = H * X := IntWalk.i64_in _ (by omega)
  have hw2 : IntKind.i64.wrap (T * Y) = T * Y := IntWalk.i64_in _ (by omega)
  have hw3 : IntKind.i64.wrap (H * X + T * Y) = H * X + T * Y := IntWalk.i64_in _ (by omega)
  clear m0 m1 m2 m3 f0 f1 f2 f3 hF hT hI hba x1 y1
  go_enter Try.func74, Try.ntmps74
  go_wp2_with fail
  go_quiet (fail)
  go_wp2_with fail
  go_ret
  exact ⟨rfl, bel_drewN Hba.out _⟩

set_option maxRecDepth 100000 in
set_option maxHeartbeats 12800000 in
theorem skWithin0_any (H T o : Int) (G n : Nat) (w : World) (hc : coinG H o = true) (hT : o - H = T) (h1 : 1 ≤ G) (h16 : G ≤ 16) (hn : n ≤ 6) :
    Calls Try.prog 71 #[cn H o, .int .i64 G, .int .i64 n, .int .i64 0] w (RowOne (rowF G (wP H T 0 G n)) w) := by
  obtain ⟨r1, r2, r3, r4⟩ := coin_in hc
  have hH : 0 ≤ H ∧ 0 ≤ T ∧ H + T = o := by omega
  obtain ⟨hH, hT0, hHT⟩ := hH
  have hV := Lib.hid (wP_in (H := H) (T := T) 0 hH hT0 G)
  have hfin : Hid (n - 0 = n) := Lib.hid (by omega)
  have hmk := mk_row G h16
  have bx0 := Box2.new w (.int .i64 H) (.int .i64 o) 32
  have bl0 := bel_alloc (Below.refl _ w) (.cells #[.int .i64 H, .int .i64 o] 32)
  have hm0 := made_ints (w.alloc (.cells #[.int .i64 H, .int .i64 o] 32)) (G + 1) (by omega)
  rw [← rowF_zero, ← size1] at hm0
  obtain ⟨hs1, hs2⟩ := rowF_store hm0 G 1 (wP H T 0 G 0) (by unfold wP; rw [if_pos rfl]) (fun i _ hi => by unfold wP; rw [if_neg hi])
  obtain ⟨x0, x1⟩ := rowF_cell hm0 G (Nat.le_refl _)
  have heq : ((w.alloc (.cells #[.int .i64 H, .int .i64 o] 32)).alloc (.cells (Array.replicate (G + 1) (.int .i64 0)) 3)).setCell ⟨w.heap.size + 1, G, none⟩ (.int .i64 1) = (w.alloc (.cells #[.int .i64 H, .int .i64 o] 32)).alloc (.cells ((Array.replicate (G + 1) (.int .i64 0)).setIfInBounds G (.int .i64 1)) 3) := by
    rw [size1 w (.cells #[.int .i64 H, .int .i64 o] 32)]
    simp [go_sem]
  rw [heq] at hs1
  have Hs1 := Lib.hid hs1
  have hb1 := bel_alloc (Below.refl _ (w.alloc (.cells #[.int .i64 H, .int .i64 o] 32))) (.cells ((Array.replicate (G + 1) (.int .i64 0)).setIfInBounds G (.int .i64 1)) 3)
  have Hbx := Lib.hid (bx0.keep hb1)
  have Hbl := Lib.hid (bel_trans bl0 hb1)
  have hpg : (G : Int) < (G : Int) + 1 := by omega
  have hg0 : (0 : Int) ≤ (G : Int) + 1 := by omega
  have hgw : IntKind.i64.wrap ((G : Int) + 1) = (G : Int) + 1 := IntWalk.i64_in _ (by omega)
  clear hm0 hs1 hs2 heq hb1 bx0 bl0
  go_enter Try.func71, Try.ntmps71
  go_wp2_with fail
  generalize (Array.replicate (G + 1) (Value.int .i64 0)).setIfInBounds G (.int .i64 1) = A0 at *
  generalize (w.alloc (.cells #[.int .i64 H, .int .i64 o] 32)).alloc (.cells A0 3) = w1 at *
  clear x0 x1
  go_loopw [2, 9] (fun x v wr => ∃ r : Nat, r ≤ n ∧ x = .int .i64 r ∧ Hid (IRow wr (w.heap.size + 1) v (rowF G (wP H T 0 G (n - r)))) ∧ Hid (Box2 wr w.heap.size (.int .i64 H) (.int .i64 o)) ∧ Hid (Below w.heap.size w wr)) (fun x _ _ => (intOf x).toNat)
  case atStart => exact ⟨n, Nat.le_refl _, rfl, by rw [Nat.sub_self]; exact Hs1, Hbx, Hbl⟩
  case round =>
    obtain ⟨r, hr, rfl, hI, hbx, hbl⟩ := hrel
    obtain ⟨wa, rfl⟩ : ∃ wa : World, wa = wr := ⟨_, rfl⟩
    rcases hI.out.form with ⟨hx, _⟩ | ⟨hx, gv, cap, rfl, hbg, hgl, hlc, hcm⟩
    · have := rowF_len G (wP H T 0 G (n - r))
      rw [hx] at this; simp at this
    · by_cases h0 : r = 0
      · subst h0
        rw [hfin.out] at hI ⊢
        rw [rowF_len] at hlc ⊢
        have hI2 := Lib.hid (hI.out.mono (b' := w.heap.size) (by omega))
        rw [rowF_len] at hI2
        clear hx hI hlc hcm
        go_wp2_with fail
        go_ret
        exact ⟨_, rfl, hI2.out, hbl.out⟩
      · have hr0 : (0 : Int) < (r : Int) := by omega
        have hr1 : Hid (((r - 1 : Nat) : Int) = (r : Int) - 1) := Lib.hid (by omega)
        have hrn : IntKind.i64.wrap ((r : Int) - 1) = (r : Int) - 1 := IntWalk.i64_in _ (by omega)
        rw [rowF_len] at hlc hI ⊢
        unfold maxLen at hcm
        have h2 : (H + T) ^ (n - r) ≤ 1000000 := by
          rw [hHT]
          have hi6 : n - r ≤ 6 := by omega
          generalize n - r = i at *
          have a : o ^ i ≤ 10 ^ i := by
            have ho : ((o.toNat : Nat) : Int) = o := Int.toNat_of_nonneg (by omega)
            rw [← ho]
            have := Nat.pow_le_pow_left (show o.toNat ≤ 10 by omega) i
            have e2 : ((o.toNat ^ i : Nat) : Int) ≤ ((10 ^ i : Nat) : Int) := by omega
            simpa using e2
          have b : (10 : Int) ^ i ≤ 1000000 := by
            match i, hi6 with
            | 0, _ | 1, _ | 2, _ | 3, _ | 4, _ | 5, _ | 6, _ => decide
          omega
        have HF : Hid (∀ q, 0 ≤ wP H T 0 G (n - r) q ∧ wP H T 0 G (n - r) q ≤ 1000000) := Lib.hid (fun q => ⟨(hV.out _ q).1, Int.le_trans (hV.out _ q).2 h2⟩)
        have hnx : Hid (rowF G (mwG H T o 0 (wP H T 0 G (n - r)) G (G + 1)) = rowF G (wP H T 0 G (n - (r - 1)))) := Lib.hid (rowF_congr G (fun q hq => by
          have := md_step (H := H) (T := T) 0 G (n - r) q (by omega) hH hT0 hq
          rw [hHT] at this
          rw [show n - (r - 1) = (n - r) + 1 from by omega, ← this]
          unfold mwG
          rw [if_pos (by omega)]))
        clear h2 hx
        generalize wP H T 0 G (n - r) = F at *
        have hm1 := made_ints wa (G + 1) (by omega)
        rw [← rowF_zero] at hm1
        have Hm1 := Lib.hid hm1
        have hb2 := Lib.hid (bel_alloc (Below.refl _ wa) (.cells (Array.replicate (G + 1) (.int .i64 0)) 3))
        have hsz := hbl.out.size
        have hz0 := Lib.hid (mwG_zero H T o 0 F G)
        clear hm1
        obtain ⟨c0, c1, hk⟩ := hbx.out
        go_wp2_with fail
        clear c0 c1 hk
        go_loopw [31] (fun x wr => ∃ k : Nat, k ≤ G + 1 ∧ x = .int .i64 k ∧ Hid (IRow wr wa.heap.size (.slice (some ⟨wa.heap.size, 0, none⟩) (G + 1) (G + 1)) (rowF G (mwG H T o 0 F G k))) ∧ Hid (Below wa.heap.size wa wr)) (fun x _ => G + 1 - (intOf x).toNat)
        case atStart => exact ⟨0, by omega, rfl, by rw [hz0.out]; exact Hm1, hb2⟩
        case round =>
          obtain ⟨k, hk, rfl, hN, hbn⟩ := hrel
          obtain ⟨wb, rfl⟩ : ∃ wb : World, wb = wr := ⟨_, rfl⟩
          by_cases hkl : k < G + 1
          · have hki : (k : Int) < (G : Int) + 1 := by omega
            obtain ⟨c0, c1, c2⟩ := hbx.out.keep hbn.out
            obtain ⟨a0, a1⟩ := rowF_cell (hI.out.below hbn.out) k (by omega)
            obtain ⟨x0, x1⟩ := rowF_cell hN.out k (by omega)
            rw [mwG_at] at x0
            obtain ⟨f0, f1⟩ := HF.out k
            have m0 := Int.mul_nonneg f0 (show (0 : Int) ≤ o by omega)
            have m1 := Int.mul_le_mul f1 r4 (by omega) (by omega)
            have hwo : IntKind.i64.wrap (F k * o) = F k * o := IntWalk.i64_in _ (by omega)
            obtain ⟨hM1, hM2⟩ := rowF_store hN.out k (F k * o) (mwH H T o 0 F G k 0) (by rw [mwH_at]; rfl) (fun j _ hj => mwH_first H T o 0 F G k j hj)
            have HM1 := Lib.hid hM1
            have HM2 : Hid (Below wa.heap.size wa ((wb.setCell ⟨wa.heap.size, k, none⟩ (.int .i64 (F k * o))).drew)) := Lib.hid (hbn.out.setCell (Nat.le_refl _) _).drew
            clear hM1 hM2 a1 m0 m1 f0 f1
            go_wp2_with fail
            go_region
            have HM3 : Hid (IRow ((wb.setCell ⟨wa.heap.size, k, none⟩ (.int .i64 (F k * o))).drew) wa.heap.size (.slice (some ⟨wa.heap.size, 0, none⟩) (G + 1) (G + 1)) (rowF G (mwH H T o 0 F G k 0))) := Lib.hid (HM1.out.drewN 1)
            generalize (wb.setCell ⟨wa.heap.size, k, none⟩ (.int .i64 (F k * o))).drew = wc at *
            clear HM1 x0 x1 a0 c0 c1 c2 hN hbn hwo
            have hskb := Lib.hid (fun W => skBold_any (k : Int) (G : Int) W (sk_of (by omega) (by omega) (by omega) (by omega)))
            rw [(lo_td k G (by omega)).2] at hskb
            have hbd : Hid (bdN k G ≤ k ∧ k + bdN k G ≤ G) := Lib.hid (by unfold bdN; omega)
            have hall := Lib.hid (mwH_all H T o 0 F G k)
            go_wp2_with fail
            refine (hskb.out _).mono ?_
            rintro e w3 ⟨rfl, hb3⟩
            have HN3 := Lib.hid (HM3.out.below hb3)
            have HB3 := Lib.hid (HM2.out.trans (hb3.mono HM2.out.size))
            clear hb3 HM3 HM2 hskb
            go_wp2_with fail
            go_loopw [13] (fun x wr => ∃ s : Nat, s ≤ bdN k G ∧ x = .int .i64 ((s : Int) + 1) ∧ Hid (IRow wr wa.heap.size (.slice (some ⟨wa.heap.size, 0, none⟩) (G + 1) (G + 1)) (rowF G (mwH H T o 0 F G k s))) ∧ Hid (Below wa.heap.size wa wr)) (fun x _ => bdN k G + 1 - (intOf x).toNat)
            case atStart => exact ⟨0, by omega, rfl, HN3, HB3⟩
            case round =>
              obtain ⟨s, hs, rfl, hS, hbS⟩ := hrel
              obtain ⟨wd, rfl⟩ : ∃ wd : World, wd = wr := ⟨_, rfl⟩
              by_cases hsl : s < bdN k G
              · have hsi : (s : Int) + 1 ≤ ((bdN k G : Nat) : Int) := by omega
                obtain ⟨hd1, hd2⟩ := hbd.out
                have hpart := Lib.hid (fun W hW => skPart_any H T o F k (s + 1) G gv cap (w.heap.size + 1) W hc hT (by omega) (by omega) h16 HF.out hW (by omega) (by omega))
                rw [show ((s + 1 : Nat) : Int) = (s : Int) + 1 from by omega] at hpart
                have hpi := (ptI_in (B := 1000000) hH hT0 HF.out k (s + 1))
                rw [hHT] at hpi
                obtain ⟨c0, c1, c2⟩ := hbx.out.keep hbS.out
                have hIr := Lib.hid (hI.out.below hbS.out)
                go_wp2_with fail
                refine (hpart.out _ hIr.out).mono ?_
                rintro e w4 ⟨rfl, hb4⟩
                have HS4 := Lib.hid (hS.out.below hb4)
                have HB4 := Lib.hid (hbS.out.trans (hb4.mono hbS.out.size))
                obtain ⟨x0, x1⟩ := rowF_cell HS4.out k (by omega)
                rw [mwH_at] at x0
                clear hb4 c0 c1 c2 hIr hpart hpi
                by_cases hq : s + 1 = 1
                · have hyes := Lib.hid (show mdS H T o 0 F k (bdN k G) (s + 1) = ptI H T F k (s + 1) from by rw [mdS, if_pos (.inl (.inl ⟨rfl, hq⟩))])
                  have hqb : ((s : Int) + 1 == 1) = true := by rw [beq_iff_eq]; omega
                  clear hq
                  obtain ⟨hM1, hM2⟩ := rowF_store HS4.out k (ptI H T F k (s + 1)) (mwH H T o 0 F G k (s + 1)) (by rw [mwH_at, hyes.out]) (fun j _ hj => mwH_old H T o 0 F G k _ _ j hj)
                  have HM1 := Lib.hid hM1
                  have HM2 : Hid (Below wa.heap.size wa (w4.setCell ⟨wa.heap.size, k, none⟩ (.int .i64 (ptI H T F k (s + 1))))) := Lib.hid (HB4.out.setCell (Nat.le_refl _) _)
                  clear hM1 hM2 hyes
                  generalize mdS H T o 0 F k (bdN k G) s = X at *
                  generalize ptI H T F k (s + 1) = Y at *
                  go_wp2_with fail
                  exact ⟨⟨s + 1, by omega, by go_num, HM1, HM2⟩, by simp [intOf]; omega⟩
                · have hno := Lib.hid (show mdS H T o 0 F k (bdN k G) (s + 1) = mdS H T o 0 F k (bdN k G) s from by rw [mdS, if_neg (by first | omega | (rintro (h | h) <;> first | omega | exact hq h.2))])
                  have hqb : ((s : Int) + 1 == 1) = false := by rw [beq_eq_false_iff_ne]; omega
                  clear hq
                  rw [← mwH_same hno.out] at HS4
                  clear hno
                  generalize mdS H T o 0 F k (bdN k G) s = X at *
                  generalize ptI H T F k (s + 1) = Y at *
                  go_wp2_with fail
                  exact ⟨⟨s + 1, by omega, by go_num, HS4, HB4⟩, by simp [intOf]; omega⟩
              · have hsi : ¬ (s : Int) + 1 ≤ ((bdN k G : Nat) : Int) := by omega
                have hNG : Hid (IRow wd wa.heap.size (.slice (some ⟨wa.heap.size, 0, none⟩) (G + 1) (G + 1)) (rowF G (mwG H T o 0 F G (k + 1)))) := by
                  rw [← hall.out, show bdN k G = s from by omega]
                  exact hS
                clear hS hs hsl
                go_wp2_with fail
                first
                | exact ⟨⟨k + 1, by omega, by go_num, hNG, hbS⟩, by simp [intOf]; omega⟩
                | exact ⟨⟨_, _, _, _, _, _, ⟨k + 1, by omega, by go_num, hNG⟩, rfl, rfl, rfl, rfl, rfl, by go_num⟩, by simp [intOf]; omega⟩
          · have hki : ¬ (k : Int) < (G : Int) + 1 := by omega
            have hNG : Hid (IRow wb (w.heap.size + 1) (.slice (some ⟨wa.heap.size, 0, none⟩) (G + 1) (G + 1)) (rowF G (wP H T 0 G (n - (r - 1))))) := by
              refine Lib.hid (IRow.mono (b := wa.heap.size) ?_ (by omega))
              rw [← hnx.out, show G + 1 = k from by omega]
              have := hN.out
              rw [show G + 1 = k from by omega] at this
              exact this
            have hb5 := Lib.hid (bel_trans hbl.out hbn.out)
            have hbx5 := Lib.hid (hbx.out.keep hbn.out)
            clear hN hk hkl hbn
            go_wp2_with fail
            exact ⟨⟨r - 1, by omega, by rw [hr1.out], hNG, hbx5, hb5⟩, by simp [intOf]; omega⟩

set_option maxRecDepth 100000 in
set_option maxHeartbeats 12800000 in
theorem skWithin1_any (H T o : Int) (G n : Nat) (w : World) (hc : coinG H o = true) (hT : o - H = T) (h1 : 1 ≤ G) (h16 : G ≤ 16) (hn : n ≤ 6) :
    Calls Try.prog 71 #[cn H o, .int .i64 G, .int .i64 n, .int .i64 1] w (RowOne (rowF G (wP H T 1 G n)) w) := by
  obtain ⟨r1, r2, r3, r4⟩ := coin_in hc
  have hH : 0 ≤ H ∧ 0 ≤ T ∧ H + T = o := by omega
  obtain ⟨hH, hT0, hHT⟩ := hH
  have hV := Lib.hid (wP_in (H := H) (T := T) 1 hH hT0 G)
  have hfin : Hid (n - 0 = n) := Lib.hid (by omega)
  have hmk := mk_row G h16
  have bx0 := Box2.new w (.int .i64 H) (.int .i64 o) 32
  have bl0 := bel_alloc (Below.refl _ w) (.cells #[.int .i64 H, .int .i64 o] 32)
  have hm0 := made_ints (w.alloc (.cells #[.int .i64 H, .int .i64 o] 32)) (G + 1) (by omega)
  rw [← rowF_zero, ← size1] at hm0
  obtain ⟨hs1, hs2⟩ := rowF_store hm0 G 1 (wP H T 1 G 0) (by unfold wP; rw [if_pos rfl]) (fun i _ hi => by unfold wP; rw [if_neg hi])
  obtain ⟨x0, x1⟩ := rowF_cell hm0 G (Nat.le_refl _)
  have heq : ((w.alloc (.cells #[.int .i64 H, .int .i64 o] 32)).alloc (.cells (Array.replicate (G + 1) (.int .i64 0)) 3)).setCell ⟨w.heap.size + 1, G, none⟩ (.int .i64 1) = (w.alloc (.cells #[.int .i64 H, .int .i64 o] 32)).alloc (.cells ((Array.replicate (G + 1) (.int .i64 0)).setIfInBounds G (.int .i64 1)) 3) := by
    rw [size1 w (.cells #[.int .i64 H, .int .i64 o] 32)]
    simp [go_sem]
  rw [heq] at hs1
  have Hs1 := Lib.hid hs1
  have hb1 := bel_alloc (Below.refl _ (w.alloc (.cells #[.int .i64 H, .int .i64 o] 32))) (.cells ((Array.replicate (G + 1) (.int .i64 0)).setIfInBounds G (.int .i64 1)) 3)
  have Hbx := Lib.hid (bx0.keep hb1)
  have Hbl := Lib.hid (bel_trans bl0 hb1)
  have hpg : (G : Int) < (G : Int) + 1 := by omega
  have hg0 : (0 : Int) ≤ (G : Int) + 1 := by omega
  have hgw : IntKind.i64.wrap ((G : Int) + 1) = (G : Int) + 1 := IntWalk.i64_in _ (by omega)
  clear hm0 hs1 hs2 heq hb1 bx0 bl0
  go_enter Try.func71, Try.ntmps71
  go_wp2_with fail
  generalize (Array.replicate (G + 1) (Value.int .i64 0)).setIfInBounds G (.int .i64 1) = A0 at *
  generalize (w.alloc (.cells #[.int .i64 H, .int .i64 o] 32)).alloc (.cells A0 3) = w1 at *
  clear x0 x1
  go_loopw [2, 9] (fun x v wr => ∃ r : Nat, r ≤ n ∧ x = .int .i64 r ∧ Hid (IRow wr (w.heap.size + 1) v (rowF G (wP H T 1 G (n - r)))) ∧ Hid (Box2 wr w.heap.size (.int .i64 H) (.int .i64 o)) ∧ Hid (Below w.heap.size w wr)) (fun x _ _ => (intOf x).toNat)
  case atStart => exact ⟨n, Nat.le_refl _, rfl, by rw [Nat.sub_self]; exact Hs1, Hbx, Hbl⟩
  case round =>
    obtain ⟨r, hr, rfl, hI, hbx, hbl⟩ := hrel
    obtain ⟨wa, rfl⟩ : ∃ wa : World, wa = wr := ⟨_, rfl⟩
    rcases hI.out.form with ⟨hx, _⟩ | ⟨hx, gv, cap, rfl, hbg, hgl, hlc, hcm⟩
    · have := rowF_len G (wP H T 1 G (n - r))
      rw [hx] at this; simp at this
    · by_cases h0 : r = 0
      · subst h0
        rw [hfin.out] at hI ⊢
        rw [rowF_len] at hlc ⊢
        have hI2 := Lib.hid (hI.out.mono (b' := w.heap.size) (by omega))
        rw [rowF_len] at hI2
        clear hx hI hlc hcm
        go_wp2_with fail
        go_ret
        exact ⟨_, rfl, hI2.out, hbl.out⟩
      · have hr0 : (0 : Int) < (r : Int) := by omega
        have hr1 : Hid (((r - 1 : Nat) : Int) = (r : Int) - 1) := Lib.hid (by omega)
        have hrn : IntKind.i64.wrap ((r : Int) - 1) = (r : Int) - 1 := IntWalk.i64_in _ (by omega)
        rw [rowF_len] at hlc hI ⊢
        unfold maxLen at hcm
        have h2 : (H + T) ^ (n - r) ≤ 1000000 := by
          rw [hHT]
          have hi6 : n - r ≤ 6 := by omega
          generalize n - r = i at *
          have a : o ^ i ≤ 10 ^ i := by
            have ho : ((o.toNat : Nat) : Int) = o := Int.toNat_of_nonneg (by omega)
            rw [← ho]
            have := Nat.pow_le_pow_left (show o.toNat ≤ 10 by omega) i
            have e2 : ((o.toNat ^ i : Nat) : Int) ≤ ((10 ^ i : Nat) : Int) := by omega
            simpa using e2
          have b : (10 : Int) ^ i ≤ 1000000 := by
            match i, hi6 with
            | 0, _ | 1, _ | 2, _ | 3, _ | 4, _ | 5, _ | 6, _ => decide
          omega
        have HF : Hid (∀ q, 0 ≤ wP H T 1 G (n - r) q ∧ wP H T 1 G (n - r) q ≤ 1000000) := Lib.hid (fun q => ⟨(hV.out _ q).1, Int.le_trans (hV.out _ q).2 h2⟩)
        have hnx : Hid (rowF G (mwG H T o 1 (wP H T 1 G (n - r)) G (G + 1)) = rowF G (wP H T 1 G (n - (r - 1)))) := Lib.hid (rowF_congr G (fun q hq => by
          have := md_step (H := H) (T := T) 1 G (n - r) q (by omega) hH hT0 hq
          rw [hHT] at this
          rw [show n - (r - 1) = (n - r) + 1 from by omega, ← this]
          unfold mwG
          rw [if_pos (by omega)]))
        clear h2 hx
        generalize wP H T 1 G (n - r) = F at *
        have hm1 := made_ints wa (G + 1) (by omega)
        rw [← rowF_zero] at hm1
        have Hm1 := Lib.hid hm1
        have hb2 := Lib.hid (bel_alloc (Below.refl _ wa) (.cells (Array.replicate (G + 1) (.int .i64 0)) 3))
        have hsz := hbl.out.size
        have hz0 := Lib.hid (mwG_zero H T o 1 F G)
        clear hm1
        obtain ⟨c0, c1, hk⟩ := hbx.out
        go_wp2_with fail
        clear c0 c1 hk
        go_loopw [31] (fun x wr => ∃ k : Nat, k ≤ G + 1 ∧ x = .int .i64 k ∧ Hid (IRow wr wa.heap.size (.slice (some ⟨wa.heap.size, 0, none⟩) (G + 1) (G + 1)) (rowF G (mwG H T o 1 F G k))) ∧ Hid (Below wa.heap.size wa wr)) (fun x _ => G + 1 - (intOf x).toNat)
        case atStart => exact ⟨0, by omega, rfl, by rw [hz0.out]; exact Hm1, hb2⟩
        case round =>
          obtain ⟨k, hk, rfl, hN, hbn⟩ := hrel
          obtain ⟨wb, rfl⟩ : ∃ wb : World, wb = wr := ⟨_, rfl⟩
          by_cases hkl : k < G + 1
          · have hki : (k : Int) < (G : Int) + 1 := by omega
            obtain ⟨c0, c1, c2⟩ := hbx.out.keep hbn.out
            obtain ⟨a0, a1⟩ := rowF_cell (hI.out.below hbn.out) k (by omega)
            obtain ⟨x0, x1⟩ := rowF_cell hN.out k (by omega)
            rw [mwG_at] at x0
            obtain ⟨f0, f1⟩ := HF.out k
            have m0 := Int.mul_nonneg f0 (show (0 : Int) ≤ o by omega)
            have m1 := Int.mul_le_mul f1 r4 (by omega) (by omega)
            have hwo : IntKind.i64.wrap (F k * o) = F k * o := IntWalk.i64_in _ (by omega)
            obtain ⟨hM1, hM2⟩ := rowF_store hN.out k (F k * o) (mwH H T o 1 F G k 0) (by rw [mwH_at]; rfl) (fun j _ hj => mwH_first H T o 1 F G k j hj)
            have HM1 := Lib.hid hM1
            have HM2 : Hid (Below wa.heap.size wa ((wb.setCell ⟨wa.heap.size, k, none⟩ (.int .i64 (F k * o))).drew)) := Lib.hid (hbn.out.setCell (Nat.le_refl _) _).drew
            clear hM1 hM2 a1 m0 m1 f0 f1
            go_wp2_with fail
            go_region
            have HM3 : Hid (IRow ((wb.setCell ⟨wa.heap.size, k, none⟩ (.int .i64 (F k * o))).drew) wa.heap.size (.slice (some ⟨wa.heap.size, 0, none⟩) (G + 1) (G + 1)) (rowF G (mwH H T o 1 F G k 0))) := Lib.hid (HM1.out.drewN 1)
            generalize (wb.setCell ⟨wa.heap.size, k, none⟩ (.int .i64 (F k * o))).drew = wc at *
            clear HM1 x0 x1 a0 c0 c1 c2 hN hbn hwo
            have hskb := Lib.hid (fun W => skBold_any (k : Int) (G : Int) W (sk_of (by omega) (by omega) (by omega) (by omega)))
            rw [(lo_td k G (by omega)).2] at hskb
            have hbd : Hid (bdN k G ≤ k ∧ k + bdN k G ≤ G) := Lib.hid (by unfold bdN; omega)
            have hall := Lib.hid (mwH_all H T o 1 F G k)
            go_wp2_with fail
            refine (hskb.out _).mono ?_
            rintro e w3 ⟨rfl, hb3⟩
            have HN3 := Lib.hid (HM3.out.below hb3)
            have HB3 := Lib.hid (HM2.out.trans (hb3.mono HM2.out.size))
            clear hb3 HM3 HM2 hskb
            go_wp2_with fail
            go_loopw [13] (fun x wr => ∃ s : Nat, s ≤ bdN k G ∧ x = .int .i64 ((s : Int) + 1) ∧ Hid (IRow wr wa.heap.size (.slice (some ⟨wa.heap.size, 0, none⟩) (G + 1) (G + 1)) (rowF G (mwH H T o 1 F G k s))) ∧ Hid (Below wa.heap.size wa wr)) (fun x _ => bdN k G + 1 - (intOf x).toNat)
            case atStart => exact ⟨0, by omega, rfl, HN3, HB3⟩
            case round =>
              obtain ⟨s, hs, rfl, hS, hbS⟩ := hrel
              obtain ⟨wd, rfl⟩ : ∃ wd : World, wd = wr := ⟨_, rfl⟩
              by_cases hsl : s < bdN k G
              · have hsi : (s : Int) + 1 ≤ ((bdN k G : Nat) : Int) := by omega
                obtain ⟨hd1, hd2⟩ := hbd.out
                have hpart := Lib.hid (fun W hW => skPart_any H T o F k (s + 1) G gv cap (w.heap.size + 1) W hc hT (by omega) (by omega) h16 HF.out hW (by omega) (by omega))
                rw [show ((s + 1 : Nat) : Int) = (s : Int) + 1 from by omega] at hpart
                have hpi := (ptI_in (B := 1000000) hH hT0 HF.out k (s + 1))
                rw [hHT] at hpi
                obtain ⟨c0, c1, c2⟩ := hbx.out.keep hbS.out
                have hIr := Lib.hid (hI.out.below hbS.out)
                go_wp2_with fail
                refine (hpart.out _ hIr.out).mono ?_
                rintro e w4 ⟨rfl, hb4⟩
                have HS4 := Lib.hid (hS.out.below hb4)
                have HB4 := Lib.hid (hbS.out.trans (hb4.mono hbS.out.size))
                obtain ⟨x0, x1⟩ := rowF_cell HS4.out k (by omega)
                rw [mwH_at] at x0
                clear hb4 c0 c1 c2 hIr hpart hpi
                by_cases hq : s + 1 = bdN k G
                · have hyes := Lib.hid (show mdS H T o 1 F k (bdN k G) (s + 1) = ptI H T F k (s + 1) from by rw [mdS, if_pos (.inl (.inr ⟨rfl, hq⟩))])
                  have hqb : ((s : Int) + 1 == ((bdN k G : Nat) : Int)) = true := by rw [beq_iff_eq]; omega
                  clear hq
                  obtain ⟨hM1, hM2⟩ := rowF_store HS4.out k (ptI H T F k (s + 1)) (mwH H T o 1 F G k (s + 1)) (by rw [mwH_at, hyes.out]) (fun j _ hj => mwH_old H T o 1 F G k _ _ j hj)
                  have HM1 := Lib.hid hM1
                  have HM2 : Hid (Below wa.heap.size wa (w4.setCell ⟨wa.heap.size, k, none⟩ (.int .i64 (ptI H T F k (s + 1))))) := Lib.hid (HB4.out.setCell (Nat.le_refl _) _)
                  clear hM1 hM2 hyes
                  generalize mdS H T o 1 F k (bdN k G) s = X at *
                  generalize ptI H T F k (s + 1) = Y at *
                  go_wp2_with fail
                  exact ⟨⟨s + 1, by omega, by go_num, HM1, HM2⟩, by simp [intOf]; omega⟩
                · have hno := Lib.hid (show mdS H T o 1 F k (bdN k G) (s + 1) = mdS H T o 1 F k (bdN k G) s from by rw [mdS, if_neg (by first | omega | (rintro (h | h) <;> first | omega | exact hq h.2))])
                  have hqb : ((s : Int) + 1 == ((bdN k G : Nat) : Int)) = false := by rw [beq_eq_false_iff_ne]; omega
                  clear hq
                  rw [← mwH_same hno.out] at HS4
                  clear hno
                  generalize mdS H T o 1 F k (bdN k G) s = X at *
                  generalize ptI H T F k (s + 1) = Y at *
                  go_wp2_with fail
                  exact ⟨⟨s + 1, by omega, by go_num, HS4, HB4⟩, by simp [intOf]; omega⟩
              · have hsi : ¬ (s : Int) + 1 ≤ ((bdN k G : Nat) : Int) := by omega
                have hNG : Hid (IRow wd wa.heap.size (.slice (some ⟨wa.heap.size, 0, none⟩) (G + 1) (G + 1)) (rowF G (mwG H T o 1 F G (k + 1)))) := by
                  rw [← hall.out, show bdN k G = s from by omega]
                  exact hS
                clear hS hs hsl
                go_wp2_with fail
                first
                | exact ⟨⟨k + 1, by omega, by go_num, hNG, hbS⟩, by simp [intOf]; omega⟩
                | exact ⟨⟨_, _, _, _, _, _, ⟨k + 1, by omega, by go_num, hNG⟩, rfl, rfl, rfl, rfl, rfl, by go_num⟩, by simp [intOf]; omega⟩
          · have hki : ¬ (k : Int) < (G : Int) + 1 := by omega
            have hNG : Hid (IRow wb (w.heap.size + 1) (.slice (some ⟨wa.heap.size, 0, none⟩) (G + 1) (G + 1)) (rowF G (wP H T 1 G (n - (r - 1))))) := by
              refine Lib.hid (IRow.mono (b := wa.heap.size) ?_ (by omega))
              rw [← hnx.out, show G + 1 = k from by omega]
              have := hN.out
              rw [show G + 1 = k from by omega] at this
              exact this
            have hb5 := Lib.hid (bel_trans hbl.out hbn.out)
            have hbx5 := Lib.hid (hbx.out.keep hbn.out)
            clear hN hk hkl hbn
            go_wp2_with fail
            exact ⟨⟨r - 1, by omega, by rw [hr1.out], hNG, hbx5, hb5⟩, by simp [intOf]; omega⟩

set_option maxRecDepth 100000 in
set_option maxHeartbeats 12800000 in
theorem skWithin2_any (H T o : Int) (G n : Nat) (w : World) (hc : coinG H o = true) (hT : o - H = T) (h1 : 1 ≤ G) (h16 : G ≤ 16) (hn : n ≤ 6) :
    Calls Try.prog 71 #[cn H o, .int .i64 G, .int .i64 n, .int .i64 2] w (RowOne (rowF G (wP H T 2 G n)) w) := by
  obtain ⟨r1, r2, r3, r4⟩ := coin_in hc
  have hH : 0 ≤ H ∧ 0 ≤ T ∧ H + T = o := by omega
  obtain ⟨hH, hT0, hHT⟩ := hH
  have hV := Lib.hid (wP_in (H := H) (T := T) 2 hH hT0 G)
  have hfin : Hid (n - 0 = n) := Lib.hid (by omega)
  have hmk := mk_row G h16
  have bx0 := Box2.new w (.int .i64 H) (.int .i64 o) 32
  have bl0 := bel_alloc (Below.refl _ w) (.cells #[.int .i64 H, .int .i64 o] 32)
  have hm0 := made_ints (w.alloc (.cells #[.int .i64 H, .int .i64 o] 32)) (G + 1) (by omega)
  rw [← rowF_zero, ← size1] at hm0
  obtain ⟨hs1, hs2⟩ := rowF_store hm0 G 1 (wP H T 2 G 0) (by unfold wP; rw [if_pos rfl]) (fun i _ hi => by unfold wP; rw [if_neg hi])
  obtain ⟨x0, x1⟩ := rowF_cell hm0 G (Nat.le_refl _)
  have heq : ((w.alloc (.cells #[.int .i64 H, .int .i64 o] 32)).alloc (.cells (Array.replicate (G + 1) (.int .i64 0)) 3)).setCell ⟨w.heap.size + 1, G, none⟩ (.int .i64 1) = (w.alloc (.cells #[.int .i64 H, .int .i64 o] 32)).alloc (.cells ((Array.replicate (G + 1) (.int .i64 0)).setIfInBounds G (.int .i64 1)) 3) := by
    rw [size1 w (.cells #[.int .i64 H, .int .i64 o] 32)]
    simp [go_sem]
  rw [heq] at hs1
  have Hs1 := Lib.hid hs1
  have hb1 := bel_alloc (Below.refl _ (w.alloc (.cells #[.int .i64 H, .int .i64 o] 32))) (.cells ((Array.replicate (G + 1) (.int .i64 0)).setIfInBounds G (.int .i64 1)) 3)
  have Hbx := Lib.hid (bx0.keep hb1)
  have Hbl := Lib.hid (bel_trans bl0 hb1)
  have hpg : (G : Int) < (G : Int) + 1 := by omega
  have hg0 : (0 : Int) ≤ (G : Int) + 1 := by omega
  have hgw : IntKind.i64.wrap ((G : Int) + 1) = (G : Int) + 1 := IntWalk.i64_in _ (by omega)
  clear hm0 hs1 hs2 heq hb1 bx0 bl0
  go_enter Try.func71, Try.ntmps71
  go_wp2_with fail
  generalize (Array.replicate (G + 1) (Value.int .i64 0)).setIfInBounds G (.int .i64 1) = A0 at *
  generalize (w.alloc (.cells #[.int .i64 H, .int .i64 o] 32)).alloc (.cells A0 3) = w1 at *
  clear x0 x1
  go_loopw [2, 9] (fun x v wr => ∃ r : Nat, r ≤ n ∧ x = .int .i64 r ∧ Hid (IRow wr (w.heap.size + 1) v (rowF G (wP H T 2 G (n - r)))) ∧ Hid (Box2 wr w.heap.size (.int .i64 H) (.int .i64 o)) ∧ Hid (Below w.heap.size w wr)) (fun x _ _ => (intOf x).toNat)
  case atStart => exact ⟨n, Nat.le_refl _, rfl, by rw [Nat.sub_self]; exact Hs1, Hbx, Hbl⟩
  case round =>
    obtain ⟨r, hr, rfl, hI, hbx, hbl⟩ := hrel
    obtain ⟨wa, rfl⟩ : ∃ wa : World, wa = wr := ⟨_, rfl⟩
    rcases hI.out.form with ⟨hx, _⟩ | ⟨hx, gv, cap, rfl, hbg, hgl, hlc, hcm⟩
    · have := rowF_len G (wP H T 2 G (n - r))
      rw [hx] at this; simp at this
    · by_cases h0 : r = 0
      · subst h0
        rw [hfin.out] at hI ⊢
        rw [rowF_len] at hlc ⊢
        have hI2 := Lib.hid (hI.out.mono (b' := w.heap.size) (by omega))
        rw [rowF_len] at hI2
        clear hx hI hlc hcm
        go_wp2_with fail
        go_ret
        exact ⟨_, rfl, hI2.out, hbl.out⟩
      · have hr0 : (0 : Int) < (r : Int) := by omega
        have hr1 : Hid (((r - 1 : Nat) : Int) = (r : Int) - 1) := Lib.hid (by omega)
        have hrn : IntKind.i64.wrap ((r : Int) - 1) = (r : Int) - 1 := IntWalk.i64_in _ (by omega)
        rw [rowF_len] at hlc hI ⊢
        unfold maxLen at hcm
        have h2 : (H + T) ^ (n - r) ≤ 1000000 := by
          rw [hHT]
          have hi6 : n - r ≤ 6 := by omega
          generalize n - r = i at *
          have a : o ^ i ≤ 10 ^ i := by
            have ho : ((o.toNat : Nat) : Int) = o := Int.toNat_of_nonneg (by omega)
            rw [← ho]
            have := Nat.pow_le_pow_left (show o.toNat ≤ 10 by omega) i
            have e2 : ((o.toNat ^ i : Nat) : Int) ≤ ((10 ^ i : Nat) : Int) := by omega
            simpa using e2
          have b : (10 : Int) ^ i ≤ 1000000 := by
            match i, hi6 with
            | 0, _ | 1, _ | 2, _ | 3, _ | 4, _ | 5, _ | 6, _ => decide
          omega
        have HF : Hid (∀ q, 0 ≤ wP H T 2 G (n - r) q ∧ wP H T 2 G (n - r) q ≤ 1000000) := Lib.hid (fun q => ⟨(hV.out _ q).1, Int.le_trans (hV.out _ q).2 h2⟩)
        have hnx : Hid (rowF G (mwG H T o 2 (wP H T 2 G (n - r)) G (G + 1)) = rowF G (wP H T 2 G (n - (r - 1)))) := Lib.hid (rowF_congr G (fun q hq => by
          have := md_step (H := H) (T := T) 2 G (n - r) q (by omega) hH hT0 hq
          rw [hHT] at this
          rw [show n - (r - 1) = (n - r) + 1 from by omega, ← this]
          unfold mwG
          rw [if_pos (by omega)]))
        clear h2 hx
        generalize wP H T 2 G (n - r) = F at *
        have hm1 := made_ints wa (G + 1) (by omega)
        rw [← rowF_zero] at hm1
        have Hm1 := Lib.hid hm1
        have hb2 := Lib.hid (bel_alloc (Below.refl _ wa) (.cells (Array.replicate (G + 1) (.int .i64 0)) 3))
        have hsz := hbl.out.size
        have hz0 := Lib.hid (mwG_zero H T o 2 F G)
        clear hm1
        obtain ⟨c0, c1, hk⟩ := hbx.out
        go_wp2_with fail
        clear c0 c1 hk
        go_loopw [31] (fun x wr => ∃ k : Nat, k ≤ G + 1 ∧ x = .int .i64 k ∧ Hid (IRow wr wa.heap.size (.slice (some ⟨wa.heap.size, 0, none⟩) (G + 1) (G + 1)) (rowF G (mwG H T o 2 F G k))) ∧ Hid (Below wa.heap.size wa wr)) (fun x _ => G + 1 - (intOf x).toNat)
        case atStart => exact ⟨0, by omega, rfl, by rw [hz0.out]; exact Hm1, hb2⟩
        case round =>
          obtain ⟨k, hk, rfl, hN, hbn⟩ := hrel
          obtain ⟨wb, rfl⟩ : ∃ wb : World, wb = wr := ⟨_, rfl⟩
          by_cases hkl : k < G + 1
          · have hki : (k : Int) < (G : Int) + 1 := by omega
            obtain ⟨c0, c1, c2⟩ := hbx.out.keep hbn.out
            obtain ⟨a0, a1⟩ := rowF_cell (hI.out.below hbn.out) k (by omega)
            obtain ⟨x0, x1⟩ := rowF_cell hN.out k (by omega)
            rw [mwG_at] at x0
            obtain ⟨f0, f1⟩ := HF.out k
            have m0 := Int.mul_nonneg f0 (show (0 : Int) ≤ o by omega)
            have m1 := Int.mul_le_mul f1 r4 (by omega) (by omega)
            have hwo : IntKind.i64.wrap (F k * o) = F k * o := IntWalk.i64_in _ (by omega)
            obtain ⟨hM1, hM2⟩ := rowF_store hN.out k (F k * o) (mwH H T o 2 F G k 0) (by rw [mwH_at]; rfl) (fun j _ hj => mwH_first H T o 2 F G k j hj)
            have HM1 := Lib.hid hM1
            have HM2 : Hid (Below wa.heap.size wa ((wb.setCell ⟨wa.heap.size, k, none⟩ (.int .i64 (F k * o))).drew)) := Lib.hid (hbn.out.setCell (Nat.le_refl _) _).drew
            clear hM1 hM2 a1 m0 m1 f0 f1
            go_wp2_with fail
            go_region
            have HM3 : Hid (IRow ((wb.setCell ⟨wa.heap.size, k, none⟩ (.int .i64 (F k * o))).drew) wa.heap.size (.slice (some ⟨wa.heap.size, 0, none⟩) (G + 1) (G + 1)) (rowF G (mwH H T o 2 F G k 0))) := Lib.hid (HM1.out.drewN 1)
            generalize (wb.setCell ⟨wa.heap.size, k, none⟩ (.int .i64 (F k * o))).drew = wc at *
            clear HM1 x0 x1 a0 c0 c1 c2 hN hbn hwo
            have hskb := Lib.hid (fun W => skBold_any (k : Int) (G : Int) W (sk_of (by omega) (by omega) (by omega) (by omega)))
            rw [(lo_td k G (by omega)).2] at hskb
            have hbd : Hid (bdN k G ≤ k ∧ k + bdN k G ≤ G) := Lib.hid (by unfold bdN; omega)
            have hall := Lib.hid (mwH_all H T o 2 F G k)
            go_wp2_with fail
            refine (hskb.out _).mono ?_
            rintro e w3 ⟨rfl, hb3⟩
            have HN3 := Lib.hid (HM3.out.below hb3)
            have HB3 := Lib.hid (HM2.out.trans (hb3.mono HM2.out.size))
            clear hb3 HM3 HM2 hskb
            go_wp2_with fail
            go_loopw [13] (fun x wr => ∃ s : Nat, s ≤ bdN k G ∧ x = .int .i64 ((s : Int) + 1) ∧ Hid (IRow wr wa.heap.size (.slice (some ⟨wa.heap.size, 0, none⟩) (G + 1) (G + 1)) (rowF G (mwH H T o 2 F G k s))) ∧ Hid (Below wa.heap.size wa wr)) (fun x _ => bdN k G + 1 - (intOf x).toNat)
            case atStart => exact ⟨0, by omega, rfl, HN3, HB3⟩
            case round =>
              obtain ⟨s, hs, rfl, hS, hbS⟩ := hrel
              obtain ⟨wd, rfl⟩ : ∃ wd : World, wd = wr := ⟨_, rfl⟩
              by_cases hsl : s < bdN k G
              · have hsi : (s : Int) + 1 ≤ ((bdN k G : Nat) : Int) := by omega
                obtain ⟨hd1, hd2⟩ := hbd.out
                have hpart := Lib.hid (fun W hW => skPart_any H T o F k (s + 1) G gv cap (w.heap.size + 1) W hc hT (by omega) (by omega) h16 HF.out hW (by omega) (by omega))
                rw [show ((s + 1 : Nat) : Int) = (s : Int) + 1 from by omega] at hpart
                have hpi := (ptI_in (B := 1000000) hH hT0 HF.out k (s + 1))
                rw [hHT] at hpi
                obtain ⟨c0, c1, c2⟩ := hbx.out.keep hbS.out
                have hIr := Lib.hid (hI.out.below hbS.out)
                go_wp2_with fail
                refine (hpart.out _ hIr.out).mono ?_
                rintro e w4 ⟨rfl, hb4⟩
                have HS4 := Lib.hid (hS.out.below hb4)
                have HB4 := Lib.hid (hbS.out.trans (hb4.mono hbS.out.size))
                obtain ⟨x0, x1⟩ := rowF_cell HS4.out k (by omega)
                rw [mwH_at] at x0
                clear hb4 c0 c1 c2 hIr hpart hpi
                by_cases hq : mdS H T o 2 F k (bdN k G) s < ptI H T F k (s + 1)
                · have hyes := Lib.hid (show mdS H T o 2 F k (bdN k G) (s + 1) = ptI H T F k (s + 1) from by rw [mdS, if_pos (.inr ⟨rfl, hq⟩)])
                  obtain ⟨hM1, hM2⟩ := rowF_store HS4.out k (ptI H T F k (s + 1)) (mwH H T o 2 F G k (s + 1)) (by rw [mwH_at, hyes.out]) (fun j _ hj => mwH_old H T o 2 F G k _ _ j hj)
                  have HM1 := Lib.hid hM1
                  have HM2 : Hid (Below wa.heap.size wa (w4.setCell ⟨wa.heap.size, k, none⟩ (.int .i64 (ptI H T F k (s + 1))))) := Lib.hid (HB4.out.setCell (Nat.le_refl _) _)
                  clear hM1 hM2 hyes
                  generalize mdS H T o 2 F k (bdN k G) s = X at *
                  generalize ptI H T F k (s + 1) = Y at *
                  go_wp2_with fail
                  exact ⟨⟨s + 1, by omega, by go_num, HM1, HM2⟩, by simp [intOf]; omega⟩
                · have hno := Lib.hid (show mdS H T o 2 F k (bdN k G) (s + 1) = mdS H T o 2 F k (bdN k G) s from by rw [mdS, if_neg (by first | omega | (rintro (h | h) <;> first | omega | exact hq h.2))])
                  rw [← mwH_same hno.out] at HS4
                  clear hno
                  generalize mdS H T o 2 F k (bdN k G) s = X at *
                  generalize ptI H T F k (s + 1) = Y at *
                  go_wp2_with fail
                  exact ⟨⟨s + 1, by omega, by go_num, HS4, HB4⟩, by simp [intOf]; omega⟩
              · have hsi : ¬ (s : Int) + 1 ≤ ((bdN k G : Nat) : Int) := by omega
                have hNG : Hid (IRow wd wa.heap.size (.slice (some ⟨wa.heap.size, 0, none⟩) (G + 1) (G + 1)) (rowF G (mwG H T o 2 F G (k + 1)))) := by
                  rw [← hall.out, show bdN k G = s from by omega]
                  exact hS
                clear hS hs hsl
                go_wp2_with fail
                first
                | exact ⟨⟨k + 1, by omega, by go_num, hNG, hbS⟩, by simp [intOf]; omega⟩
                | exact ⟨⟨_, _, _, _, _, _, ⟨k + 1, by omega, by go_num, hNG⟩, rfl, rfl, rfl, rfl, rfl, by go_num⟩, by simp [intOf]; omega⟩
          · have hki : ¬ (k : Int) < (G : Int) + 1 := by omega
            have hNG : Hid (IRow wb (w.heap.size + 1) (.slice (some ⟨wa.heap.size, 0, none⟩) (G + 1) (G + 1)) (rowF G (wP H T 2 G (n - (r - 1))))) := by
              refine Lib.hid (IRow.mono (b := wa.heap.size) ?_ (by omega))
              rw [← hnx.out, show G + 1 = k from by omega]
              have := hN.out
              rw [show G + 1 = k from by omega] at this
              exact this
            have hb5 := Lib.hid (bel_trans hbl.out hbn.out)
            have hbx5 := Lib.hid (hbx.out.keep hbn.out)
            clear hN hk hkl hbn
            go_wp2_with fail
            exact ⟨⟨r - 1, by omega, by rw [hr1.out], hNG, hbx5, hb5⟩, by simp [intOf]; omega⟩

end Go.Proofs.Ytfogipdhipipfaa
