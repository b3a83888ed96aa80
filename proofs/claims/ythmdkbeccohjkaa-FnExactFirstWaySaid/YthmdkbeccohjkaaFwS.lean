/- FirstWay: the model's contract. -/
import Derived.Test.YthmdkbeccohjkaaFwP
import Derived.Test.YthmdkbeccohjkaaRchd
namespace Go.Proofs.Ythmdkbeccohjkaa
set_option linter.unusedSimpArgs false
open Go.ChangeShapes Go.WideShapes Go.ChangeAt Go.RowKit
set_option linter.unusedVariables false

def okFW (lim : Int) (m : List (List Int)) (f t : Int) : Bool := ask2 lim m f t && thr (edgeB m) m.length f.toNat t.toNat
noncomputable def ansFW (lim : Int) (m : List (List Int)) (f t : Int) : List Int := if okFW lim m f t then ints (Classical.epsilon fun w => IsFW (edgeB m) f.toNat t.toNat w) else []
theorem ansFW_of {lim : Int} {m : List (List Int)} {f t : Nat} {ws : List Nat} (hg : Good lim m) (hf : f < m.length) (h : okFW lim m f t = true) (hw : IsFW (edgeB m) f t ws) : ansFW lim m f t = ints ws := by
  unfold ansFW
  rw [if_pos h]
  have he := Classical.epsilon_spec (p := fun w => IsFW (edgeB m) f t w) ⟨ws, hw⟩
  exact congrArg ints (IsFW.uniq (fun i j he => (edge_in hg he).2) hg.five hf he hw)
theorem way5 {lim : Int} {m : List (List Int)} (hg : Good lim m) {f : Nat} (hf : f < m.length) : ∀ P x, IsWay (edgeB m) f P x → ∀ y ∈ P, y < 5 := fun P x h y hy => Nat.lt_of_lt_of_le (h.lt (fun i j he => (edge_in hg he).2) hf y hy) hg.five
theorem wlen5 {lim : Int} {m : List (List Int)} (hg : Good lim m) {f L l a : Nat} {t : Nat} {ws : List Nat} (h : GrInv (edgeB m) f t L l ws a) (hL : L ≤ 5) : (ints ws).length ≤ 1000000 := by
  have := h.len
  rw [ints_len]; omega

set_option maxRecDepth 100000 in
set_option maxHeartbeats 6400000 in
theorem specFW_any (lim : Int) (m : List (List Int)) (v : Value) (B : Nat) (f t : Int) (w : World) (h : RdM w B v m) (hB : B ≤ w.heap.size) :
    Calls Try.prog 5 #[sts lim v, .int .i64 f, .int .i64 t] w (RowAns (ansFW lim m f t) (okFW lim m f t) w) := by
  obtain ⟨A, cap, rfl, l0, m0⟩ := h.form
  unfold maxLen at m0
  have hbl := bel_alloc (Below.refl _ w) (.cells #[.int .i64 lim, .slice A m.length cap] 29)
  have H := Lib.hid (h.below hbl hB)
  have hBs := Nat.le_trans hB hbl.size
  have bx := Lib.hid (Box2.new w (.int .i64 lim) (.slice A m.length cap) 29)
  clear h
  cases h1 : ask2 lim m f t with
  | false =>
    have h2 : okFW lim m f t = false := by simp [okFW, h1]
    rw [show ansFW lim m f t = [] from by simp [ansFW, h2], h2]
    have H1 := Lib.hid h1
    clear h1 h2
    go_enter Try.func5, Try.ntmps5
    go_wp2_with fail
    refine (saAsked_any lim m _ _ f t _ H.out hBs).mono ?_
    rw [H1.out]
    rintro e w1 ⟨rfl, b1⟩
    go_wp2_with fail
    go_ret2
    exact ⟨_, rfl, IRow.nil _ _, bel_trans hbl b1⟩
  | true =>
    obtain ⟨hg, i, j, rfl, rfl, hi, hj⟩ := ask2_good h1
    have HH := Lib.hid (fun (ws : List Nat) (h : okFW lim m i j = true) (q : IsFW (edgeB m) i j ws) => ansFW_of hg hi h q)
    have hok : okFW lim m i j = thr (edgeB m) m.length i j := by simp [okFW, h1]
    have H1 := Lib.hid h1
    have n5 := hg.five
    have HG := Lib.hid hg
    have hij : (j : Int) < (m.length : Int) := by omega
    obtain ⟨a0, _, _, rfl, _⟩ := H.out.at_ (k := 0) hg.one
    rw [hok] at HH ⊢
    clear h1 hg
    cases h2 : thr (edgeB m) m.length i j with
    | false =>
      rw [show ansFW lim m i j = [] from by simp [ansFW, hok, h2]]
      clear hok HH
      have H2 := Lib.hid h2
      clear h2
      go_enter Try.func5, Try.ntmps5
      go_wp2_with fail
      refine (saAsked_any lim m _ _ i j _ H.out hBs).mono ?_
      rw [H1.out]
      rintro e w1 ⟨rfl, b1⟩
      obtain ⟨c0, c1, c2⟩ := bx.out.keep b1
      go_wp2_with fail
      refine (saFar_any lim m _ _ i _ (H.out.below b1 hBs) (Nat.le_trans hBs b1.size) HG.out hi).mono ?_
      rintro e w2 ⟨u, far, rfl, hr, hfar, b2⟩
      have hrd := hr.rd
      obtain ⟨A2, cap2, rfl, l2, m2⟩ := hrd.form
      obtain ⟨ad, rfl, _, e0⟩ := hrd.at_ (k := j) (by rw [hfar.1]; exact hj)
      have hd := (hfar.2 j hj).2
      rw [H2.out] at hd
      have hd2 : far.getD j 0 < 0 := by simpa using hd
      rw [hfar.1] at l2 ⊢
      generalize far.getD j 0 = y at *
      clear hd hrd hr hfar
      have b3 := bel_trans (bel_trans hbl b1) b2
      go_wp2_with fail
      go_ret2
      exact ⟨_, rfl, IRow.nil _ _, b3⟩
    | true =>
      have HW := Lib.hid (fun ws q => HH.out ws h2 q)
      clear HH hok
      have H2 := Lib.hid h2
      clear h2
      generalize ansFW lim m i j = ans at *
      go_enter Try.func5, Try.ntmps5
      go_wp2_with fail
      refine (saAsked_any lim m _ _ i j _ H.out hBs).mono ?_
      rw [H1.out]
      rintro e w1 ⟨rfl, b1⟩
      obtain ⟨c0, c1, c2⟩ := bx.out.keep b1
      go_wp2_with fail
      refine (saFarW_any lim m _ _ i _ (H.out.below b1 hBs) (Nat.le_trans hBs b1.size) HG.out hi).mono ?_
      rintro e w2 ⟨u, far, rfl, hr, hfar, b2⟩
      have hrd := hr.rd
      obtain ⟨A2, cap2, rfl, l2, m2⟩ := hrd.form
      obtain ⟨ad, rfl, _, e0⟩ := hrd.at_ (k := j) (by rw [hfar.1.1]; exact hj)
      have hd := (hfar.1.2 j hj).2
      have hle := (hfar.1.2 j hj).1.2
      have hds := Lib.hid (far_dst HG.out hfar.1 hfar.2 hj)
      rw [H2.out] at hd
      have hd2 : 0 ≤ far.getD j 0 := by simpa using hd
      rw [hfar.1.1] at l2 ⊢
      generalize far.getD j 0 = y at *
      obtain ⟨L, hL⟩ : ∃ L : Nat, y = (L : Int) := ⟨y.toNat, by omega⟩
      have HL := Lib.hid hL
      have hL5 : L ≤ 5 := by omega
      rw [hL] at hds
      clear hd hrd hr hfar hL
      have b3 := bel_trans (bel_trans hbl b1) b2
      obtain ⟨Bz, hBz⟩ : ∃ n, n = w2.heap.size := ⟨_, rfl⟩
      have hbz : w.heap.size ≤ Bz := by rw [hBz]; exact b3.size
      have HI0 := Lib.hid (IRow.lit1 w2 i)
      rw [← hBz] at HI0
      obtain ⟨c3, c4, c5⟩ := bx.out.keep (bel_trans b1 b2)
      have HBz := Lib.hid hBz
      have hw0z : (w.alloc (.cells #[.int .i64 lim, .slice (some a0) m.length cap] 29)).heap.size ≤ Bz := by rw [hBz]; exact (bel_trans b1 b2).size
      have HW0 := Lib.hid hw0z
      clear hw0z
      clear c0 c1 c2 hBz
      go_wp2_with fail
      have b4 := bel_alloc (bel_trans b1 b2) (.cells #[.int .i64 (i : Int)] 3)
      refine (saFarW_any lim m _ _ i _ (H.out.below b4 hBs) (Nat.le_trans hBs b4.size) HG.out hi).mono ?_
      rintro e w3 ⟨u3, far3, rfl, hr3, hfar3, b5⟩
      have HI1 := Lib.hid (HI0.out.below b5)
      have hrd3 := hr3.rd
      obtain ⟨A3, cap3, rfl, l3, m3⟩ := hrd3.form
      obtain ⟨ad3, rfl, _, e3⟩ := hrd3.at_ (k := j) (by rw [hfar3.1.1]; exact hj)
      have hy := hds.out.uniq (far_dst HG.out hfar3.1 hfar3.2 hj)
      rw [← hy] at e3
      rw [hfar3.1.1] at l3 ⊢
      have hb6 := bel_trans b4 b5
      clear hrd3 hr3 hfar3 hy e0 c3 c4 c5
      go_wp2_with fail
      have hgr := Lib.hid (GrInv.start hds.out)
      have HP5 := Lib.hid (way5 HG.out hi)
      go_loopw [8, 9, 10] (fun u x y wr => ∃ (ws : List Nat) (a l : Nat), l ≤ 5 ∧ x = .int .i64 a ∧ y = .int .i64 l ∧ Hid (a < m.length) ∧ Hid (IRow wr Bz u (ints ws)) ∧ Hid (GrInv (edgeB m) i j L l ws a) ∧ Below (w.alloc (.cells #[.int .i64 lim, .slice (some a0) m.length cap] 29)).heap.size (w.alloc (.cells #[.int .i64 lim, .slice (some a0) m.length cap] 29)) wr ∧ Bz ≤ wr.heap.size) (fun _ _ y _ => (intOf y).toNat)
      case atStart => exact ⟨[i], i, L, hL5, rfl, rfl, hi, by rw [HBz.out] at HI1 ⊢; exact HI1, hgr, hb6, by have hs3 := b5.size; rw [← size1, ← HBz.out] at hs3; omega⟩
      case round =>
        obtain ⟨ws, a, l, hl5, rfl, rfl, hal, hI, hG, hb, hsz⟩ := hrel
        obtain ⟨wa, rfl⟩ : ∃ wa : World, wa = wr := ⟨_, rfl⟩
        obtain ⟨A7, cap7, rfl, c7, d7⟩ := hI.out.rd.form
        generalize hK : (ints ws).length = K at hI c7 d7 ⊢
        have HK := Lib.hid hK
        clear hK
        by_cases hlt : 0 < l
        · obtain ⟨l, rfl⟩ : ∃ k, l = k + 1 := ⟨l - 1, by omega⟩
          have hdown := hG.out.dst.down (by omega)
          rw [show (((l + 1 : Nat) : Int) - 1) = (l : Int) from by omega] at hdown
          have HD := Lib.hid hdown
          obtain ⟨z, hz⟩ : ∃ z : Int, z = ((l + 1 : Nat) : Int) := ⟨_, rfl⟩
          rw [← hz]
          have z0 : 0 < z := by omega
          have z5 : z ≤ 5 := by omega
          have Hz := Lib.hid (show z = (l : Int) + 1 by omega)
          obtain ⟨ae, A', cap', ea, _, e1, r0, hl0, hm0⟩ := (H.out.below hb hBs).at_ (k := a) hal.out
          injection ea with ea
          subst ea
          have hrow := HG.out.row a hal.out
          have R0 := Lib.hid (RdI.keep (w' := (w.alloc (.cells #[.int .i64 lim, .slice (some a0) m.length cap] 29))) r0 fun p hp => (hb.cell (Nat.lt_of_lt_of_le hp hBs)).symm)
          have hat := Lib.hid (fun j => show (m.getD a []).getD j 0 = atM m a j from rfl)
          rw [hrow] at e1 hl0 R0
          have hrl := Lib.hid hrow
          generalize m.getD a [] = xs at *
          obtain ⟨d0, d1, d2⟩ := bx.out.keep hb
          have ha3 : (a : Int) < (m.length : Int) := by have := hal.out; omega
          clear hlt hdown hz r0 hrow
          go_wp2_with fail
          go_loopw [46] (fun x wr => ∃ k : Nat, k ≤ m.length ∧ x = .int .i64 k ∧ Hid (IRow wr Bz (.slice A7 K cap7) (ints ws)) ∧ Hid (∀ x, x < k → ¬ (edgeB m a x = true ∧ IsDst (edgeB m) x j l)) ∧ Below (w.alloc (.cells #[.int .i64 lim, .slice (some a0) m.length cap] 29)).heap.size (w.alloc (.cells #[.int .i64 lim, .slice (some a0) m.length cap] 29)) wr ∧ Bz ≤ wr.heap.size) (fun x _ => m.length - (intOf x).toNat)
          case atStart => exact ⟨0, by omega, rfl, hI, Lib.hid (fun x hx => by omega), hb, hsz⟩
          case round =>
            clear hI hb hsz e1 d0 d1 d2
            obtain ⟨k, hk, rfl, hI, hno, hb, hsz⟩ := hrel
            obtain ⟨wb, rfl⟩ : ∃ wb : World, wb = wr := ⟨_, rfl⟩
            by_cases hlt : k < m.length
            · have r1 := R0.out.below hb hBs
              rw [← hrl.out] at r1
              obtain ⟨af, rfl, _, e2⟩ := r1.at_ (k := k) (by rw [hrl.out]; exact hlt)
              rw [hat.out] at e2
              obtain ⟨d0, d1, d2⟩ := bx.out.keep hb
              have hkm : (k : Int) < (m.length : Int) := by omega
              clear r1
              by_cases hz : 0 < atM m a k
              · have he : edgeB m a k = true := by unfold edgeB; simpa using hz
                have HE := Lib.hid he
                clear he
                generalize atM m a k = q at *
                go_wp2_with fail
                refine (saFarW_any lim m _ _ k _ (H.out.below hb hBs) (Nat.le_trans hBs hb.size) HG.out hlt).mono ?_
                rintro e w5 ⟨u5, far5, rfl, hr5, hfar5, b7⟩
                have HI5 := Lib.hid (hI.out.below b7)
                have hrd5 := hr5.rd
                obtain ⟨A5, cap5, rfl, l5, m5⟩ := hrd5.form
                obtain ⟨ad5, rfl, _, e5⟩ := hrd5.at_ (k := j) (by rw [hfar5.1.1]; exact hj)
                have hds5 := Lib.hid (far_dst HG.out hfar5.1 hfar5.2 hj)
                have hb5 := (hfar5.1.2 j hj).1
                rw [hfar5.1.1] at l5 ⊢
                generalize far5.getD j 0 = y5 at *
                obtain ⟨hb5a, hb5b⟩ := hb5
                have hb8 := bel_trans hb b7
                have hsz8 : Bz ≤ w5.heap.size := Nat.le_trans hsz b7.size
                clear hrd5 hr5 hfar5 d0 d1 d2 e2 hI
                by_cases hq : y5 = z - 1
                · have hyl : y5 = (l : Int) := by have := Hz.out; omega
                  have ht := hds5.out
                  rw [hyl] at ht
                  have hst := Lib.hid (hG.out.step HE.out ht (HP5.out ws a hG.out.way) (by omega) HP5.out hno.out)
                  have hwl : (ints ws).length ≤ 1000000 := wlen5 HG.out hG.out hL5
                  have hpu := Lib.hid (ints_push ws k)
                  have hq1 : (y5 == z - 1) = true := by simpa using hq
                  have Hzl := Lib.hid (show z - 1 = (l : Int) by have := Hz.out; omega)
                  clear ht hyl hq
                  go_wp2_with (at_builtin; refine wpList_push1 rfl (.tmp 66) (.tmp 68) rfl _ _ _ HI5.out hwl hsz8 (k : Int) rfl rfl ?_)
                  intro v' w6 hI6 hb9
                  have HI6 := Lib.hid hI6
                  clear hI6
                  go_wp2_with fail
                  rw [Hzl.out]
                  exact ⟨⟨ws ++ [k], k, l, by omega, rfl, rfl, hlt, by rw [← hpu.out]; exact HI6, hst, hb8.trans (hb9.mono HW0.out), Nat.le_trans hsz8 hb9.size⟩, by have hz9 := Hz.out; simp [intOf]; omega⟩
                · have hno2 : Hid (∀ x, x < k + 1 → ¬ (edgeB m a x = true ∧ IsDst (edgeB m) x j l)) := Lib.hid fun x hx hc => by
                    rcases Nat.lt_or_ge x k with q | q
                    · exact hno.out x q hc
                    · obtain rfl : x = k := by omega
                      have := hds5.out.uniq hc.2
                      have := Hz.out
                      omega
                  have hq1 : (y5 == z - 1) = false := by simpa using hq
                  clear hq
                  go_wp2_with fail
                  exact ⟨⟨k + 1, by omega, by go_num, HI5, hno2, hb8, hsz8⟩, by simp [intOf]; omega⟩
              · have hno2 : Hid (∀ x, x < k + 1 → ¬ (edgeB m a x = true ∧ IsDst (edgeB m) x j l)) := Lib.hid fun x hx hc => by
                  rcases Nat.lt_or_ge x k with q | q
                  · exact hno.out x q hc
                  · obtain rfl : x = k := by omega
                    have := hc.1
                    unfold edgeB at this
                    exact hz (by simpa using this)
                generalize atM m a k = q at *
                have hz2 : decide (0 < q) = false := by simpa using hz
                go_wp2_with fail
                exact ⟨⟨k + 1, by omega, by go_num, hI, hno2, hb, hsz⟩, by simp [intOf]; omega⟩
            · exfalso
              obtain ⟨x, hx1, hx2⟩ := HD.out
              exact hno.out x (Nat.lt_of_lt_of_le (edge_in HG.out hx1).2 (by omega)) ⟨hx1, hx2⟩
        · obtain rfl : l = 0 := by omega
          have HF := hG.out.over HP5.out
          have hans := HW.out ws HF
          have HA := Lib.hid hans
          clear hans HF hlt
          go_wp2_with fail
          go_ret2
          exact ⟨_, rfl, by rw [HA.out]; exact hI.out.mono hbz, bel_trans hbl hb⟩
