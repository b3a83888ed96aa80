/- MeanKeeping: the contract of the model, and the walk. -/
import Derived.Test.YtnpghbbmhehnlaaMkS
import Derived.Test.YtnpghbbmhehnlaaMkI
namespace Go.Proofs.Ytnpghbbmhehnlaa
open Go.ChangeShapes Go.WideShapes Go.ChangeAt Go.RowKit
set_option linter.unusedVariables false

theorem quiet_more {P : Program} {f : FuncId} {args : Array Value} {w : World} {a b : Nat} {v : Value}
    (h : Calls P f args (w.drewN (a + b)) fun e w' => e = .returned v ∧ ∃ m, w' = (w.drewN (a + b)).drewN m) :
    Calls P f args (w.drewN (a + b)) fun e w'' => e = .returned v ∧ ∃ m, w'' = w.drewN (a + m) :=
  h.mono fun _ _ ⟨he, m, hm⟩ => ⟨he, b + m, by rw [hm, World.drewN_drewN, Nat.add_assoc]⟩
theorem rowN_form0 {w : World} {b i : Nat} {v : Value} {f : Nat → Nat} (h : IRow w b v (rowN f i)) (hi : i = 0) : ∃ A cap, v = .slice A 0 cap := by
  rcases h.form with ⟨_, h⟩ | ⟨h, _⟩
  · exact h
  · rw [rowN_len] at h; omega
theorem rowN_cell {w : World} {b g cap i : Nat} {f : Nat → Nat} (h : IRow w b (.slice (some ⟨g, 0, none⟩) i cap) (rowN f i)) (k : Nat) (hk : k < i) : w.cell? ⟨g, k, none⟩ = some (.int .i64 (f k)) := by
  have h' : IRow w b (.slice (some ⟨g, 0, none⟩) (rowN f i).length cap) (rowN f i) := by rw [rowN_len]; exact h
  rw [IRow.at_ h' k (by rw [rowN_len]; exact hk), rowN_at _ _ _ hk]
theorem rowN_form {w : World} {b i : Nat} {v : Value} {f : Nat → Nat} (h : IRow w b v (rowN f i)) (hi : 0 < i) : ∃ g cap, v = .slice (some ⟨g, 0, none⟩) i cap ∧ i ≤ cap ∧ cap ≤ maxLen := by
  have e := rowN_len f i
  rcases h.form with ⟨hx, _⟩ | ⟨_, g, cap, rfl, _, _, h1, h2⟩
  · rw [hx] at e; simp at e; omega
  · rw [e] at h1 ⊢; exact ⟨g, cap, rfl, h1, h2⟩
set_option maxRecDepth 100000 in
set_option maxHeartbeats 800000 in
theorem specMK_any (s : Int) (w : World) :
    Calls Try.prog 17 #[.int .i64 s] w fun e w' => e = .returned (ansMK s) ∧ Below w.heap.size w w' := by
  cases h1 : inB s 1 12
  · rw [show ansMK s = failV from by unfold ansMK; rw [h1]; rfl]
    unfold failV
    go_enter Try.func17, Try.ntmps17
    go_wp2_with fail
    refine (frSides_any s _).mono ?_
    rintro e w1 ⟨rfl, rfl⟩
    rw [h1]
    go_wp2_with fail
    go_ret3
    exact ⟨rfl, Below.refl _ _⟩
  · rw [show ansMK s = lowV (kN s.toNat) (kD s.toNat) from by unfold ansMK; rw [h1]; rfl]
    unfold lowV
    obtain ⟨s0, s1⟩ := (inB_iff _ _ _).1 h1
    by_cases hs1 : s = 1
    · subst hs1
      rw [show low (kN (1 : Int).toNat) (kN (1 : Int).toNat) (kD (1 : Int).toNat) = 0 from by decide, show low (kD (1 : Int).toNat) (kN (1 : Int).toNat) (kD (1 : Int).toNat) = 1 from by decide]
      go_enter Try.func17, Try.ntmps17
      go_wp2_with fail
      refine (frSides_any _ _).mono ?_
      rintro e w1 ⟨rfl, rfl⟩
      rw [h1]
      go_wp2_with fail
      go_ret3
      exact ⟨rfl, Below.refl _ _⟩
    · obtain ⟨n, rfl⟩ := Int.eq_ofNat_of_zero_le (show 0 ≤ s by omega)
      rw [Int.toNat_natCast]
      have hn1 : 1 ≤ n := by omega
      have hn2 : n ≤ 12 := by omega
      have hn3 : 2 ≤ n := by omega
      have hd1 : ((n : Int) == 1) = false := by simpa using hs1
      have l0 : lf n 0 = 1 := by unfold lf; rw [Nat.pow_zero]; exact Nat.mod_eq_of_lt (by omega)
      have L0 := Lib.hid l0
      clear l0 hs1
      go_enter Try.func17, Try.ntmps17
      go_wp2_with fail
      refine (frSides_any _ _).mono ?_
      rintro e w1 ⟨rfl, rfl⟩
      rw [h1]
      go_wp2_with fail
      go_loopw [5, 6, 7, 8, 9, 10] (fun m p x a b c wr => ∃ i : Nat, i ≤ stI n ∧ Hid (lf n i ≠ 0) ∧ m = .int .i64 (lf n i) ∧ p = .int .i64 (tx i) ∧ x = .int .i64 (rd n i) ∧ Hid (I3 wr w.heap.size a (rowN (lf n) i) b (rowN (rd n) i) c (rowN tx i)) ∧ Below w.heap.size w wr) (fun _ p _ _ _ _ _ => 5000 - (intOf p).toNat)
      case atStart => exact ⟨0, Nat.zero_le _, Lib.hid (by rw [L0.out]; omega), by rw [L0.out]; rfl, rfl, rfl, Lib.hid (I3.nil _ _), Below.refl _ _⟩
      case round =>
        obtain ⟨i, hi, hnz, rfl, rfl, rfl, hR, hb⟩ := hrel
        obtain ⟨_, il⟩ := st_lt n hn2 hn1
        have hi10 : i ≤ 10 := by omega
        obtain ⟨t0, t1⟩ := tx_le i (by omega)
        have r0 := rd_le n i hn2 (by omega)
        have ll := lf_lt n i hn1
        have rl := rowN_len (lf n) i
        by_cases hi0 : i = 0
        · obtain ⟨A, cap, rfl⟩ := rowN_form0 hR.out.1 hi0
          have hne : Hid (∀ j, j < i → lf n j ≠ lf n i) := Lib.hid fun j hj => by omega
          have Hi0 := Lib.hid hi0
          clear hi0
          go_wp2_with fail
          go_loop [30] (fun v => v = .int .i64 0) (fun _ => 0)
          case atStart => rfl
          case round =>
            obtain rfl := hrel
            have hil : i < stI n := by
              rcases Nat.lt_or_ge i (stI n) with q | q
              · exact q
              · have hiS : i = stI n := by omega
                exact absurd (by rw [hiS]; exact (st_eq n hn2 hn1).symm) (hne.out (stJ n) (by have := (st_lt n hn2 hn1).1; omega))
            have hi3 : i + 1 ≤ stI n := hil
            have sL := Lib.hid (lf_succ n i)
            have sT := Lib.hid (tx_succ i)
            have sR : Hid (rd n (i + 1) = 2 * (rd n i + lf n i)) := rfl
            have lL : (rowN (lf n) i).length ≤ 1000000 := by rw [rowN_len]; omega
            have lR : (rowN (rd n) i).length ≤ 1000000 := by rw [rowN_len]; omega
            have lT : (rowN tx i).length ≤ 1000000 := by rw [rowN_len]; omega
            have hsa := Lib.hid hb.size
            have hnk : ¬ ((i : Int) < (i : Int)) := by omega
            have hE : ∀ (A : World) (x y z : Value), I3 A w.heap.size z (rowN tx i ++ [(tx i : Int)]) x (rowN (lf n) i ++ [(lf n i : Int)]) y (rowN (rd n) i ++ [(rd n i : Int)]) → I3 A w.heap.size x (rowN (lf n) (i + 1)) y (rowN (rd n) (i + 1)) z (rowN tx (i + 1)) := fun _ _ _ _ h => by rw [rowN_succ, rowN_succ, rowN_succ]; exact h.rot
            have HE := Lib.hid hE
            clear hE hil
            have M1 : ∀ (x : Int), x = (tx (i + 1) : Int) → 5000 - (intOf (.int .i64 x)).toNat < 5000 - (intOf (.int .i64 (tx i : Int))).toNat := fun x hx => by rw [hx]; exact meas_lt (by rw [sT.out]; omega) (by rw [sT.out]; omega)
            have HM := Lib.hid M1
            clear M1
            go_wp2_with (at_builtin; refine wpList_pushI rfl (.tmp 105) (.tmp 107) rfl w.heap.size _ _ _ _ _ _ hR.out lL hsa.out (lf n i) rfl rfl ?_)
            intro v1 w1 hR1 hb1
            have hs1 := Lib.hid (Nat.le_trans hsa.out hb1.size)
            go_wp2_with (at_builtin; refine wpList_pushI rfl (.tmp 109) (.tmp 111) rfl w.heap.size _ _ _ _ _ _ hR1.rot lR hs1.out (rd n i) rfl rfl ?_)
            intro v2 w2 hR2 hb2
            have hs2 := Lib.hid (Nat.le_trans hs1.out hb2.size)
            go_wp2_with (at_builtin; refine wpList_pushI rfl (.tmp 113) (.tmp 115) rfl w.heap.size _ _ _ _ _ _ hR2.rot lT hs2.out (tx i) rfl rfl ?_)
            intro v3 w3 hRz hb3
            have hbz := ((hb.trans hb1).trans hb2).trans hb3
            by_cases hge : n ≤ 2 * lf n i
            · have g1 : (n : Int) ≤ (lf n i : Int) * 2 := by omega
              by_cases hz : 2 * lf n i = n
              · have g2 : ((lf n i : Int) * 2 - (n : Int) == 0) = true := by simp; omega
                have hl0 : lf n (i + 1) = 0 := by rw [sL.out, hz, Nat.mod_self]
                have Z := Lib.hid (mk_zero n i hn2 hn3 hi3 hnz.out hl0)
                have N1 : (2 * (rd n i : Int) + 2 * (lf n i : Int)) = (rd n (i + 1) : Int) := by rw [sR.out]; omega
                have T1 : (tx i : Int) * 2 = (tx (i + 1) : Int) := by rw [sT.out]; omega
                have HN := Lib.hid N1
                have HT := Lib.hid T1
                clear N1 T1 hl0 hz
                go_wp2_with fail
                refine (cnLow_any (2 * (rd n i : Int) + 2 * (lf n i : Int)) ((tx i : Int) * 2) _ (by omega) (by omega) (by omega) (by omega)).mono ?_
                rintro e w5 ⟨rfl, n5, rfl⟩
                go_wp2_with fail
                go_ret3
                exact ⟨by rw [HN.out, HT.out, Z.out.1, Z.out.2]; rfl, bel_drewN hbz n5⟩
              · have g2 : ((lf n i : Int) * 2 - (n : Int) == 0) = false := by simp; omega
                have g3 : (lf n i : Int) * 2 - (n : Int) = (lf n (i + 1) : Int) := by
                  have e : 2 * lf n i % n = 2 * lf n i - n := by rw [Nat.mod_eq_sub_mod hge, Nat.mod_eq_of_lt (by omega)]
                  rw [sL.out, e]; omega
                have G3 := Lib.hid g3
                have nz : Hid (lf n (i + 1) ≠ 0) := Lib.hid (by omega)
                clear g3 hz
                go_wp2_with fail
                exact ⟨⟨i + 1, hi3, nz, by rw [G3.out], by rw [sT.out]; congr 1; omega, by rw [sR.out]; congr 1; omega, Lib.hid (HE.out _ _ _ _ hRz), hbz⟩, HM.out _ (by rw [sT.out]; omega)⟩
            · have g1 : ¬ ((n : Int) ≤ (lf n i : Int) * 2) := by omega
              have g2 : ((lf n i : Int) * 2 == 0) = false := by have := hnz.out; simp; omega
              have g3 : (lf n i : Int) * 2 = (lf n (i + 1) : Int) := by
                have e : 2 * lf n i % n = 2 * lf n i := Nat.mod_eq_of_lt (by omega)
                rw [sL.out, e]; omega
              have G3 := Lib.hid g3
              have nz : Hid (lf n (i + 1) ≠ 0) := Lib.hid (by have := hnz.out; omega)
              clear g3
              go_wp2_with fail
              exact ⟨⟨i + 1, hi3, nz, by rw [G3.out], by rw [sT.out]; congr 1; omega, by rw [sR.out]; congr 1; omega, Lib.hid (HE.out _ _ _ _ hRz), hbz⟩, HM.out _ (by rw [sT.out]; omega)⟩
        · have hip : 0 < i := by omega
          obtain ⟨g1, cap1, rfl, hc1l, hc1m⟩ := rowN_form hR.out.1 hip
          obtain ⟨g2, cap2, rfl, hc2l, hc2m⟩ := rowN_form hR.out.2.1 hip
          obtain ⟨g3, cap3, rfl, hc3l, hc3m⟩ := rowN_form hR.out.2.2.1 hip
          have hat := Lib.hid (rowN_cell hR.out.1)
          have hat2 := Lib.hid (rowN_cell hR.out.2.1)
          have hat3 := Lib.hid (rowN_cell hR.out.2.2.1)
          go_wp2_with fail
          go_loop [30] (fun v => ∃ k : Nat, k ≤ i ∧ v = .int .i64 k ∧ Hid (∀ j, j < k → lf n j ≠ lf n i)) (fun v => i - (intOf v).toNat)
          case atStart => exact ⟨0, Nat.zero_le _, rfl, Lib.hid fun j hj => absurd hj (Nat.not_lt_zero j)⟩
          case round =>
            obtain ⟨k, hk, rfl, hne⟩ := hrel
            by_cases hlt : k < i
            · have hc := hat.out k hlt
              by_cases he : lf n k = lf n i
              · skip
                have hiS : i = stI n := by
                  rcases Nat.lt_or_ge i (stI n) with q | q
                  · exact absurd he (st_ne n hn2 hn1 i k q hlt)
                  · omega
                have hkJ : k = stJ n := st_one n hn2 hn1 k (by omega) (by rw [he, hiS])
                have ok := Lib.hid (mk_ok n hn2 hn3 (by rw [← hiS]; exact hnz.out))
                have hd : ((lf n k : Int) == (lf n i : Int)) = true := by simp; omega
                have eQ : (tx i : Int) / (tx k : Int) = mkQ n := by rw [hiS, hkJ]; rfl
                have eQ2 : (tx i : Int).tdiv (tx k : Int) = mkQ n := by rw [Int.tdiv_eq_ediv_of_nonneg (by omega)]; exact eQ
                have eA : (rd n i : Int) - (rd n k : Int) * mkQ n = mkA n := by rw [hiS, hkJ]; rfl
                obtain ⟨p0, p1⟩ := tx_le k (by omega)
                have z1 : ¬ ((tx k : Int) = 0) := by omega
                have z2 : ¬ (tx k = 0) := by omega
                have qj0 : 0 ≤ (rd n k : Int) * mkQ n := by rw [hkJ]; exact ok.out.j0
                have qj1 : (rd n k : Int) * mkQ n ≤ 10000000 := by rw [hkJ]; exact ok.out.j1
                have ab0 : 0 ≤ mkA n * (tx k : Int) := by rw [hkJ]; exact ok.out.b0
                have ab1 : mkA n * (tx k : Int) ≤ 10000000 := by rw [hkJ]; exact ok.out.b1
                have vv0 : 0 ≤ (rd n k : Int) * mkV n := by rw [hkJ]; exact ok.out.v0
                have vv1 : (rd n k : Int) * mkV n ≤ 100000000 := by rw [hkJ]; exact ok.out.v1
                have eP : (rd n k : Int) * mkV n + mkU n = mkP n := by rw [hkJ]; rfl
                have eR : (tx k : Int) * mkV n = mkR n := by rw [hkJ]; rfl
                have q0 := ok.out.q0
                have q1 := ok.out.q1
                have a0 := ok.out.a0
                have a1 := ok.out.a1
                have x0 := ok.out.x0
                have x1 := ok.out.x1
                have y0 := ok.out.y0
                have y1 := ok.out.y1
                have f0 := ok.out.p0
                have f1 := ok.out.p1
                have g0 := ok.out.s0
                have g1 := ok.out.s1
                have w1 : IntKind.i64.wrap (mkQ n) = mkQ n := IntWalk.i64_in _ (by omega)
                have w2 : IntKind.i64.wrap ((rd n k : Int) * mkQ n) = (rd n k : Int) * mkQ n := IntWalk.i64_in _ (by omega)
                have w3 : IntKind.i64.wrap ((rd n i : Int) - (rd n k : Int) * mkQ n) = mkA n := by rw [eA]; exact IntWalk.i64_in _ (by omega)
                have w4 : IntKind.i64.wrap (mkA n * (tx k : Int)) = mkA n * (tx k : Int) := IntWalk.i64_in _ (by omega)
                have w5 : IntKind.i64.wrap (mkX n * mkQ n) = mkX n * mkQ n := IntWalk.i64_in _ (by omega)
                have w6 : IntKind.i64.wrap (mkQ n - 1) = mkQ n - 1 := IntWalk.i64_in _ (by omega)
                have w7 : IntKind.i64.wrap (mkY n * (mkQ n - 1)) = mkY n * (mkQ n - 1) := IntWalk.i64_in _ (by omega)
                have w8 : IntKind.i64.wrap ((rd n k : Int) * mkV n) = (rd n k : Int) * mkV n := IntWalk.i64_in _ (by omega)
                have w9 : IntKind.i64.wrap ((rd n k : Int) * mkV n + mkU n) = mkP n := by rw [eP]; exact IntWalk.i64_in _ (by omega)
                have w10 : IntKind.i64.wrap ((tx k : Int) * mkV n) = mkR n := by rw [eR]; exact IntWalk.i64_in _ (by omega)
                have E1 := Lib.hid ok.out.e1
                have E2 := Lib.hid ok.out.e2
                have K1 : Hid (low (mkA n * (tx k : Int)) (mkA n * (tx k : Int)) (tx i) = mkX n) := Lib.hid (by rw [hiS, hkJ]; rfl)
                have K2 : Hid (low (tx i) (mkA n * (tx k : Int)) (tx i) = mkY n) := Lib.hid (by rw [hiS, hkJ]; rfl)
                have K3 : Hid (low (mkX n * mkQ n) (mkX n * mkQ n) (mkY n * (mkQ n - 1)) = mkU n) := rfl
                have K4 : Hid (low (mkY n * (mkQ n - 1)) (mkX n * mkQ n) (mkY n * (mkQ n - 1)) = mkV n) := rfl
                have hc2 := hat2.out k hlt
                have hc3 := hat3.out k hlt
                clear he hiS hkJ eQ2 eA eP eR
                go_wp2_with fail
                go_quiet (fail)
                go_wp2_with fail
                refine (cnLow_any (mkA n * (tx k : Int)) (tx i) _ ab0 (by omega) (by omega) (by omega)).mono ?_
                rintro e w1' ⟨rfl, n1, rfl⟩
                rw [K1.out, K2.out]
                go_wp2_with fail
                go_quiet ((go_at_call 20; exact quiet_more (cnLow_any (mkX n * mkQ n) (mkY n * (mkQ n - 1)) _ x0 y0 (by omega) (by omega))))
                rw [K3.out, K4.out]
                go_wp2_with fail
                go_quiet ((go_at_call 20; exact quiet_more (cnLow_any (mkP n) (mkR n) _ f0 g0 (by omega) (by omega))))
                go_wp2_with fail
                go_ret3
                exact ⟨by rw [← E1.out, ← E2.out]; rfl, by repeat (first | exact hb | refine bel_drewN ?_ _)⟩
              · have hd : ((lf n k : Int) == (lf n i : Int)) = false := by simp; omega
                have hne2 : Hid (∀ j, j < k + 1 → lf n j ≠ lf n i) := Lib.hid fun j hj => by
                  by_cases q : j = k
                  · subst q; exact he
                  · exact hne.out j (by omega)
                clear he
                go_wp2_with fail
                exact ⟨⟨k + 1, by omega, by go_num, hne2⟩, by simp [intOf]; omega⟩
            · obtain rfl : i = k := by omega
              have hil : i < stI n := by
                rcases Nat.lt_or_ge i (stI n) with q | q
                · exact q
                · have hiS : i = stI n := by omega
                  exact absurd (by rw [hiS]; exact (st_eq n hn2 hn1).symm) (hne.out (stJ n) (by have := (st_lt n hn2 hn1).1; omega))
              have hi3 : i + 1 ≤ stI n := hil
              have sL := Lib.hid (lf_succ n i)
              have sT := Lib.hid (tx_succ i)
              have sR : Hid (rd n (i + 1) = 2 * (rd n i + lf n i)) := rfl
              have lL : (rowN (lf n) i).length ≤ 1000000 := by rw [rowN_len]; omega
              have lR : (rowN (rd n) i).length ≤ 1000000 := by rw [rowN_len]; omega
              have lT : (rowN tx i).length ≤ 1000000 := by rw [rowN_len]; omega
              have hsa := Lib.hid hb.size
              have hnk : ¬ ((i : Int) < (i : Int)) := by omega
              have hE : ∀ (A : World) (x y z : Value), I3 A w.heap.size z (rowN tx i ++ [(tx i : Int)]) x (rowN (lf n) i ++ [(lf n i : Int)]) y (rowN (rd n) i ++ [(rd n i : Int)]) → I3 A w.heap.size x (rowN (lf n) (i + 1)) y (rowN (rd n) (i + 1)) z (rowN tx (i + 1)) := fun _ _ _ _ h => by rw [rowN_succ, rowN_succ, rowN_succ]; exact h.rot
              have HE := Lib.hid hE
              clear hE hil
              have M1 : ∀ (x : Int), x = (tx (i + 1) : Int) → 5000 - (intOf (.int .i64 x)).toNat < 5000 - (intOf (.int .i64 (tx i : Int))).toNat := fun x hx => by rw [hx]; exact meas_lt (by rw [sT.out]; omega) (by rw [sT.out]; omega)
              have HM := Lib.hid M1
              clear M1
              go_wp2_with (at_builtin; refine wpList_pushI rfl (.tmp 105) (.tmp 107) rfl w.heap.size _ _ _ _ _ _ hR.out lL hsa.out (lf n i) rfl rfl ?_)
              intro v1 w1 hR1 hb1
              have hs1 := Lib.hid (Nat.le_trans hsa.out hb1.size)
              go_wp2_with (at_builtin; refine wpList_pushI rfl (.tmp 109) (.tmp 111) rfl w.heap.size _ _ _ _ _ _ hR1.rot lR hs1.out (rd n i) rfl rfl ?_)
              intro v2 w2 hR2 hb2
              have hs2 := Lib.hid (Nat.le_trans hs1.out hb2.size)
              go_wp2_with (at_builtin; refine wpList_pushI rfl (.tmp 113) (.tmp 115) rfl w.heap.size _ _ _ _ _ _ hR2.rot lT hs2.out (tx i) rfl rfl ?_)
              intro v3 w3 hRz hb3
              have hbz := ((hb.trans hb1).trans hb2).trans hb3
              by_cases hge : n ≤ 2 * lf n i
              · have g1 : (n : Int) ≤ (lf n i : Int) * 2 := by omega
                by_cases hz : 2 * lf n i = n
                · have g2 : ((lf n i : Int) * 2 - (n : Int) == 0) = true := by simp; omega
                  have hl0 : lf n (i + 1) = 0 := by rw [sL.out, hz, Nat.mod_self]
                  have Z := Lib.hid (mk_zero n i hn2 hn3 hi3 hnz.out hl0)
                  have N1 : (2 * (rd n i : Int) + 2 * (lf n i : Int)) = (rd n (i + 1) : Int) := by rw [sR.out]; omega
                  have T1 : (tx i : Int) * 2 = (tx (i + 1) : Int) := by rw [sT.out]; omega
                  have HN := Lib.hid N1
                  have HT := Lib.hid T1
                  clear N1 T1 hl0 hz
                  go_wp2_with fail
                  refine (cnLow_any (2 * (rd n i : Int) + 2 * (lf n i : Int)) ((tx i : Int) * 2) _ (by omega) (by omega) (by omega) (by omega)).mono ?_
                  rintro e w5 ⟨rfl, n5, rfl⟩
                  go_wp2_with fail
                  go_ret3
                  exact ⟨by rw [HN.out, HT.out, Z.out.1, Z.out.2]; rfl, bel_drewN hbz n5⟩
                · have g2 : ((lf n i : Int) * 2 - (n : Int) == 0) = false := by simp; omega
                  have g3 : (lf n i : Int) * 2 - (n : Int) = (lf n (i + 1) : Int) := by
                    have e : 2 * lf n i % n = 2 * lf n i - n := by rw [Nat.mod_eq_sub_mod hge, Nat.mod_eq_of_lt (by omega)]
                    rw [sL.out, e]; omega
                  have G3 := Lib.hid g3
                  have nz : Hid (lf n (i + 1) ≠ 0) := Lib.hid (by omega)
                  clear g3 hz
                  go_wp2_with fail
                  exact ⟨⟨i + 1, hi3, nz, by rw [G3.out], by rw [sT.out]; congr 1; omega, by rw [sR.out]; congr 1; omega, Lib.hid (HE.out _ _ _ _ hRz), hbz⟩, HM.out _ (by rw [sT.out]; omega)⟩
              · have g1 : ¬ ((n : Int) ≤ (lf n i : Int) * 2) := by omega
                have g2 : ((lf n i : Int) * 2 == 0) = false := by have := hnz.out; simp; omega
                have g3 : (lf n i : Int) * 2 = (lf n (i + 1) : Int) := by
                  have e : 2 * lf n i % n = 2 * lf n i := Nat.mod_eq_of_lt (by omega)
                  rw [sL.out, e]; omega
                have G3 := Lib.hid g3
                have nz : Hid (lf n (i + 1) ≠ 0) := Lib.hid (by have := hnz.out; omega)
                clear g3
                go_wp2_with fail
                exact ⟨⟨i + 1, hi3, nz, by rw [G3.out], by rw [sT.out]; congr 1; omega, by rw [sR.out]; congr 1; omega, Lib.hid (HE.out _ _ _ _ hRz), hbz⟩, HM.out _ (by rw [sT.out]; omega)⟩

theorem walkExactMeanKeeping (s : Int) (w : World) (hs : (Lit.int .i64 s).wf = true) :
    Calls Try.prog 7 #[.int .i64 s] w fun e w' => e = .returned (.bool true) ∧ Below w.heap.size w w' := by
  clear hs
  obtain ⟨x, y, ok, hv⟩ := ansMK_form s
  have Hv := Lib.hid hv
  clear hv
  go_enter Try.func7, Try.ntmps7
  go_wp2_with fail
  refine (specMK_any s _).mono ?_
  rintro e w1 ⟨rfl, hb1⟩
  rw [Hv.out]
  go_wp2_with fail
  refine (implMK_any s _).mono ?_
  rintro e w2 ⟨rfl, hb2⟩
  rw [Hv.out]
  go_wp2_with fail
  go_ret
  exact ⟨rfl, bel_trans hb1 hb2⟩
end Go.Proofs.Ytnpghbbmhehnlaa
