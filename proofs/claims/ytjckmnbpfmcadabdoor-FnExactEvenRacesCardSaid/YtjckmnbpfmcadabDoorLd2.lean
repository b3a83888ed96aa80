/- Leading numbers: the contracts of the program and of its model. -/
import Derived.Test.YtjckmnbpfmcadabDoorLd
namespace Go.Proofs.YtjckmnbpfmcadabDoor
set_option linter.unusedSimpArgs false
open Go.ChangeShapes Go.WideShapes Go.ChangeAt Go.RowKit
set_option linter.unusedVariables false

theorem prefix_any (s p : ByteArray) (w : World) :
    Calls Tryd.prog 71 #[.string s, .string p] w fun e w' => e = .returned (.bool (Lib.hasPrefix s.data.toList p.data.toList)) ∧ w = w' :=
  (Tryd.strings_HasPrefix s p w).mono fun _ _ ⟨a, b⟩ => ⟨a, b.symm⟩
theorem iterPos_at {w : World} {k : Nat} {s : ByteArray} {p : Nat} (h : w.heap[k]? = some (.stringIter s p)) : w.iterPos k = p := by simp [World.iterPos, h]
theorem tos_ascii {s : ByteArray} {k : Nat} (hk : k < s.size) (h : allT s = true) : s[k].toNat < 128 := by
  rcases (tosB_iff _).1 (allT_at s k hk h) with e | e <;> omega
/-- What the program has added up behind so many signs. -/
def ldR (h o : Int) (a b : ByteArray) (p : Nat) : Int := ldN h o a b - ldS h o a b a.size (a.size - p)
theorem ldR_zero (h o : Int) (a b : ByteArray) : ldR h o a b 0 = 0 := by unfold ldR ldN; simp
theorem ldR_all (h o : Int) (a b : ByteArray) : ldR h o a b a.size = ldN h o a b := by unfold ldR; simp [ldS]
theorem ldR_yes {h o : Int} {a b : ByteArray} {p m : Nat} (hp : a.size - p = m + 1) (q : meetB a b (m + 1) = true) : ldR h o a b (p + 1) = ldR h o a b p + ldT h o b a.size (m + 1) := by
  unfold ldR
  rw [hp, show a.size - (p + 1) = m from by omega, ldS_yes q]
  omega
theorem ldR_no {h o : Int} {a b : ByteArray} {p m : Nat} (hp : a.size - p = m + 1) (q : meetB a b (m + 1) = false) : ldR h o a b (p + 1) = ldR h o a b p := by
  unfold ldR
  rw [hp, show a.size - (p + 1) = m from by omega, ldS_no q]
theorem ldR_in (h o : Int) (a b : ByteArray) (p : Nat) (h1 : 1 ≤ h) (h2 : h < o) (h3 : o ≤ 4) (hn : a.size ≤ 5) : -5368709120 ≤ ldR h o a b p ∧ ldR h o a b p ≤ 5368709120 := by
  unfold ldR ldN
  have p1 := ldS_in h o a b a.size h1 h2 h3 hn a.size (Nat.le_refl _)
  have p2 := ldS_in h o a b a.size h1 h2 h3 hn (a.size - p) (by omega)
  omega

set_option maxRecDepth 100000 in
set_option maxHeartbeats 1600000 in
theorem implLead_any (h o : Int) (a b : ByteArray) (w : World) (g : rcG h o = true) (ha : allT a = true) (hab : a.size = b.size) (hn : a.size ≤ 5) :
    Calls Tryd.prog 44 #[cn h o, .string a, .string b] w fun e w' => e = .returned (.int .i64 (ldN h o a b)) ∧ Below w.heap.size w w' := by
  obtain ⟨g1, r1, r2, r3, r4⟩ := rc_in g
  have bxs := Lib.hid (Box2.new w (.int .i64 h) (.int .i64 o) 27)
  have HA := Lib.hid ha
  have Hfin := Lib.hid (ldR_all h o a b)
  have hab2 : a.size ≤ b.size := by omega
  clear ha hab
  go_enter Tryd.func44, Tryd.ntmps44
  go_wp2
  go_loopw [7] (fun x wr => ∃ p : Nat, p ≤ a.size ∧ x = .int .i64 (ldR h o a b p) ∧ Hid (Box2 wr w.heap.size (.int .i64 h) (.int .i64 o)) ∧ Hid (wr.heap[w.heap.size + 1]? = some (.stringIter a p)) ∧ Below w.heap.size w wr) (fun _ wr => a.size - wr.iterPos (w.heap.size + 1))
  case atStart =>
    refine ⟨0, by omega, by rw [ldR_zero], ?_, ?_, ?_⟩
    · exact bxs.out.keep (bel_alloc (Below.refl _ _) _)
    · have := World.iter_heap (w.alloc (.cells #[.int .i64 h, .int .i64 o] 27)) a 0
      exact Lib.hid (by simpa using this)
    · exact bel_alloc (bel_alloc (Below.refl _ _) _) _
  case round =>
    obtain ⟨p, hp, rfl, hbx, hit, hbl⟩ := hrel
    obtain ⟨wa, rfl⟩ : ∃ wa : World, wa = wr := ⟨_, rfl⟩
    have hsz : w.heap.size + 1 < wa.heap.size := (Array.getElem?_eq_some_iff.1 hit.out).1
    by_cases hlt : p < a.size
    · obtain ⟨W0, hW0⟩ : ∃ W0, W0 = wa.iterAt (w.heap.size + 1) a (p + 1) := ⟨_, rfl⟩
      have hnx : ∀ ty, (Instr.next (.pointer (some ⟨w.heap.size + 1, 0, none⟩)) true ty).run Tryd.prog wa = .ok (.tuple #[.bool true, .int .i64 p, .int .i32 a[p].toNat]) W0 := fun ty => by
        rw [hW0]; exact Lib.run_next_ascii_at wa (w.heap.size + 1) a p ty hit.out hlt (tos_ascii hlt HA.out)
      have it0 := Lib.hid (Lib.iterAt_heap wa (w.heap.size + 1) a p (p + 1) hit.out)
      have bl0 := Lib.below_iterAt hbl (k := w.heap.size + 1) (by omega) a (p + 1)
      have blx := Lib.below_iterAt (Below.refl (w.heap.size + 1) wa) (k := w.heap.size + 1) (by omega) a (p + 1)
      have sz0 : w.heap.size + 1 < (wa.iterAt (w.heap.size + 1) a (p + 1)).heap.size := by rw [Lib.iterAt_size]; exact hsz
      rw [← hW0] at it0 bl0 blx sz0
      have bx0 : Box2 W0 w.heap.size (.int .i64 h) (.int .i64 o) := ⟨(blx.cell (p := ⟨w.heap.size, 0, none⟩) (by simp)).trans hbx.out.1, (blx.cell (p := ⟨w.heap.size, 1, none⟩) (by simp)).trans hbx.out.2.1, by omega⟩
      have Hpos := Lib.hid (iterPos_at hit.out)
      clear blx hW0 hbx hit
      obtain ⟨m, hm⟩ : ∃ m, a.size - p = m + 1 := ⟨a.size - p - 1, by omega⟩
      have hpa : p = a.size - (m + 1) := by omega
      have hpre := pre_meet a b (m + 1) (by omega) (by omega)
      have hext : a.extract (a.size - (m + 1)) a.size = a.extract p a.size := by rw [← hpa]
      have hls : (a.extract p a.size).size = m + 1 := by rw [ext_size _ _ _ (Nat.le_refl _)]; exact hm
      rw [hext] at hpre
      obtain ⟨q0, q1⟩ := ldR_in h o a b p r1 r2 r4 hn
      cases hq : meetB a b (m + 1)
      · have hstep := Lib.hid (ldR_no (h := h) (o := o) hm hq)
        rw [hq] at hpre
        have Hpre := Lib.hid hpre
        have BX := Lib.hid bx0
        clear hq hpre hext bx0 hpa hm
        generalize ldR h o a b p = x at *
        have HL := Lib.hid hls
        clear hls
        go_wp2_with fail
        refine (prefix_any b (a.extract p a.size) _).mono ?_
        rintro e w2 ⟨rfl, rfl⟩
        rw [Hpre.out]
        go_wp2_with fail
        exact ⟨⟨p + 1, by omega, by rw [hstep.out], BX.out, it0.out, bl0⟩, by rw [iterPos_at it0.out, Hpos.out]; omega⟩
      · have hstep := ldR_yes (h := h) (o := o) hm hq
        have hle : a.extract p a.size = b.extract 0 (m + 1) := by
          have := hq
          unfold meetB at this
          rw [hext] at this
          exact of_decide_eq_true this
        have hpa2 : prA h o (a.extract p a.size) = prK h o b (m + 1) := by rw [hle, prA_take h o b (m + 1) (by omega)]
        have hdiv := ld_div h o b a.size (m + 1) r1 r2 r4 (by omega) hn
        rw [← hpa2] at hdiv
        have hT : ldT h o b a.size (m + 1) = o ^ (m + 1) * ((h * (o - h)) ^ a.size / prA h o (a.extract p a.size)) := by rw [hdiv, ← Int.mul_assoc]; rfl
        rw [hT] at hstep
        obtain ⟨t0, t1⟩ := ldT_in h o b a.size (m + 1) r1 r2 r4 hn (by omega)
        rw [hT] at t0 t1
        obtain ⟨u0, u1⟩ := prK_fr h o b (m + 1) r1 r2 r4 (by omega)
        rw [← hpa2] at u0 u1
        obtain ⟨v0, v1⟩ := pow_ht h o r1 r2 r4 a.size hn
        have d0 : 0 ≤ (h * (o - h)) ^ a.size / prA h o (a.extract p a.size) := Int.ediv_nonneg (by omega) (by omega)
        have d1 : (h * (o - h)) ^ a.size / prA h o (a.extract p a.size) ≤ 1024 := Int.le_trans (Int.ediv_le_self _ (by omega)) v1
        obtain ⟨y0, y1⟩ := pow_f5 o (by omega) r4 (m + 1) (by omega)
        rw [hq] at hpre
        have Hpre := Lib.hid hpre
        have Hstep := Lib.hid hstep
        have BX := Lib.hid bx0
        have Lof := fun W => leadingOf_any h o a.size W g hn
        have Lpt := fun W => part_any h o (a.extract p a.size) W g1 (by omega)
        have Lpw := fun W => power_any o (m + 1) W (by omega) (by omega) (by omega)
        have LOF := Lib.hid Lof
        have LPT := Lib.hid Lpt
        have LPW := Lib.hid Lpw
        clear hq hpre hext bx0 hpa hm hle hpa2 hdiv hT hstep Lof Lpt Lpw
        have HLl : ((a.extract p a.size).size : Int) = (m : Int) + 1 := by omega
        clear hls
        have HLH := Lib.hid HLl
        clear HLl
        generalize ldR h o a b p = x at *
        generalize (h * (o - h)) ^ a.size = P at *
        generalize prA h o (a.extract p a.size) = A at *
        generalize o ^ (m + 1) = O at *
        have hA0 : ¬ A = 0 := by omega
        have hA1 : (A == 0) = false := by simpa using hA0
        have htd : P.tdiv A = P / A := Int.tdiv_eq_ediv_of_nonneg (by omega)
        have hw3 : IntKind.i64.wrap (P / A) = P / A := IntWalk.i64_in _ (by omega)
        have hw1 : IntKind.i64.wrap (O * (P / A)) = O * (P / A) := IntWalk.i64_in _ (by omega)
        have hw2 : IntKind.i64.wrap (x + O * (P / A)) = x + O * (P / A) := IntWalk.i64_in _ (by omega)
        go_wp2_with fail
        refine (prefix_any b (a.extract p a.size) _).mono ?_
        rintro e w2 ⟨rfl, rfl⟩
        rw [Hpre.out]
        have HLl := HLH.out
        clear Hpre
        generalize a.extract p a.size = l at *
        go_wp2_with fail
        go_region_held3 (fun w' => w'.cell? ⟨w.heap.size, 0, none⟩ = some (.int .i64 h) ∧ w'.cell? ⟨w.heap.size, 1, none⟩ = some (.int .i64 o) ∧ w.heap.size < w'.heap.size ∧ Below W0.heap.size W0 w')
          (first | exact held2_start BX.out (Below.refl _ W0) | exact held2_keep (by assumption) hb5 | exact held2_drewN (by assumption) _ | assumption | go_keep)
          (first | (go_at_call 72; refine (LPW.out _).mono ?_; rintro e w6 ⟨rfl, rfl⟩) | (go_at_call 45; refine (LOF.out _).mono ?_; rintro e w5 ⟨rfl, hb5⟩) | (go_at_call 73; refine (LPT.out _).mono ?_; rintro e w7 ⟨rfl, hb5⟩))
        all_goals
          obtain ⟨hbx9, hbl9⟩ := held2_below (by assumption)
          have it9 := Lib.hid ((hbl9.block (w.heap.size + 1) sz0).trans it0.out)
          have bl9 := bel_trans bl0 hbl9
          have Hbx9 := Lib.hid hbx9
          clear hbx9 hbl9
          go_wp2
          exact ⟨⟨p + 1, by omega, by rw [Hstep.out], Hbx9.out, it9.out, bl9⟩, by rw [iterPos_at it9.out, Hpos.out]; omega⟩
    · obtain rfl : a.size = p := by omega
      have hnx : ∀ ty, (Instr.next (.pointer (some ⟨w.heap.size + 1, 0, none⟩)) true ty).run Tryd.prog wa = .ok (.tuple #[.bool false]) wa := fun ty => Lib.run_next_end_at wa (w.heap.size + 1) a a.size ty hit.out hlt
      rw [Hfin.out]
      go_wp2
      go_ret
      exact ⟨rfl, hbl⟩

set_option maxRecDepth 100000 in
set_option maxHeartbeats 1600000 in
theorem specLead_any (h o : Int) (a b : ByteArray) (w : World) (g : rcG h o = true) (hab : a.size = b.size) (hn : a.size ≤ 5) :
    Calls Tryd.prog 39 #[cn h o, .string a, .string b] w fun e w' => e = .returned (.int .i64 (ldN h o a b)) ∧ Below w.heap.size w w' := by
  obtain ⟨g1, r1, r2, r3, r4⟩ := rc_in g
  have bxs := Lib.hid (Box2.new w (.int .i64 h) (.int .i64 o) 27)
  have hab2 : a.size ≤ b.size := by omega
  have hw0 : IntKind.i64.wrap (o - h) = o - h := IntWalk.i64_in _ (by omega)
  have Hfin : Hid (ldS h o a b a.size a.size = ldN h o a b) := rfl
  clear hab
  go_enter Tryd.func39, Tryd.ntmps39
  go_wp2
  go_loopw [7, 8] (fun x y wr => ∃ j : Nat, j ≤ a.size ∧ y = .int .i64 ((j : Int) + 1) ∧ x = .int .i64 (ldS h o a b a.size j) ∧ Hid (Box2 wr w.heap.size (.int .i64 h) (.int .i64 o)) ∧ Below w.heap.size w wr) (fun _ y _ => a.size + 1 - (intOf y).toNat)
  case atStart => exact ⟨0, by omega, rfl, rfl, bxs.out, bel_alloc (Below.refl _ _) _⟩
  case round =>
    obtain ⟨j, hj, rfl, rfl, hbx, hbl⟩ := hrel
    obtain ⟨x0, x1⟩ := ldS_in h o a b a.size r1 r2 r4 hn j hj
    by_cases hlt : j < a.size
    · have hji : (j : Int) + 1 ≤ (a.size : Int) := by omega
      have hw1 : IntKind.i64.wrap ((a.size : Int) - ((j : Int) + 1)) = ((a.size - (j + 1) : Nat) : Int) := by rw [IntWalk.i64_in _ (by omega)]; omega
      have hne : ((a.extract (a.size - (j + 1)) a.size).toList == (b.extract 0 (j + 1)).toList) = meetB a b (j + 1) := ba_beq _ _
      cases hq : meetB a b (j + 1)
      · have hstep := Lib.hid (ldS_no (h := h) (o := o) (n := a.size) hq)
        rw [hq] at hne
        generalize ldS h o a b a.size j = x at *
        clear hq
        go_wp2_with fail
        repeat (go_quiet (fail); go_wp2_with fail)
        exact ⟨⟨j + 1, by omega, by go_num, by rw [hstep.out], hbx.out, bel_drewN hbl _⟩, by simp [intOf]; omega⟩
      · have hstep := Lib.hid (ldS_yes (h := h) (o := o) (n := a.size) hq)
        obtain ⟨t0, t1⟩ := ldT_in h o b a.size (j + 1) r1 r2 r4 hn (by omega)
        have Ht := Lib.hid (ldI_all h o b (j + 1) a.size (by omega))
        rw [hq] at hne
        generalize ldS h o a b a.size j = x at *
        clear hq
        go_wp2_with fail
        repeat (go_quiet (fail); go_wp2_with fail)
        go_loopw [9, 10] (fun u i wr2 => ∃ q : Nat, q ≤ a.size ∧ i = .int .i64 q ∧ u = .int .i64 (ldI h o b (j + 1) q) ∧ Hid (Box2 wr2 w.heap.size (.int .i64 h) (.int .i64 o)) ∧ Below w.heap.size w wr2) (fun _ i _ => a.size - (intOf i).toNat)
        case atStart => exact ⟨0, by omega, rfl, by rw [ldI_zero], hbx.out, bel_drewN hbl _⟩
        case round =>
          obtain ⟨q, hq, rfl, rfl, hbx2, hbl2⟩ := hrel
          obtain ⟨d0, d1, d2⟩ := hbx2.out
          obtain ⟨u0, u1⟩ := ldI_in h o b (j + 1) q r1 r2 r4 (by omega)
          by_cases hlt2 : q < a.size
          · obtain ⟨v0, v1⟩ := ldI_in h o b (j + 1) (q + 1) r1 r2 r4 (by omega)
            by_cases hk : q < j + 1
            · have hk2 : ¬ (j : Int) + 1 ≤ (q : Int) := by omega
              have hqb : q < b.size := by omega
              have hm1 := Int.mul_le_mul u1 r4 (by omega) (by omega)
              have hm0 := Int.mul_nonneg (show 0 ≤ ldI h o b (j + 1) q by omega) (show 0 ≤ o by omega)
              by_cases hc : b[q] = 104
              · have hc2 : (b[q].toNat : Int) = 104 := by rw [hc]; rfl
                have hfs := Lib.hid (ldI_h h o b (j + 1) q hk hqb hc)
                rw [ldI_h h o b (j + 1) q hk hqb hc] at v0 v1
                have Hc := Lib.hid hc
                clear hc
                generalize ldI h o b (j + 1) q = u at *
                have hp1 : IntKind.i64.wrap (u * o) = u * o := IntWalk.i64_in _ (by omega)
                have hp2 : IntKind.i64.wrap (u * o * (o - h)) = u * o * (o - h) := IntWalk.i64_in _ (by omega)
                go_wp2_with fail
                repeat (go_quiet (fail); go_wp2_with fail)
                exact ⟨⟨q + 1, by omega, by go_num, by rw [hfs.out], hbx2.out, bel_drewN hbl2 _⟩, by simp [intOf]; omega⟩
              · have hc2 : ¬ (b[q].toNat : Int) = 104 := by intro e; apply hc; apply UInt8.toNat.inj; show b[q].toNat = 104; omega
                have hfs := Lib.hid (ldI_t h o b (j + 1) q hk hqb hc)
                rw [ldI_t h o b (j + 1) q hk hqb hc] at v0 v1
                have Hc := Lib.hid hc
                clear hc
                generalize ldI h o b (j + 1) q = u at *
                have hp1 : IntKind.i64.wrap (u * o) = u * o := IntWalk.i64_in _ (by omega)
                have hp2 : IntKind.i64.wrap (u * o * h) = u * o * h := IntWalk.i64_in _ (by omega)
                go_wp2_with fail
                repeat (go_quiet (fail); go_wp2_with fail)
                exact ⟨⟨q + 1, by omega, by go_num, by rw [hfs.out], hbx2.out, bel_drewN hbl2 _⟩, by simp [intOf]; omega⟩
            · have hk2 : (j : Int) + 1 ≤ (q : Int) := by omega
              have hfs := Lib.hid (ldI_more h o b (j + 1) q (by omega))
              rw [ldI_more h o b (j + 1) q (by omega)] at v0 v1
              obtain ⟨s1, s2⟩ := ht_in h o r1 r2 r4
              generalize ldI h o b (j + 1) q = u at *
              have hp1 : IntKind.i64.wrap (h * (o - h)) = h * (o - h) := IntWalk.i64_in _ (by omega)
              have hp2 : IntKind.i64.wrap (u * (h * (o - h))) = u * (h * (o - h)) := IntWalk.i64_in _ (by omega)
              go_wp2_with fail
              repeat (go_quiet (fail); go_wp2_with fail)
              exact ⟨⟨q + 1, by omega, by go_num, by rw [hfs.out], hbx2.out, bel_drewN hbl2 _⟩, by simp [intOf]; omega⟩
          · obtain rfl : a.size = q := by omega
            rw [Ht.out]
            generalize ldT h o b a.size (j + 1) = t at *
            go_wp2_with fail
            exact ⟨⟨j + 1, by omega, by go_num, by rw [hstep.out], hbx2.out, hbl2⟩, by simp [intOf]; omega⟩
    · obtain rfl : a.size = j := by omega
      rw [Hfin.out]
      go_wp2
      go_ret
      exact ⟨rfl, hbl⟩
end Go.Proofs.YtjckmnbpfmcadabDoor
