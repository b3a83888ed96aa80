/- WinnerOfMany and WinnerOfRace: the contracts of the program and of its model. -/
import Derived.Test.YtjckmnbpfmcadacDoorMany
import Derived.ScopeJumps
import Derived.WalkMore
namespace Go.Proofs.YtjckmnbpfmcadacDoor
set_option linter.unusedSimpArgs false
open Go.ChangeShapes Go.WideShapes Go.ChangeAt Go.RowKit
set_option linter.unusedVariables false

theorem scope_jumps {P : Program} {a : Act} {w : World} {Q : Exit → Act → World → Prop} {c rest : Code} (l : Nat) (J : Act → World → Prop) (μ : Act → World → Nat) (hf : findLabel c l = some (Code.skip.seq rest))
    (first : (∀ a w, J a w → rest.wp P (Exit.jump l J Q) a w) → c.wp P (Exit.jump l J Q) a w)
    (pass : ∀ a w, J a w → rest.wp P (Exit.jump l (fun a' w' => J a' w' ∧ μ a' w' < μ a w) Q) a w) : (Code.scope c).wp P Q a w :=
  wp_scope_jumps l J μ hf (first fun a w h => wp_mono (pass a w h) fun e a w h => by
    cases e with
    | goto l' => exact ⟨h.1, h.2.1⟩
    | _ => exact h) (fun a w h => wp_seq (wp_skip (pass a w h)))
def frV : Option (Nat × Nat) → Value
  | some (k, n) => .tuple #[.int .i64 k, .int .i64 n]
  | none => .tuple #[.int .i64 (-1), .int .i64 0]

set_option maxRecDepth 100000 in
set_option maxHeartbeats 3200000 in
theorem raFirst_any (xs : List ByteArray) (v : Value) (base : Nat) (t : ByteArray) (w : World) (hR : SRow w base v xs) (hm : manyG xs = true) (ht : t.size ≤ 40) :
    Calls Tryd.prog 55 #[v, .string t] w fun e w' => e = .returned (frV (win xs t)) ∧ w = w' := by
  obtain ⟨x2, x4, hok⟩ := many_in hm
  rcases hR.form with ⟨hx, _⟩ | ⟨hx, g, cap, rfl, hbg, hgl, hlc, hcm⟩
  · rw [hx] at x2; simp at x2
  have hsz := ok_size hok
  have hrc := ok_rac hok
  have hl0 := rac_in (hrc 0 (by omega))
  have hwf := win_from (t := t) hsz
  have c0 := hR.at_ 0 (by omega)
  have HR := Lib.hid hR
  have HSZ := Lib.hid hsz
  clear hR hm hok hrc hsz
  unfold maxLen at hcm
  change w.cell? _ = some (.string (xs.getD 0 noS)) at c0
  obtain ⟨L, hL⟩ : ∃ L, L = (xs.getD 0 noS).size := ⟨_, rfl⟩
  rw [← hL] at hl0 hwf HSZ
  have HL := Lib.hid hL
  generalize xs.getD 0 noS = x0 at *
  generalize hN : xs.length = N at *
  have HN := Lib.hid hN
  have HWF := Lib.hid hwf.symm
  obtain ⟨l1, l5, _⟩ := hl0
  have hLi : (x0.size : Int) = (L : Int) := by rw [hL]
  clear hL hN hwf
  have HLi := Lib.hid hLi
  clear hLi
  have hNi : (0 : Int) < (N : Int) := by omega
  go_enter Tryd.func55, Tryd.ntmps55
  go_wp2_with fail
  rw [HLi.out]
  go_loop [6] (fun x => ∃ n : Nat, L ≤ n ∧ x = .int .i64 n ∧ n ≤ 100 ∧ Hid (winN xs t (t.size + 1 - n) n = win xs t)) (fun x => t.size + 1 - (intOf x).toNat)
  case atStart => exact ⟨L, Nat.le_refl _, rfl, by omega, HWF.out⟩
  case round =>
    obtain ⟨n, hn, rfl, hn100, hw⟩ := hrel
    by_cases hlt : n ≤ t.size
    · have hni : (n : Int) ≤ (t.size : Int) := by omega
      obtain ⟨m, hm⟩ : ∃ m, t.size + 1 - n = m + 1 := ⟨t.size - n, by omega⟩
      have hm2 : t.size + 1 - (n + 1) = m := by omega
      rw [hm] at hw
      have Hm := Lib.hid hm
      have Hm2 := Lib.hid hm2
      clear hm hm2
      go_wp2_with fail
      go_loop [21] (fun i => ∃ k : Nat, k ≤ N ∧ i = .int .i64 k ∧ Hid (firstK (hitB xs t n) (N - k) k = firstK (hitB xs t n) N 0)) (fun i => N - (intOf i).toNat)
      case atStart => exact ⟨0, by omega, rfl, rfl⟩
      case round =>
        obtain ⟨k, hk, rfl, hf⟩ := hrel
        by_cases hlt2 : k < N
        · have hrow := HR.out
          rw [← HN.out] at hrow
          have c1 := hrow.at_ k (by rw [HN.out]; exact hlt2)
          have hps := HSZ.out k hlt2
          have hhit : Hid (hitB xs t n k = (decide ((xs.getD k noS).size ≤ n) && plcB (xs.getD k noS) t n)) := rfl
          obtain ⟨q, hq⟩ : ∃ q, N - k = q + 1 := ⟨N - k - 1, by omega⟩
          have hq2 : N - (k + 1) = q := by omega
          rw [hq] at hf
          have Hq2 := Lib.hid hq2
          clear hq hq2 hrow
          generalize xs.getD k noS = p at *
          have hw1 : IntKind.i64.wrap ((n : Int) - (p.size : Int)) = ((n - L : Nat) : Int) := by rw [IntWalk.i64_in _ (by omega)]; omega
          have hbe : ((t.extract (n - L) n).toList == p.toList) = plcB p t n := by
            unfold plcB
            rw [hps]
            exact ba_beq _ _
          have hnL : ((n - L : Nat) : Int) ≤ (n : Int) := by omega
          cases hh : plcB p t n
          · have hz : Hid (firstK (hitB xs t n) (N - (k + 1)) (k + 1) = firstK (hitB xs t n) N 0) := by
              refine Lib.hid ?_
              rw [Hq2.out, ← hf.out, firstK_no (by rw [hhit.out, hh, Bool.and_false])]
            rw [hh] at hbe
            have Hps := Lib.hid hps
            clear hh hps
            go_wp2_with fail
            repeat (go_quiet (fail); go_wp2_with fail)
            exact ⟨⟨k + 1, by omega, by go_num, hz⟩, by simp [intOf]; omega⟩
          · have hz : Hid (win xs t = some (k, n)) := by
              refine Lib.hid ?_
              have h1 : firstK (hitB xs t n) N 0 = some k := by
                rw [← hf.out, firstK_yes]
                rw [hhit.out, hh, Bool.and_true, decide_eq_true_iff]
                omega
              rw [← hw.out]
              refine winN_yes ?_
              rw [HN.out]
              exact h1
            rw [hh] at hbe
            have Hps := Lib.hid hps
            clear hh hps
            go_wp2_with fail
            repeat (go_quiet (fail); go_wp2_with fail)
            go_ret2
            exact ⟨by rw [hz.out]; rfl, rfl⟩
        · obtain rfl : k = N := by omega
          have hz : Hid (winN xs t (t.size + 1 - (n + 1)) (n + 1) = win xs t) := by
            refine Lib.hid ?_
            rw [Hm2.out, ← hw.out, winN_no]
            rw [HN.out, ← hf.out, Nat.sub_self]
            rfl
          go_wp2_with fail
          exact ⟨⟨n + 1, by omega, by go_num, by omega, hz⟩, by simp [intOf]; omega⟩
    · have hz : Hid (win xs t = none) := by
        refine Lib.hid ?_
        rw [← hw.out, show t.size + 1 - n = 0 from by omega]
        rfl
      go_wp2_with fail
      go_ret2
      exact ⟨by rw [hz.out]; rfl, rfl⟩
end Go.Proofs.YtjckmnbpfmcadacDoor
