/- The model's numbers of won and open races, one step and in its midst: what is of no program. -/
import Derived.Test.YtjckmnbpfmcadacDoorRaIs
namespace Go.Proofs.YtjckmnbpfmcadacDoor
set_option linter.unusedSimpArgs false
open Go.ChangeShapes Go.WideShapes Go.ChangeAt Go.RowKit
set_option linter.unusedVariables false

theorem sumJ_mono {f : Nat → Int} : ∀ n m, m ≤ n → (∀ i, i < n → 0 ≤ f i) → sumJ f m ≤ sumJ f n
  | 0, m, h, _ => by obtain rfl : m = 0 := by omega
                     exact Int.le_refl _
  | n + 1, m, h, hf => by
    by_cases e : m = n + 1
    · subst e; exact Int.le_refl _
    · have := sumJ_mono n m (by omega) (fun i hi => hf i (by omega))
      have := hf n (by omega)
      show sumJ f m ≤ sumJ f n + f n
      omega
theorem cntM_sum (gh gt : Nat → Nat) (n s0 : Nat) : ∀ t, sumJ (cntM gh gt n s0 t) n ≤ (1 + 1) ^ t
  | 0 => by
    have e : sumJ (cntM gh gt n s0 0) n = sumJ (ind s0 1) n := sumJ_congr n fun k _ => by
      show (if k = s0 then (1 : Int) else 0) = if s0 = k then 1 else 0
      by_cases h : k = s0
      · rw [if_pos h, if_pos h.symm]
      · rw [if_neg h, if_neg (fun q => h q.symm)]
    rw [e, ind_sum]
    split <;> simp
  | t + 1 => by
    have h := stp_sum_le gh gt (a := 1) (b := 1) (by omega) (by omega) n (fun j _ => cntM_nonneg gh gt n s0 t j) n
    have h2 := cntM_sum gh gt n s0 t
    rw [Int.pow_succ]
    show sumJ (stp gh gt 1 1 (cntM gh gt n s0 t) n) n ≤ _
    omega
/-- The step in the midst of the j-th number: tails first. -/
def mdR (g1 g2 : Nat → Nat) (f : Nat → Int) (j : Nat) : Nat → Nat → Int
  | 0, k => stp g1 g2 1 1 f j k
  | 1, k => stp g1 g2 1 1 f j k + ind (g2 j) (f j) k
  | _, k => stp g1 g2 1 1 f (j + 1) k
def gI (g1 g2 : Nat → Nat) (i : Nat) : Nat → Nat := if i = 0 then g2 else g1
theorem mdR_step (g1 g2 : Nat → Nat) (f : Nat → Int) (j i : Nat) (hi : i < 2) (k : Nat) : mdR g1 g2 f j (i + 1) k = mdR g1 g2 f j i k + ind (gI g1 g2 i j) (f j) k := by
  match i, hi with
  | 0, _ => rfl
  | 1, _ =>
    show stp g1 g2 1 1 f j k + con g1 g2 1 1 f j k = stp g1 g2 1 1 f j k + ind (g2 j) (f j) k + ind (g1 j) (f j) k
    unfold con
    rw [Int.one_mul]
    omega
theorem mdR_in (g1 g2 : Nat → Nat) (f : Nat → Int) (n j : Nat) (hj : j < n) (hf : ∀ i, i < n → 0 ≤ f i) (i : Nat) (hi : i ≤ 2) (k : Nat) : 0 ≤ mdR g1 g2 f j i k ∧ mdR g1 g2 f j i k ≤ 2 * sumJ f n := by
  have h0 := stp_nonneg g1 g2 (a := 1) (b := 1) (by omega) (by omega) j k (fun i hi => hf i (by omega))
  have l2 := stp_le g1 g2 (a := 1) (b := 1) (by omega) (by omega) (j + 1) k (fun i hi => hf i (by omega))
  have hs1 := sumJ_mono n (j + 1) (by omega) hf
  have hfj := hf j hj
  have a0 := ind_in (g1 j) hfj k
  have a1 := ind_in (g2 j) hfj k
  have s0 : mdR g1 g2 f j 1 k = mdR g1 g2 f j 0 k + ind (gI g1 g2 0 j) (f j) k := mdR_step g1 g2 f j 0 (by omega) k
  have s1 : mdR g1 g2 f j 2 k = mdR g1 g2 f j 1 k + ind (gI g1 g2 1 j) (f j) k := mdR_step g1 g2 f j 1 (by omega) k
  have e0 : mdR g1 g2 f j 0 k = stp g1 g2 1 1 f j k := rfl
  have e2 : mdR g1 g2 f j 2 k = stp g1 g2 1 1 f (j + 1) k := rfl
  have q0 : gI g1 g2 0 j = g2 j := rfl
  have q1 : gI g1 g2 1 j = g1 j := rfl
  rw [q0] at s0
  rw [q1] at s1
  match i, hi with
  | 0, _ => omega
  | 1, _ => omega
  | 2, _ => omega
theorem mdR_zero (g1 g2 : Nat → Nat) (f : Nat → Int) (j : Nat) (h : f j = 0) (k : Nat) : stp g1 g2 1 1 f j k = stp g1 g2 1 1 f (j + 1) k := by
  show _ = stp g1 g2 1 1 f j k + con g1 g2 1 1 f j k
  unfold con ind
  rw [h]
  split <;> split <;> simp
abbrev slV (g N : Nat) : Value := .slice (some ⟨g, 0, none⟩) (N + 1) (N + 1)
theorem sl_kept {w w' : World} {b g N : Nat} {xs : List Int} {row : Option Nat} (h : IRow w b (slV g N) xs) (hg : w.grownBy w' row) (hr : row ≠ some g) : IRow w' b (slV g N) xs :=
  World.ownsRow.kept h hg (.inr (by simpa [Value.ownBlock] using fun e => hr e.symm))
theorem add_low {W : World} {b1 b2 A B Z1 N1 : Nat} {F F' : Nat → Int} {y : Int} {d : Nat} (h1 : IRow W b1 (slV A Z1) (rowF Z1 F)) (h2 : IRow W b2 (slV B N1) (rowF N1 (fun k => F (Z1 + 1 + k)))) (hAB : A ≠ B) (hd : d ≤ Z1) (hF : ∀ k, F' k = F k + ind d y k) :
    IRow (W.setCell ⟨A, d, none⟩ (.int .i64 (F d + y))) b1 (slV A Z1) (rowF Z1 F') ∧ IRow (W.setCell ⟨A, d, none⟩ (.int .i64 (F d + y))) b2 (slV B N1) (rowF N1 (fun k => F' (Z1 + 1 + k))) := by
  obtain ⟨s1, s2⟩ := rowF_store h1 d (F d + y) F' (by rw [hF]; unfold ind; rw [if_pos rfl]) (fun i _ hne => by rw [hF]; unfold ind; rw [if_neg (fun e => hne e.symm)]; omega)
  refine ⟨s1, ?_⟩
  have h3 := sl_kept h2 s2 (by intro e; cases e; exact hAB rfl)
  rw [rowF_congr N1 (g := fun k => F (Z1 + 1 + k)) fun k _ => by show F' _ = F _; rw [hF]; unfold ind; rw [if_neg (by omega)]; omega]
  exact h3
theorem add_high {W : World} {b1 b2 A B Z1 N1 : Nat} {F F' : Nat → Int} {y : Int} {q : Nat} (h1 : IRow W b1 (slV A Z1) (rowF Z1 F)) (h2 : IRow W b2 (slV B N1) (rowF N1 (fun k => F (Z1 + 1 + k)))) (hAB : A ≠ B) (hd : q ≤ N1) (hF : ∀ k, F' k = F k + ind (Z1 + 1 + q) y k) :
    IRow (W.setCell ⟨B, q, none⟩ (.int .i64 (F (Z1 + 1 + q) + y))) b1 (slV A Z1) (rowF Z1 F') ∧ IRow (W.setCell ⟨B, q, none⟩ (.int .i64 (F (Z1 + 1 + q) + y))) b2 (slV B N1) (rowF N1 (fun k => F' (Z1 + 1 + k))) := by
  obtain ⟨s1, s2⟩ := rowF_store h2 q (F (Z1 + 1 + q) + y) (fun k => F' (Z1 + 1 + k)) (by show F' _ = _; rw [hF]; unfold ind; rw [if_pos rfl]) (fun i _ hne => by show F' _ = F _; rw [hF]; unfold ind; rw [if_neg (by omega)]; omega)
  refine ⟨?_, s1⟩
  have h3 := sl_kept h1 s2 (by intro e; cases e; exact hAB rfl)
  rw [rowF_congr Z1 (g := F) fun k _ => by rw [hF]; unfold ind; rw [if_neg (by omega)]; omega]
  exact h3
end Go.Proofs.YtjckmnbpfmcadacDoor
