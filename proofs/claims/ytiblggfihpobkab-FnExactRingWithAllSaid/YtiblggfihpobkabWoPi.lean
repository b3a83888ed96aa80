/- Prime words: contracts of the program and of its model. -/
import Derived.Test.YtiblggfihpobkabWoRo
import Derived.Test.YtiblggfihpobkabShelfK
import Derived.Lib.OwnBridge
namespace Go.Proofs.Ytiblggfihpobkab
set_option linter.unusedSimpArgs false
open Go.ChangeShapes Go.WideShapes Go.ChangeAt Go.RowKit
set_option linter.unusedVariables false

def leS (x s : ByteArray) : Bool := ltS x s || decide (x = s)
theorem leS_eq (x s : ByteArray) : leS x s = !ltS s x := by
  unfold leS
  cases h : ltS s x
  · by_cases e : x = s
    · simp [e]
    · simp [ltS_tri h (fun q => e q.symm)]
  · have := ltS_asym h
    have hne : ¬ x = s := by
      rintro rfl
      rw [this] at h
      cases h
    simp [this, hne]
theorem trnL_tail (s : ByteArray) (n : Nat) : (trnL s (n + 1)).tail = (List.range n).map fun k => trn s (k + 1) := by
  unfold trnL
  rw [List.range_succ_eq_map]
  simp
theorem pr_any (s : ByteArray) (h1 : 1 ≤ s.size) : (trnL s s.size).tail.any (fun x => leS x s) = !isPr s := by
  obtain ⟨n, hn⟩ : ∃ n, s.size = n + 1 := ⟨s.size - 1, by omega⟩
  unfold isPr
  rw [hn, trnL_tail, List.any_map, Nat.add_sub_cancel, List.not_all_eq_any_not]
  congr 1
  funext k
  exact leS_eq _ _
theorem gives_pr (s x : ByteArray) (B : Nat) (W : World) (hc : W.cell? ⟨B, 0, none⟩ = some (.string s)) :
    FnGives Try.prog 85 #[.pointer (some ⟨B, 0, none⟩)] #[.string x] (.bool (leS x s)) W := by
  show Calls Try.prog 85 #[.string x, .pointer (some ⟨B, 0, none⟩)] W _
  have h1 := bl_lt x s
  have h2 := ba_bq x s
  have h3 : Hid (leS x s = (ltS x s || decide (x = s))) := rfl
  rw [h3.out]
  go_enter Try.func85, Try.ntmps85
  go_wp2
  go_ret
  exact ⟨rfl, 0, rfl⟩
open Go.Sort Go.Shelf in
theorem contT_any (xs : List ByteArray) (base g cap : Nat) (s : ByteArray) (B : Nat) (W : World) (hR : SRow W base (.slice (some ⟨g, 0, none⟩) xs.length cap) xs) (hpos : 0 < xs.length) (hm : xs.length ≤ 1000) (hB : B < W.heap.size) (hc : W.cell? ⟨B, 0, none⟩ = some (.string s)) :
    Calls Try.prog 86 #[.slice (some ⟨g, 1, none⟩) (xs.length - 1) (cap - 1), .func (.func 85) #[] #[.pointer (some ⟨B, 0, none⟩)]] W fun e w' => e = .returned (.bool (xs.tail.any fun x => leS x s)) ∧ ∃ q, w' = W.drewN q := by
  have eg : ∀ args w, (callFunc 85 args).run Try.prog w = .ok (.enter 85 args) w := Go.Proofs.enters_of Try.func85 (by kernel_rfl) rfl
  have hl : xs.tail.length = xs.length - 1 := List.length_tail
  have h := AnyE.slices_ContainsFunc Try.laysCon Value.string (fun x => leS x s) 85 #[.pointer (some ⟨B, 0, none⟩)] eg g 1 (xs.length - 1) (cap - 1) xs.tail W
    (fun W' x hb => gives_pr s x B W' ((hb.cell (p := ⟨B, 0, none⟩) hB).trans hc)) (by omega) (by omega) (fun j hj => by
      have := hR.at_ (j + 1) (by omega)
      rw [Nat.add_comm 1 j, this]
      simp [List.getD_eq_getElem?_getD, List.getElem?_eq_getElem (show j + 1 < xs.length by omega), getElem!_pos, hj])
  rw [List.take_of_length_le (by omega)] at h
  exact h
open Go.Sort Go.Shelf in
theorem contE_any (a : Option Addr) (c : Nat) (fv : Value) (W : World) :
    Calls Try.prog 86 #[.slice a 0 c, fv] W fun e w' => e = .returned (.bool false) ∧ W = w' :=
  (AnyE.slices_ContainsFunc_empty Try.laysCon a c fv W).mono fun _ _ ⟨x, y⟩ => ⟨x, y.symm⟩
set_option maxRecDepth 100000 in
set_option maxHeartbeats 1600000 in
theorem isPrime_any (s : ByteArray) (w : World) (h1 : 1 ≤ s.size) (h8 : s.size ≤ 8) :
    Calls Try.prog 72 #[.string s] w fun e w' => e = .returned (.bool (isPr s)) ∧ Below w.heap.size w w' := by
  have hc0 : (w.alloc (.cells #[.string s] 9)).cell? ⟨w.heap.size, 0, none⟩ = some (.string s) := by simp [go_sem]
  have hf0 : (w.alloc (.cells #[.string s] 9)).frozen? ⟨w.heap.size, 0, none⟩ = false := by simp [go_sem]
  have hbl0 := bel_alloc (Below.refl _ w) (.cells #[.string s] 9)
  have hz0 : w.heap.size < (w.alloc (.cells #[.string s] 9)).heap.size := by simp
  have hl := trnL_len s s.size
  have hfin := Lib.hid (pr_any s h1)
  have Hc0 := Lib.hid hc0
  have Hf0 := Lib.hid hf0
  have Hz0 := Lib.hid hz0
  have Hl := Lib.hid hl
  clear hz0 hl
  go_enter Try.func72, Try.ntmps72
  go_wp2_with fail
  refine (turnsOf_any s _ h8).mono ?_
  rintro e w1 ⟨v, rfl, r1, b1⟩
  rcases r1.form with ⟨hx, _⟩ | ⟨hx, g, cap, rfl, hbg, hgl, hlc, hcm⟩
  · have := Hl.out
    rw [hx] at this
    simp at this
    omega
  · have hc1 := Lib.hid ((b1.cell (p := ⟨w.heap.size, 0, none⟩) Hz0.out).trans Hc0.out)
    have hz1 := Lib.hid (Nat.lt_of_lt_of_le Hz0.out b1.size)
    have hbl1 := bel_trans hbl0 b1
    have R1 := Lib.hid r1
    have hN8 : (trnL s s.size).length ≤ 8 := by have := Hl.out; omega
    unfold maxLen at hcm
    clear r1 hc0 hf0
    generalize hxs : trnL s s.size = xs at *
    clear hxs
    by_cases hcap : cap = 1
    · subst hcap
      have hx1 : xs.length = 1 := by omega
      have hfin2 : Hid (false = !isPr s) := by
        rw [show xs.tail = [] from List.length_eq_zero_iff.1 (by rw [List.length_tail]; omega)] at hfin
        exact hfin
      have hp : Hid (isPr s = true) := Lib.hid (by have := hfin2.out; simpa using this.symm)
      rw [hx1]
      clear hfin hx1 hlc
      go_wp2_with fail
      refine (contE_any _ _ _ _).mono ?_
      rintro e w2 ⟨rfl, rfl⟩
      go_wp2_with fail
      go_ret
      exact ⟨by rw [hp.out]; rfl, hbl1⟩
    · have R2 := R1
      generalize hN : xs.length = N at *
      have HN := Lib.hid hN
      clear hN
      go_wp2_with fail
      rw [← HN.out]
      refine (contT_any xs _ g cap s w.heap.size _ (by rw [HN.out]; exact R1.out) (by rw [HN.out]; omega) (by rw [HN.out]; omega) hz1.out hc1.out).mono ?_
      rintro e w2 ⟨rfl, q, rfl⟩
      rw [hfin.out, HN.out]
      go_wp2_with fail
      go_ret
      exact ⟨by simp, bel_drewN hbl1 q⟩
theorem woPrime_any (s : ByteArray) (w : World) (h1 : 1 ≤ s.size) (h8 : s.size ≤ 8) :
    Calls Try.prog 66 #[.string s] w fun e w' => e = .returned (.bool (isPr s)) ∧ Below w.heap.size w w' := by
  have hpr := pr_eq s h1
  by_cases hr : rtS s = s.size
  · rw [hpr, show decide (rtS s = s.size) = true from by simpa using hr, Bool.true_and]
    have hb := ba_bq (fstW s) s
    have Hr := Lib.hid hr
    clear hr hpr
    go_enter Try.func66, Try.ntmps66
    go_wp2_with fail
    refine (woRoot_any s _ h1 h8).mono ?_
    rw [Hr.out]
    rintro e w2 ⟨rfl, n, rfl⟩
    go_wp2_with fail
    refine (woFirst_any s _ h1 h8).mono ?_
    rintro e w3 ⟨rfl, n3, rfl⟩
    go_wp2_with fail
    go_ret
    exact ⟨rfl, bel_drewN (Below.refl _ _) _⟩
  · rw [hpr, show decide (rtS s = s.size) = false from by simpa using hr, Bool.false_and]
    have hi : ((rtS s : Int) == (s.size : Int)) = false := by simp; omega
    have hi2 : ¬ (rtS s : Int) = (s.size : Int) := by omega
    clear hpr
    go_enter Try.func66, Try.ntmps66
    go_wp2_with fail
    refine (woRoot_any s _ h1 h8).mono ?_
    rintro e w2 ⟨rfl, n, rfl⟩
    go_wp2_with fail
    go_ret
    exact ⟨rfl, bel_drewN (Below.refl _ _) _⟩
end Go.Proofs.Ytiblggfihpobkab
