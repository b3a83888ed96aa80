/- Fair tosses by pairs: the contracts of the program and of its model. -/
import Derived.Test.YtnpghbbmhehnlaaDoorFrT
import Derived.Test.YtnpghbbmhehnlaaDoorByt
namespace Go.Proofs.YtnpghbbmhehnlaaDoor
open Go.ChangeShapes Go.WideShapes Go.ChangeAt Go.RowKit
set_option linter.unusedVariables false

def sgn (t : ByteArray) (k : Nat) : UInt8 := t.data.toList.getD k 0
/-- Both of a pair are the same. -/
def eqP (t : ByteArray) (k : Nat) : Bool := sgn t (2 * k) == sgn t (2 * k + 1)
/-- The fair tosses of the first k pairs, which of them differ, and what the others are. -/
def fF (t : ByteArray) : Nat → List UInt8
  | 0 => []
  | k + 1 => if eqP t k then fF t k else fF t k ++ [sgn t (2 * k)]
def fD (t : ByteArray) : Nat → List UInt8
  | 0 => []
  | k + 1 => fD t k ++ [if eqP t k then 116 else 104]
def fS (t : ByteArray) : Nat → List UInt8
  | 0 => []
  | k + 1 => if eqP t k then fS t k ++ [sgn t (2 * k + 1)] else fS t k
theorem fF_len (t : ByteArray) : ∀ k, (fF t k).length ≤ k
  | 0 => by simp [fF]
  | k + 1 => by have := fF_len t k; unfold fF; split <;> simp <;> omega
theorem fD_len (t : ByteArray) : ∀ k, (fD t k).length = k
  | 0 => by simp [fD]
  | k + 1 => by have := fD_len t k; unfold fD; simp; omega
theorem fS_len (t : ByteArray) : ∀ k, (fS t k).length ≤ k
  | 0 => by simp [fS]
  | k + 1 => by have := fS_len t k; unfold fS; split <;> simp <;> omega
def bs (l : List UInt8) : ByteArray := ⟨l.toArray⟩
theorem bs_append (a b : List UInt8) : bs a ++ bs b = bs (a ++ b) := by
  rw [ba_eq]
  simp [bs]
theorem bs_size (a : List UInt8) : (bs a).size = a.length := by simp [bs, ByteArray.size]
theorem sgn_at (t : ByteArray) (k : Nat) (hk : k < t.size) : sgn t k = t[k] := by
  unfold sgn
  rw [List.getD_eq_getElem?_getD, List.getElem?_eq_getElem (by simpa using hk)]
  rfl
theorem ext_one (t : ByteArray) (k : Nat) (hk : k < t.size) : t.extract k (k + 1) = bs [sgn t k] := by
  rw [ba_eq, ext_list]
  have hl : k < t.data.toList.length := by simpa using hk
  rw [List.take_add_one, List.drop_append_of_le_length (by simp; omega), List.drop_take_self, List.getElem?_eq_getElem hl]
  unfold sgn
  rw [List.getD_eq_getElem?_getD, List.getElem?_eq_getElem hl]
  rfl
theorem eqP_ne {t : ByteArray} {k : Nat} (hk : 2 * k + 1 < t.size) (h : eqP t k = false) : (((t[2 * k]'(by omega)).toNat : Int) != ((t[2 * k + 1]'hk).toNat : Int)) = true := by
  unfold eqP at h
  rw [sgn_at t _ (by omega), sgn_at t _ hk] at h
  simp at h ⊢
  intro e
  exact h (UInt8.toNat.inj (by omega))
theorem eqP_eq {t : ByteArray} {k : Nat} (hk : 2 * k + 1 < t.size) (h : eqP t k = true) : ((t[2 * k]'(by omega)).toNat : Int) = ((t[2 * k + 1]'hk).toNat : Int) := by
  unfold eqP at h
  rw [sgn_at t _ (by omega), sgn_at t _ hk] at h
  simp at h
  rw [h]

def ansPr (t : ByteArray) : Value := .tuple #[.string (bs (fF t (t.size / 2))), .string (bs (fD t (t.size / 2))), .string (bs (fS t (t.size / 2)))]

set_option maxHeartbeats 800000 in
theorem frPairs_any (t : ByteArray) (w : World) (hs : t.size ≤ 200) :
    Calls Tryd.prog 24 #[.string t] w fun e w' => e = .returned (ansPr t) ∧ ∃ n, w' = w.drewN n := by
  unfold ansPr
  go_enter Tryd.func24, Tryd.ntmps24
  go_wp2
  go_loopw [5, 6, 7, 8] (fun f d s i wr => ∃ k j : Nat, Hid (j = 2 * k) ∧ j ≤ t.size ∧ i = .int .i64 ((j : Int) + 1) ∧ f = .string (bs (fF t k)) ∧ d = .string (bs (fD t k)) ∧ s = .string (bs (fS t k)) ∧ ∃ n, wr = w.drewN n) (fun _ _ _ i _ => t.size + 1 - (intOf i).toNat)
  case atStart => exact ⟨0, 0, rfl, by omega, rfl, rfl, rfl, rfl, 0, rfl⟩
  case round =>
    obtain ⟨k, j, Hj, hj, rfl, rfl, rfl, rfl, n, rfl⟩ := hrel
    have hw0 : IntKind.i64.wrap (j : Int) = j := IntWalk.i64_in _ (by omega)
    have hw1 : IntKind.i64.wrap ((j : Int) + 1 - 1) = j := by rw [Int.add_sub_cancel]; exact hw0
    have hn1 : ((j : Int) + 1).toNat = j + 1 := by omega
    have hn0 : 0 ≤ (j : Int) + 1 := by omega
    by_cases hlt : j + 1 < t.size
    · have hl2 : (j : Int) + 1 < (t.size : Int) := by omega
      have hl3 : j < t.size := by omega
      have zF : ¬ 9223372036854775807 < (bs (fF t k)).size + (min (j + 1) t.size - j) := by rw [bs_size]; have := fF_len t k; have := Hj.out; omega
      have zD : ¬ 9223372036854775807 < (bs (fD t k)).size + 1 := by rw [bs_size, fD_len]; have := Hj.out; omega
      have zS : ¬ 9223372036854775807 < (bs (fS t k)).size + (min (j + 1 + 1) t.size - (j + 1)) := by rw [bs_size]; have := fS_len t k; have := Hj.out; omega
      have eD : Hid (∀ c : UInt8, bs (fD t k) ++ { data := #[c] } = bs (fD t k ++ [c])) := Lib.hid fun c => bs_append _ [c]
      cases hq : eqP t k with
      | false =>
        have hne : ((t[j].toNat : Int) != (t[j + 1].toNat : Int)) = true := by
          have := Hj.out; subst this; exact eqP_ne hlt hq
        have HF : Hid (bs (fF t k) ++ t.extract j (j + 1) = bs (fF t (k + 1))) := by
          refine Lib.hid ?_
          rw [ext_one t j hl3, bs_append, Hj.out]; simp [fF, hq]
        have HD : Hid (fD t k ++ [104] = fD t (k + 1)) := by refine Lib.hid ?_; simp [fD, hq]
        have HS : Hid (fS t k = fS t (k + 1)) := by refine Lib.hid ?_; simp [fS, hq]
        clear hq
        go_wp2_with fail
        go_quiet (fail)
        go_wp2_with fail
        exact ⟨⟨k + 1, j + 2, by rw [Hj.out]; exact Lib.hid (by omega), by omega, by go_num, by rw [HF.out], by rw [eD.out, HD.out], by rw [HS.out], n + nq, rfl⟩, by simp [intOf]; omega⟩
      | true =>
        have hne : ((t[j].toNat : Int) != (t[j + 1].toNat : Int)) = false := by
          have := Hj.out; subst this; have := eqP_eq hlt hq; simp [this]
        have HF : Hid (fF t k = fF t (k + 1)) := by refine Lib.hid ?_; simp [fF, hq]
        have HD : Hid (fD t k ++ [116] = fD t (k + 1)) := by refine Lib.hid ?_; simp [fD, hq]
        have HS : Hid (bs (fS t k) ++ t.extract (j + 1) (j + 1 + 1) = bs (fS t (k + 1))) := by
          refine Lib.hid ?_
          rw [ext_one t (j + 1) hlt, bs_append, Hj.out]; simp [fS, hq]
        clear hq
        go_wp2_with fail
        go_quiet (fail)
        go_wp2_with fail
        exact ⟨⟨k + 1, j + 2, by rw [Hj.out]; exact Lib.hid (by omega), by omega, by go_num, by rw [HF.out], by rw [eD.out, HD.out], by rw [HS.out], n + nq, rfl⟩, by simp [intOf]; omega⟩
    · have hl2 : ¬ (j : Int) + 1 < (t.size : Int) := by omega
      have hk : t.size / 2 = k := by have := Hj.out; omega
      have Hk := Lib.hid hk
      clear hk
      go_wp2
      go_ret3
      exact ⟨by rw [Hk.out]; rfl, n, rfl⟩

set_option maxHeartbeats 1600000 in
theorem byPairs_any (t : ByteArray) (w : World) (hs : t.size ≤ 200) :
    Calls Tryd.prog 25 #[.string t] w fun e w' => e = .returned (ansPr t) ∧ Below w.heap.size w w' := by
  unfold ansPr
  go_enter Tryd.func25, Tryd.ntmps25
  go_wp2
  go_loopw [5, 6, 7, 8] (fun f d s i wr => ∃ k j : Nat, Hid (j = 2 * k) ∧ j ≤ t.size ∧ i = .int .i64 ((j : Int) + 1) ∧ Hid (B3 wr w.heap.size f (fF t k) d (fD t k) s (fS t k)) ∧ Below w.heap.size w wr) (fun _ _ _ i _ => t.size + 1 - (intOf i).toNat)
  case atStart => exact ⟨0, 0, rfl, by omega, rfl, Lib.hid (B3.nil _ _), Below.refl _ _⟩
  case round =>
    obtain ⟨k, j, Hj, hj, rfl, hB, hb⟩ := hrel
    have hw0 : IntKind.i64.wrap (j : Int) = j := IntWalk.i64_in _ (by omega)
    have hw1 : IntKind.i64.wrap ((j : Int) + 1 - 1) = j := by rw [Int.add_sub_cancel]; exact hw0
    have hn1 : ((j : Int) + 1).toNat = j + 1 := by omega
    have hn0 : 0 ≤ (j : Int) + 1 := by omega
    have hsa := Lib.hid hb.size
    have lF : (fF t k).length ≤ 1000000 := by have := fF_len t k; have := Hj.out; omega
    have lD : (fD t k).length ≤ 1000000 := by rw [fD_len]; have := Hj.out; omega
    have lS : (fS t k).length ≤ 1000000 := by have := fS_len t k; have := Hj.out; omega
    by_cases hlt : j + 1 < t.size
    · have hl2 : (j : Int) + 1 < (t.size : Int) := by omega
      have hl3 : j < t.size := by omega
      cases hq : eqP t k with
      | false =>
        have hne : ((t[j].toNat : Int) != (t[j + 1].toNat : Int)) = true := by
          have := Hj.out; subst this; exact eqP_ne hlt hq
        have HF : Hid (fF t k ++ [t[j]] = fF t (k + 1)) := by
          refine Lib.hid ?_
          rw [← sgn_at t j hl3, Hj.out]; simp [fF, hq]
        have HD : Hid (fD t k ++ [104] = fD t (k + 1)) := by refine Lib.hid ?_; simp [fD, hq]
        have HS : Hid (fS t k = fS t (k + 1)) := by refine Lib.hid ?_; simp [fS, hq]
        clear hq
        go_wp2_with fail
        go_quiet (fail)
        go_wp2_with (at_builtin; refine wpList_pushB rfl (.tmp 23) (.tmp 28) rfl w.heap.size _ _ _ _ _ _ (hB.out.drewN nq) lF hsa.out t[j] rfl rfl ?_)
        intro v1 w1 hB1 hb1
        have hs1 := Lib.hid (Nat.le_trans hsa.out hb1.size)
        go_wp2_with (at_builtin; refine wpList_pushC rfl (.tmp 30) (.const (.string ⟨#[104]⟩)) rfl w.heap.size _ _ _ _ _ _ hB1.rot lD hs1.out 104 rfl rfl ?_)
        intro v2 w2 hB2 hb2
        go_wp2_with fail
        exact ⟨⟨k + 1, j + 2, by rw [Hj.out]; exact Lib.hid (by omega), by omega, by go_num, by rw [← HF.out, ← HD.out, ← HS.out]; exact Lib.hid hB2.rot.rot, ((bel_drewN hb nq).trans hb1).trans hb2⟩, by simp [intOf]; omega⟩
      | true =>
        have hne : ((t[j].toNat : Int) != (t[j + 1].toNat : Int)) = false := by
          have := Hj.out; subst this; have := eqP_eq hlt hq; simp [this]
        have HF : Hid (fF t k = fF t (k + 1)) := by refine Lib.hid ?_; simp [fF, hq]
        have HD : Hid (fD t k ++ [116] = fD t (k + 1)) := by refine Lib.hid ?_; simp [fD, hq]
        have HS : Hid (fS t k ++ [t[j + 1]] = fS t (k + 1)) := by
          refine Lib.hid ?_
          rw [← sgn_at t (j + 1) hlt, Hj.out]; simp [fS, hq]
        clear hq
        go_wp2_with fail
        go_quiet (fail)
        go_wp2_with (at_builtin; refine wpList_pushC rfl (.tmp 32) (.const (.string ⟨#[116]⟩)) rfl w.heap.size _ _ _ _ _ _ (hB.out.drewN nq).rot lD hsa.out 116 rfl rfl ?_)
        intro v1 w1 hB1 hb1
        have hs1 := Lib.hid (Nat.le_trans hsa.out hb1.size)
        go_wp2_with (at_builtin; refine wpList_pushB rfl (.tmp 34) (.tmp 38) rfl w.heap.size _ _ _ _ _ _ hB1.rot lS hs1.out t[j + 1] rfl rfl ?_)
        intro v2 w2 hB2 hb2
        go_wp2_with fail
        exact ⟨⟨k + 1, j + 2, by rw [Hj.out]; exact Lib.hid (by omega), by omega, by go_num, by rw [← HF.out, ← HD.out, ← HS.out]; exact Lib.hid hB2.rot, ((bel_drewN hb nq).trans hb1).trans hb2⟩, by simp [intOf]; omega⟩
    · have hl2 : ¬ (j : Int) + 1 < (t.size : Int) := by omega
      have hk : t.size / 2 = k := by have := Hj.out; omega
      have Hk := Lib.hid hk
      clear hk
      have tF := hB.out.1.text
      have tD := hB.out.2.1.text
      have tS := hB.out.2.2.1.text
      go_wp2_with fail
      go_quiet (fail)
      go_wp2_with fail
      go_ret3
      exact ⟨by rw [Hk.out]; rfl, bel_drewN hb nq⟩
end Go.Proofs.YtnpghbbmhehnlaaDoor
