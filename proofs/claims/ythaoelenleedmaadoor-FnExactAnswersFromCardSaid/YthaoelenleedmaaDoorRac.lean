/- Racers: the contracts of the functions that look at them. -/
import Derived.Test.YthaoelenleedmaaDoorSRow
import Derived.Test.YthaoelenleedmaaDoorOvl
import Derived.Lib.SlicesS
namespace Go.Proofs.YthaoelenleedmaaDoor
set_option linter.unusedSimpArgs false
open Go.ChangeShapes Go.WideShapes Go.ChangeAt Go.RowKit
set_option linter.unusedVariables false

abbrev noS : ByteArray := ByteArray.empty
def racG (s : ByteArray) : Bool := patG s && decide (s.size ≤ 5)
theorem rac_in {s : ByteArray} (h : racG s = true) : 1 ≤ s.size ∧ s.size ≤ 5 ∧ allT s = true := by
  unfold racG at h
  rw [Bool.and_eq_true, decide_eq_true_iff] at h
  obtain ⟨a, b, c⟩ := pat_in h.1
  exact ⟨a, h.2, c⟩
theorem le5 (s : ByteArray) : decide ((s.size : Int) ≤ 5) = decide (s.size ≤ 5) := by
  rw [decide_eq_decide]; omega
theorem isRacer_any (s : ByteArray) (w : World) (hs : s.size ≤ maxLen) :
    Calls Tryd.prog 31 #[.string s] w fun e w' => e = .returned (.bool (racG s)) ∧ Below w.heap.size w w' := by
  cases h1 : patG s
  · go_enter Tryd.func31, Tryd.ntmps31
    go_wp2_with fail
    refine (implIsPattern_any s _ hs).mono ?_
    rintro e w1 ⟨rfl, b1⟩
    rw [h1]
    go_wp2_with fail
    go_ret
    exact ⟨by unfold racG; rw [h1]; rfl, b1⟩
  · go_enter Tryd.func31, Tryd.ntmps31
    go_wp2_with fail
    refine (implIsPattern_any s _ hs).mono ?_
    rintro e w1 ⟨rfl, b1⟩
    rw [h1]
    go_wp2_with fail
    go_ret
    exact ⟨by unfold racG; rw [h1, ← le5]; rfl, b1⟩
theorem raPattern_any (s : ByteArray) (w : World) (hs : s.size ≤ maxLen) :
    Calls Tryd.prog 27 #[.string s] w fun e w' => e = .returned (.bool (racG s)) ∧ w = w' := by
  cases h1 : patG s
  · go_enter Tryd.func27, Tryd.ntmps27
    go_wp2_with fail
    refine (ptGood_any s _ hs).mono ?_
    rintro e w1 ⟨rfl, rfl⟩
    rw [h1]
    go_wp2_with fail
    go_ret
    exact ⟨by unfold racG; rw [h1]; rfl, rfl⟩
  · go_enter Tryd.func27, Tryd.ntmps27
    go_wp2_with fail
    refine (ptGood_any s _ hs).mono ?_
    rintro e w1 ⟨rfl, rfl⟩
    rw [h1]
    go_wp2_with fail
    go_ret
    exact ⟨by unfold racG; rw [h1, ← le5]; rfl, rfl⟩

/-- Two racers. -/
def twoG (a b : ByteArray) : Bool := racG a && (racG b && (decide (a.size = b.size) && !decide (a = b)))
theorem two_in {a b : ByteArray} (h : twoG a b = true) : racG a = true ∧ racG b = true ∧ a.size = b.size ∧ a ≠ b := by
  unfold twoG at h
  simp only [Bool.and_eq_true, decide_eq_true_iff, Bool.not_eq_true', decide_eq_false_iff_not] at h
  exact ⟨h.1, h.2.1, h.2.2.1, h.2.2.2⟩
/-- The k-th one of some texts is a racer, as long as the first one, and none of those ahead of it. -/
def okAt (xs : List ByteArray) (k : Nat) : Bool := racG (xs.getD k noS) && (decide ((xs.getD k noS).size = (xs.getD 0 noS).size) && !Lib.containsS (xs.take k) (xs.getD k noS))
def manyG (xs : List ByteArray) : Bool := inB xs.length 2 4 && (List.range xs.length).all (okAt xs)
theorem many_no {xs : List ByteArray} {k : Nat} (hk : k < xs.length) (h : okAt xs k = false) : manyG xs = false := by
  unfold manyG
  have : (List.range xs.length).all (okAt xs) = false := by
    rw [List.all_eq_false]
    exact ⟨k, by simpa using hk, by simp [h]⟩
  rw [this, Bool.and_false]
theorem many_yes {xs : List ByteArray} (hl : inB xs.length 2 4 = true) (h : ∀ k, k < xs.length → okAt xs k = true) : manyG xs = true := by
  unfold manyG
  rw [hl, Bool.true_and, List.all_eq_true]
  intro k hk
  exact h k (by simpa using hk)
theorem many_in {xs : List ByteArray} (h : manyG xs = true) : 2 ≤ xs.length ∧ xs.length ≤ 4 ∧ ∀ k, k < xs.length → okAt xs k = true := by
  unfold manyG at h
  rw [Bool.and_eq_true, List.all_eq_true] at h
  have := (inB_iff _ _ _).1 h.1
  exact ⟨by omega, by omega, fun k hk => h.2 k (by simpa using hk)⟩
theorem ok_step {xs : List ByteArray} {k : Nat} (h : ∀ j, j < k → okAt xs j = true) (h1 : okAt xs k = true) : ∀ j, j < k + 1 → okAt xs j = true := by
  intro j hj
  by_cases e : j = k
  · subst e; exact h1
  · exact h j (by omega)

theorem getD_mem {xs : List ByteArray} {k : Nat} (hk : k < xs.length) : xs.getD k noS ∈ xs := by
  rw [List.getD_eq_getElem?_getD, List.getElem?_eq_getElem hk]
  exact List.getElem_mem hk

end Go.Proofs.YthaoelenleedmaaDoor
