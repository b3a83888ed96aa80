/- The model's numerators behind so many steps, by chances or by ones. -/
import Derived.Test.YthmdkbeccohjkaaAfter
namespace Go.Proofs.Ythmdkbeccohjkaa
set_option linter.unusedSimpArgs false
open Go.ChangeShapes Go.WideShapes Go.ChangeAt Go.RowKit
set_option linter.unusedVariables false

def rowL (h : Nat → Int) (n : Nat) : List Int := (List.range n).map h
theorem rowL_len (h : Nat → Int) (n : Nat) : (rowL h n).length = n := by simp [rowL]
theorem rowL_get (h : Nat → Int) {n k : Nat} (hk : k < n) : (rowL h n).getD k 0 = h k := getD_map_range h n k 0 hk
theorem rowL_set (h : Nat → Int) (n k : Nat) (x : Int) : (rowL h n).set k x = rowL (upd h k x) n := by
  apply List.ext_getElem
  · simp [rowL]
  · intro j h1 h2
    simp only [List.getElem_set, rowL, List.getElem_map, List.getElem_range, upd]
    by_cases e : k = j
    · subst e; simp
    · rw [if_neg e, if_neg (fun e' => e e'.symm)]
theorem rowL_zer (n : Nat) : rowL zer n = List.replicate n 0 := by
  apply List.ext_getElem
  · simp [rowL]
  · intro j h1 h2; simp [rowL, zer]
theorem rowL_congr {h h' : Nat → Int} {n : Nat} (e : ∀ q, q < n → h q = h' q) : rowL h n = rowL h' n := by
  unfold rowL
  apply List.map_congr_left
  intro q hq
  exact e q (List.mem_range.1 hq)

/-- The sign of a number. -/
def sig (x : Int) : Int := if 0 < x then 1 else if x < 0 then -1 else 0
/-- The chances that are summed up: those of m, or ones. -/
def wayM (ways : Bool) (m : List (List Int)) (i j : Nat) : Int := if ways then sig (atM m i j) else atM m i j
theorem wayM_in {lim : Int} {m : List (List Int)} (h : Good lim m) (ways : Bool) (i j : Nat) : 0 ≤ wayM ways m i j ∧ wayM ways m i j ≤ 10 := by
  obtain ⟨a, b⟩ := h.num i j
  have := h.hi
  unfold wayM sig
  cases ways
  · exact ⟨a, by simp; omega⟩
  · simp
    split
    · omega
    · split <;> omega
theorem aftL0 (f : Nat → Nat → Int) (n frm : Nat) : (List.replicate n (0 : Int)).set frm 1 = rowL (aft f n frm 0) n := by
  rw [← rowL_zer, rowL_set]
  apply rowL_congr
  intro q _
  simp [upd, aft, zer]

end Go.Proofs.Ythmdkbeccohjkaa
