/- Arrays of integers: their cells. -/
import Derived.Test.YtjfcpbedmdnjcabDoorArg
import Derived.Test.YtjfcpbedmdnjcabDoorCtP
import Derived.Deep.MidRow
namespace Go.Proofs.YtjfcpbedmdnjcabDoor
set_option linter.unusedSimpArgs false
open Go.ChangeShapes Go.WideShapes Go.ChangeAt Go.RowKit
set_option linter.unusedVariables false

def iN (N : Nat) (r : Nat → Int) : Array Value := ((List.range N).map fun i => Value.int .i64 (r i)).toArray
theorem iN_size (N : Nat) (r : Nat → Int) : (iN N r).size = N := by simp [iN]
theorem iN_get (N : Nat) (r : Nat → Int) (q : Nat) (h : q < N) : (iN N r)[q]? = some (.int .i64 (r q)) := by
  unfold iN
  rw [List.getElem?_toArray, List.getElem?_map, List.getElem?_range h]
  rfl
theorem iN_congr (N : Nat) {r s : Nat → Int} (h : ∀ q, q < N → r q = s q) : iN N r = iN N s := by
  unfold iN
  congr 1
  apply List.map_congr_left
  intro q hq
  rw [h q (by simpa using hq)]
theorem iN_set (N : Nat) (r s : Nat → Int) (x : Int) (q : Nat) (h : q < N) (hx : s q = x) (ho : ∀ i, i < N → i ≠ q → s i = r i) : (iN N r).setIfInBounds q (.int .i64 x) = iN N s := by
  apply Array.ext_getElem?
  intro i
  rw [Array.getElem?_setIfInBounds]
  by_cases e : q = i
  · subst e
    rw [if_pos rfl, if_pos (by rw [iN_size]; exact h), iN_get _ _ _ h, hx]
  · rw [if_neg e]
    by_cases hi : i < N
    · rw [iN_get _ _ _ hi, iN_get _ _ _ hi, ho i hi (fun e2 => e e2.symm)]
    · rw [Array.getElem?_eq_none (by rw [iN_size]; omega), Array.getElem?_eq_none (by rw [iN_size]; omega)]
theorem iN_one (N : Nat) (r : Nat → Int) : (iN N r).all (·.oneCell') = true := by
  rw [Array.all_eq_true]
  intro i hi
  rw [iN_size] at hi
  have := iN_get N r i hi
  rw [Array.getElem?_eq_getElem (by rw [iN_size]; exact hi)] at this
  rw [Option.some.inj this]
  rfl
abbrev noI : Nat → Int := fun _ => 0
theorem end_info : (Tryd.prog.info? 67).map (·.size) = some 9 := by kernel_rfl
theorem led_info : (Tryd.prog.info? 84).map (·.size) = some 72 := by kernel_rfl
theorem end_zero (w : World) : (zeroValue 67).run Tryd.prog w = .ok (.agg (iN 9 noI)) w := Tryd.zeroValue67 w
theorem led_zero (w : World) : (zeroValue 84).run Tryd.prog w = .ok (.agg (iN 72 noI)) w := Tryd.zeroValue84 w
theorem end_built : Tryd.prog.built 67 [(0, .int .i64 1)] = some (iN 9 fun j => if j = 0 then 1 else 0) := by kernel_rfl
/-- Of the numbers of letters that lead on, those of the first h numbers, and of the next one of the first k letters. -/
def ldG (s : ByteArray) (n h k : Nat) (q : Nat) : Int := if q / 9 < h then ctC s (q / 9) (q % 9) n else if q / 9 = h then ctC s h (q % 9) k else 0
theorem ldG_zero (s : ByteArray) (n : Nat) : ldG s n 0 0 = noI := by
  funext q
  unfold ldG
  rw [if_neg (by omega)]
  split <;> rfl
theorem ldG_row (s : ByteArray) (n h : Nat) : ldG s n h n = ldG s n (h + 1) 0 := by
  funext q
  unfold ldG
  by_cases a : q / 9 < h
  · rw [if_pos a, if_pos (by omega)]
  · rw [if_neg a]
    by_cases b : q / 9 = h
    · rw [if_pos b, if_pos (by omega), b]
    · rw [if_neg b, if_neg (by omega)]
      split <;> rfl
theorem ldG_at (s : ByteArray) (n h k j : Nat) (hj : j < 9) : ldG s n h k (h * 9 + j) = ctC s h j k := by
  have a : (h * 9 + j) / 9 = h := by omega
  have b : (h * 9 + j) % 9 = j := by omega
  unfold ldG
  rw [a, b, if_neg (Nat.lt_irrefl _), if_pos rfl]
theorem ldG_next (s : ByteArray) (n h k : Nat) (hg : ctG s h k < 9) (i : Nat) (hi : i ≠ h * 9 + ctG s h k) : ldG s n h (k + 1) i = ldG s n h k i := by
  unfold ldG
  by_cases a : i / 9 < h
  · rw [if_pos a, if_pos a]
  · rw [if_neg a, if_neg a]
    by_cases b : i / 9 = h
    · rw [if_pos b, if_pos b, ctC_no (by omega)]
    · rw [if_neg b, if_neg b]
theorem ldG_all (s : ByteArray) (n h j : Nat) (hh : h < s.size) (hj : j < 9) : ldG s n s.size 0 (h * 9 + j) = ctC s h j n := by
  have a : (h * 9 + j) / 9 = h := by omega
  have b : (h * 9 + j) % 9 = j := by omega
  unfold ldG
  rw [a, b, if_pos hh]
theorem bel_alloc2 {C : Nat} {w W : World} (h : Below C w W) (hC : C ≤ w.heap.size) (o : Obj) : Below C w (W.alloc o) := Below.alloc h (Nat.le_trans hC h.size) o
end Go.Proofs.YtjfcpbedmdnjcabDoor
