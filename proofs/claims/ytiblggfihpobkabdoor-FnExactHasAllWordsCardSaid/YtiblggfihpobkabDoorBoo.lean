/- Arrays of three hundred truths: their cells, and when two are the same. -/
import Derived.Test.YtiblggfihpobkabDoorWoP
import Derived.Deep.WholeRow
import Derived.DeepKeys
namespace Go.Proofs.YtiblggfihpobkabDoor
set_option linter.unusedSimpArgs false
open Go.ChangeShapes Go.WideShapes Go.ChangeAt Go.RowKit
set_option linter.unusedVariables false

def bN (N : Nat) (r : Nat → Bool) : Array Value := ((List.range N).map fun i => Value.bool (r i)).toArray
def bC (r : Nat → Bool) : Array Value := bN 300 r
theorem bN_list (N : Nat) (r : Nat → Bool) : (bN N r).toList = (List.range N).map fun i => Value.bool (r i) := rfl
theorem bN_size (N : Nat) (r : Nat → Bool) : (bN N r).size = N := by simp [bN]
theorem bN_get (N : Nat) (r : Nat → Bool) (q : Nat) (h : q < N) : (bN N r)[q]? = some (.bool (r q)) := by
  unfold bN
  rw [List.getElem?_toArray, List.getElem?_map, List.getElem?_range h]
  rfl
theorem bC_size (r : Nat → Bool) : (bC r).size = 300 := bN_size 300 r
theorem bC_get (r : Nat → Bool) (q : Nat) (h : q < 300) : (bC r)[q]? = some (.bool (r q)) := bN_get 300 r q h
def updW (r : Nat → Bool) (q : Nat) (x : Bool) : Nat → Bool := fun p => if p = q then x else r p
theorem bC_set (r : Nat → Bool) (x : Bool) (q : Nat) (h : q < 300) : (bC r).setIfInBounds q (.bool x) = bC (updW r q x) := by
  apply Array.ext_getElem?
  intro i
  rw [Array.getElem?_setIfInBounds]
  by_cases e : q = i
  · subst e
    rw [if_pos rfl, if_pos (by rw [bC_size]; exact h), bC_get _ _ h]
    simp [updW]
  · rw [if_neg e]
    by_cases hi : i < 300
    · rw [bC_get _ _ hi, bC_get _ _ hi]
      unfold updW
      rw [if_neg (by omega)]
    · rw [Array.getElem?_eq_none (by rw [bC_size]; omega), Array.getElem?_eq_none (by rw [bC_size]; omega)]
theorem bC_one (r : Nat → Bool) : (bC r).all (·.oneCell') = true := by
  rw [Array.all_eq_true]
  intro i hi
  rw [bC_size] at hi
  have := bC_get r i hi
  rw [Array.getElem?_eq_getElem (by rw [bC_size]; exact hi)] at this
  rw [Option.some.inj this]
  rfl
def noW : Nat → Bool := fun _ => false
theorem bN_zero (N : Nat) : Array.replicate N (Value.bool false) = bN N noW := by
  apply Array.ext_getElem?
  intro i
  by_cases hi : i < N
  · rw [bN_get _ _ _ hi]
    simp [noW, hi]
  · rw [Array.getElem?_eq_none (by simp; omega), Array.getElem?_eq_none (by rw [bN_size]; omega)]
theorem bC_zero : (Value.agg (Array.replicate 300 (.bool false))) = .agg (bC noW) := congrArg Value.agg (bN_zero 300)
theorem boo_info : (Tryd.prog.info? 52).map (·.size) = some 300 := by kernel_rfl
theorem boo_under : Tryd.prog.underlying 52 = some (.array 300 4) := Tryd.underlying52
theorem boo_key : Tryd.prog.keyTypeAt 2 52 = true := by kernel_rfl
theorem boo_cells : Tryd.prog.cellsOf 52 = 300 := by kernel_rfl
theorem bool_cells : Tryd.prog.cellsOf 4 = 1 := by kernel_rfl
theorem mapM_some {α β : Type} (f : α → Option β) (g : α → β) : ∀ l : List α, (∀ x ∈ l, f x = some (g x)) → l.mapM f = some (l.map g)
  | [], _ => rfl
  | a :: l, h => by
    rw [List.mapM_cons, h a (by simp), mapM_some f g l (fun x hx => h x (by simp [hx]))]
    rfl
theorem flat_one {α β : Type} (f : α → β) : ∀ l : List α, (l.map fun i => [f i]).flatten = l.map f
  | [] => rfl
  | a :: l => by rw [List.map_cons, List.flatten_cons, flat_one f l]; rfl
theorem drop_one (N : Nat) (r : Nat → Bool) (i : Nat) (hi : i < N) : ((bN N r).toList.drop (i * 1)).take 1 = [.bool (r i)] := by
  rw [bN_list, Nat.mul_one, List.drop_eq_getElem_cons (by simpa using hi)]
  simp
theorem lits_any (N : Nat) (r : Nat → Bool) (hu : Tryd.prog.underlying 52 = some (.array N 4)) (hc : N = Tryd.prog.cellsOf 52) :
    Tryd.prog.keyLits 2 52 (bN N r).toList = some ((List.range N).map fun i => Lit.bool (r i)) := by
  unfold Program.keyLits
  rw [hu]
  simp only
  rw [if_pos (by rw [← hc, bN_list]; simp), bool_cells]
  rw [mapM_some _ (fun i => [Lit.bool (r i)]) (List.range N)]
  · rw [Option.map_some, flat_one]
  · intro i hi
    rw [drop_one N r i (List.mem_range.1 hi)]
    unfold Program.keyLits
    rw [Tryd.underlying4]
theorem boo_lits (r : Nat → Bool) : Tryd.prog.keyLits 2 52 (bC r).toList = some ((List.range 300).map fun i => Lit.bool (r i)) := lits_any 300 r boo_under boo_cells.symm
/-- Whether the first N truths are the same. -/
def sameW (r s : Nat → Bool) : Bool := (List.range 300).all fun i => r i == s i
theorem sameW_iff (r s : Nat → Bool) : sameW r s = true ↔ ((List.range 300).map fun i => Lit.bool (r i)) = (List.range 300).map fun i => Lit.bool (s i) := by
  unfold sameW
  rw [List.all_eq_true, List.map_inj_left]
  constructor
  · intro h i hi
    have := h i hi
    rw [eq_of_beq this]
  · intro h i hi
    have := h i hi
    rw [Lit.bool.inj this]
    simp
theorem boo_formed (r : Nat → Bool) : (Value.agg (bC r)).formed Tryd.prog 52 = true := by
  unfold Value.formed
  rw [boo_under]
  show ((bC r).size == _) = true
  rw [boo_cells, bC_size]
  rfl
theorem boo_equal (r s : Nat → Bool) (w : World) : (Op.equalIn 10000 52 (.agg (bC r)) (.agg (bC s))).run Tryd.prog w = .ok (sameW r s) w := by
  obtain ⟨b, hb, hi⟩ := run_equalIn_deep (P := Tryd.prog) 9998 2 52 boo_key w 2 2 (.agg (bC r)) (.agg (bC s)) _ _ (boo_formed r) (boo_formed s) (boo_lits r) (boo_lits s)
  have e : b = sameW r s := by rw [Bool.eq_iff_iff, hi, sameW_iff]
  rw [hb, e]
end Go.Proofs.YtiblggfihpobkabDoor
