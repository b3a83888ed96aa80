/- Arrays of seventeen integers, rows of integers: their cells. -/
import Derived.Test.YtfogipdhipipfabSk
import Derived.Test.YtfogipdhipipfabWb
import Derived.Test.YtfogipdhipipfabArg
namespace Go.Proofs.Ytfogipdhipipfab
set_option linter.unusedSimpArgs false
open Go.ChangeShapes Go.WideShapes Go.ChangeAt Go.RowKit
set_option linter.unusedVariables false

def iN (N : Nat) (r : Nat → Int) : Array Value := ((List.range N).map fun i => Value.int .i64 (r i)).toArray
theorem iN_size (N : Nat) (r : Nat → Int) : (iN N r).size = N := by simp [iN]
theorem iN_get (N : Nat) (r : Nat → Int) (q : Nat) (h : q < N) : (iN N r)[q]? = some (.int .i64 (r q)) := by
  unfold iN
  rw [List.getElem?_toArray, List.getElem?_map, List.getElem?_range h]
  rfl
theorem iN_congr (N : Nat) {r s : Nat → Int} (h : ∀ q, q < N → r q = s q) : iN N r = iN N s := by
  unfold iN
  congr 1
  apply List.map_congr_left
  intro q hq
  rw [h q (by simpa using hq)]
theorem iN_set (N : Nat) (r s : Nat → Int) (x : Int) (q : Nat) (h : q < N) (hx : s q = x) (ho : ∀ i, i < N → i ≠ q → s i = r i) : (iN N r).setIfInBounds q (.int .i64 x) = iN N s := by
  apply Array.ext_getElem?
  intro i
  rw [Array.getElem?_setIfInBounds]
  by_cases e : q = i
  · subst e
    rw [if_pos rfl, if_pos (by rw [iN_size]; exact h), iN_get _ _ _ h, hx]
  · rw [if_neg e]
    by_cases hi : i < N
    · rw [iN_get _ _ _ hi, iN_get _ _ _ hi, ho i hi (fun e2 => e e2.symm)]
    · rw [Array.getElem?_eq_none (by rw [iN_size]; omega), Array.getElem?_eq_none (by rw [iN_size]; omega)]
theorem iN_one (N : Nat) (r : Nat → Int) : (iN N r).all (·.oneCell') = true := by
  rw [Array.all_eq_true]
  intro i hi
  rw [iN_size] at hi
  have := iN_get N r i hi
  rw [Array.getElem?_eq_getElem (by rw [iN_size]; exact hi)] at this
  rw [Option.some.inj this]
  rfl
abbrev noI : Nat → Int := fun _ => 0
theorem pu_info : (Try.prog.info? 64).map (·.size) = some 17 := by kernel_rfl
theorem pu_zero (w : World) : (zeroValue 64).run Try.prog w = .ok (.agg (iN 17 noI)) w := Try.zeroValue64 w
theorem cases17 {p : Nat → Prop} (h0 : p 0) (h1 : p 1) (h2 : p 2) (h3 : p 3) (h4 : p 4) (h5 : p 5) (h6 : p 6) (h7 : p 7) (h8 : p 8) (h9 : p 9) (ha : p 10) (hb : p 11) (hc : p 12) (hd : p 13) (he : p 14) (hf : p 15) (hg : p 16) : ∀ q, q < 17 → p q
  | 0, _ => h0 | 1, _ => h1 | 2, _ => h2 | 3, _ => h3 | 4, _ => h4 | 5, _ => h5 | 6, _ => h6 | 7, _ => h7 | 8, _ => h8
  | 9, _ => h9 | 10, _ => ha | 11, _ => hb | 12, _ => hc | 13, _ => hd | 14, _ => he | 15, _ => hf | 16, _ => hg
  | n + 17, h => absurd h (by omega)
theorem pu_idx (h : Nat → Int) (w : World) : ∀ i : Nat, i < 17 → (Instr.index 64 (.agg (iN 17 h)) (.int .i64 (i : Int))).run Try.prog w = .ok (.int .i64 (h i)) w := by
  apply cases17 <;> kernel_rfl
theorem bel_alloc2 {C : Nat} {w W : World} (h : Below C w W) (hC : C ≤ w.heap.size) (o : Obj) : Below C w (W.alloc o) := Below.alloc h (Nat.le_trans hC h.size) o

def rowF (n : Nat) (f : Nat → Int) : List Int := (List.range (n + 1)).map f
theorem rowF_len (n : Nat) (f : Nat → Int) : (rowF n f).length = n + 1 := by simp [rowF]
theorem rowF_at (n : Nat) (f : Nat → Int) (k : Nat) (hk : k ≤ n) : (rowF n f).getD k 0 = f k := by
  unfold rowF
  rw [List.getD_eq_getElem?_getD, List.getElem?_map, List.getElem?_range (by omega)]
  rfl
theorem rowF_set (n : Nat) (f g : Nat → Int) (k : Nat) (x : Int) (hx : g k = x) (ho : ∀ i, i ≤ n → i ≠ k → g i = f i) : (rowF n f).set k x = rowF n g := by
  apply List.ext_getElem
  · simp [rowF]
  · intro j h1 h2
    have hj : j < n + 1 := by simpa [rowF] using h2
    rw [List.getElem_set]
    by_cases e : k = j
    · subst e
      rw [if_pos rfl]
      simp [rowF, hx]
    · rw [if_neg e]
      simp [rowF, ho j (by omega) (fun q => e q.symm)]
theorem rowF_zero (n : Nat) : rowF n (fun _ => 0) = List.replicate (n + 1) 0 := by
  unfold rowF
  simp [List.map_const']
theorem rowF_cell {w : World} {b g cap n : Nat} {f : Nat → Int} (h : IRow w b (.slice (some ⟨g, 0, none⟩) (n + 1) cap) (rowF n f)) (k : Nat) (hk : k ≤ n) :
    w.cell? ⟨g, k, none⟩ = some (.int .i64 (f k)) ∧ w.frozen? ⟨g, k, none⟩ = false := by
  have hl := rowF_len n f
  rw [← hl] at h
  have c := h.at_ k (by omega)
  rw [rowF_at n f k hk] at c
  exact ⟨c, World.ownsRow.frozenAt h k⟩
theorem rowF_store {w : World} {b g cap n : Nat} {f : Nat → Int} (h : IRow w b (.slice (some ⟨g, 0, none⟩) (n + 1) cap) (rowF n f)) (k : Nat) (x : Int) (f' : Nat → Int) (hx : f' k = x) (ho : ∀ i, i ≤ n → i ≠ k → f' i = f i) :
    IRow (w.setCell ⟨g, k, none⟩ (.int .i64 x)) b (.slice (some ⟨g, 0, none⟩) (n + 1) cap) (rowF n f') ∧ w.grownBy (w.setCell ⟨g, k, none⟩ (.int .i64 x)) (some g) := by
  have hl := rowF_len n f
  rw [← hl] at h
  obtain ⟨a, c⟩ := h.store k x
  rw [rowF_set n f f' k x hx ho, hl] at a
  exact ⟨a, c⟩

/-- An array that was made when wa was, and what is below as it was. -/
def PuN (wa : World) (G : Nat → Int) (wr : World) : Prop := wr.heap[wa.heap.size]? = some (.cells (iN 17 G) 64) ∧ Below wa.heap.size wa wr
theorem PuN.start (wa : World) : PuN wa noI (wa.alloc (.cells (iN 17 noI) 64)) := ⟨heap_alloc_new wa _, bel_alloc (Below.refl _ wa) _⟩
theorem PuN.set {wa wr : World} {G G' : Nat → Int} (h : PuN wa G wr) (q : Nat) (hq : q < 17) (x : Int) (hx : G' q = x) (ho : ∀ i, i < 17 → i ≠ q → G' i = G i) : PuN wa G' (wr.setCell ⟨wa.heap.size, q, none⟩ (.int .i64 x)) :=
  ⟨by rw [set_heap h.1, iN_set 17 G G' x q hq hx ho], h.2.setCell (Nat.le_refl _) _⟩
theorem PuN.cells {wa wr : World} {G : Nat → Int} (h : PuN wa G wr) (q : Nat) (hq : q < 17) : wr.cell? ⟨wa.heap.size, q, none⟩ = some (.int .i64 (G q)) ∧ wr.frozen? ⟨wa.heap.size, q, none⟩ = false :=
  ⟨cell_heap h.1 (iN_get 17 G q hq), froz_heap h.1⟩
theorem PuN.drewN {wa wr : World} {G : Nat → Int} (h : PuN wa G wr) (n : Nat) : PuN wa G (wr.drewN n) := ⟨h.1, bel_drewN h.2 n⟩
end Go.Proofs.Ytfogipdhipipfab
