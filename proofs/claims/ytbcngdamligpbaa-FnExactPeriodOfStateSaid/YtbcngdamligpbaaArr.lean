/- Laws for variables of an array's or a struct's type that are made, written and read whole, their cells being whatever: nothing is unrolled. -/
import Derived.Test.YtbcngdamligpbaaSaG
import Derived.Laws.Tables
import Derived.Laws.Rows
import Derived.Deep.WholeRow
namespace Go.Proofs.Ytbcngdamligpbaa
set_option linter.unusedSimpArgs false
open Go.ChangeShapes Go.WideShapes Go.ChangeAt Go.RowKit
set_option linter.unusedVariables false

section
variable {P : Program} {ops : Array Oper} {rest : List Oper} {o : Oper} {a : Act} {w : World} {Q : Exit → Act → World → Prop}
theorem wpList_alloc_row (hgd : o.guard = none) (ty : TypeId) (ho : o.op = .alloc ty) (z : Array Value) (hz : (zeroValue ty).run P w = .ok (.agg z) w)
    (h : wpList P ops Q rest (a.put o.dst (.pointer (some ⟨w.heap.size, 0, none⟩))) (w.alloc (.cells z ty))) : wpList P ops Q (o :: rest) a w :=
  wpList_plain hgd fun _ hK => by
    unfold Oper.wp execOp
    simp only [ho, Instr.alloc, Sem.run_bind, hz, Result.andThen_ok, newVar, newRow, Value.cells, newObj, go_sem]
    exact hK _ _ h
theorem wpList_built (hgd : o.guard = none) (ty : TypeId) (parts : Array (Nat × Operand)) (ho : o.op = .build ty parts) (cs : Array Value)
    (hb : P.built ty (parts.map fun (i, x) => (i, a.eval x)).toList = some cs)
    (h : wpList P ops Q rest (a.put o.dst (.agg cs)) w) : wpList P ops Q (o :: rest) a w :=
  wpList_build hgd ty parts ho (by rw [hb]; rfl) (by rw [hb]; exact h)
/-- Into the block that was made last. -/
theorem wpList_store_new {c c' : Array Value} {W : World} {k : Nat} (hgd : o.guard = none) (ty : TypeId) (x y : Operand) (ho : o.op = .store ty x y)
    (hk : k = W.heap.size) (hx : a.eval x = .pointer (some ⟨k, 0, none⟩)) (hy : a.eval y = .agg c') (hi : (P.info? ty).map (·.size) = some c'.size) (hs : c.size = c'.size) (h1 : c'.all (·.oneCell') = true)
    (h : wpList P ops Q rest (a.put o.dst undef) (W.alloc (.cells c' ty))) : wpList P ops Q (o :: rest) a (W.alloc (.cells c ty)) := by
  subst hk
  exact wpList_store_row (w := W.alloc (.cells c ty)) hgd ty x y ho W.heap.size c' hx hy ty c (heap_alloc_new W _) hi hs h1 (by rw [World.setRow_alloc_new]; exact h)
end
theorem results_cell_tmp2 {P : Program} {fn : Func} {p t : Tmp} {ty : TypeId} (h : fn.results = #[.cell p ty, .tmp t]) (tmps : Array Value) (w : World) (g : Nat) (tt : TypeId) (cs : Array Value) (fr : Nat × Nat) (d : TypeDesc)
    (hp : tmps.getD p undef = .pointer (some ⟨g, 0, none⟩)) (hg : w.heap[g]? = some (.cells cs tt fr))
    (hu : P.underlying ty = some d) (hd : (match d with | .struct _ | .array _ _ => true | _ => false) = true) (hi : (P.info? ty).map (·.size) = some cs.size) :
    (results fn tmps).run P w = .ok (.tuple #[.agg cs, tmps.getD t undef]) w := by
  have hp' : tmps[p]?.getD undef = .pointer (some ⟨g, 0, none⟩) := by simpa using hp
  simp [results, h, hp', asAddr, run_loadVar_row w g tt ty cs fr d hg hu hd hi]
theorem bel_setRow {w a : World} (h : Below w.heap.size w a) {g : Nat} (hg : w.heap.size ≤ g) (cs : Array Value) : Below w.heap.size w (a.setRow g cs) :=
  h.trans ⟨rfl, rfl, rfl, by simp [World.setRow], fun k hk => setRow_other _ _ _ _ (by omega)⟩

/-- The cells of moves: Of, how many states there are, and the rows. -/
def mvC (lim many : Int) (g : Nat → Int) : Array Value := #[.int .i64 lim, .int .i64 many, .int .i64 (g 0), .int .i64 (g 1), .int .i64 (g 2), .int .i64 (g 3), .int .i64 (g 4), .int .i64 (g 5), .int .i64 (g 6), .int .i64 (g 7), .int .i64 (g 8), .int .i64 (g 9), .int .i64 (g 10), .int .i64 (g 11), .int .i64 (g 12), .int .i64 (g 13), .int .i64 (g 14), .int .i64 (g 15), .int .i64 (g 16), .int .i64 (g 17), .int .i64 (g 18), .int .i64 (g 19), .int .i64 (g 20), .int .i64 (g 21), .int .i64 (g 22), .int .i64 (g 23), .int .i64 (g 24)]
def zer : Nat → Int := fun _ => 0
def upd (g : Nat → Int) (q : Nat) (x : Int) : Nat → Int := fun p => if p = q then x else g p
theorem mvC_size (lim many : Int) (g : Nat → Int) : (mvC lim many g).size = 27 := rfl
theorem mvC_one (lim many : Int) (g : Nat → Int) : (mvC lim many g).all (·.oneCell') = true := by simp [mvC, Value.oneCell']
theorem cases25 {p : Nat → Prop} (h0 : p 0) (h1 : p 1) (h2 : p 2) (h3 : p 3) (h4 : p 4) (h5 : p 5) (h6 : p 6) (h7 : p 7) (h8 : p 8) (h9 : p 9) (h10 : p 10) (h11 : p 11) (h12 : p 12) (h13 : p 13) (h14 : p 14) (h15 : p 15) (h16 : p 16) (h17 : p 17) (h18 : p 18) (h19 : p 19) (h20 : p 20) (h21 : p 21) (h22 : p 22) (h23 : p 23) (h24 : p 24) : ∀ q, q < 25 → p q
  | 0, _ => h0 | 1, _ => h1 | 2, _ => h2 | 3, _ => h3 | 4, _ => h4 | 5, _ => h5 | 6, _ => h6 | 7, _ => h7 | 8, _ => h8 | 9, _ => h9 | 10, _ => h10 | 11, _ => h11 | 12, _ => h12
  | 13, _ => h13 | 14, _ => h14 | 15, _ => h15 | 16, _ => h16 | 17, _ => h17 | 18, _ => h18 | 19, _ => h19 | 20, _ => h20 | 21, _ => h21 | 22, _ => h22 | 23, _ => h23 | 24, _ => h24
  | n + 25, h => absurd h (by omega)
theorem mvC_get (lim many : Int) (g : Nat → Int) : ∀ q, q < 25 → (mvC lim many g)[2 + q]? = some (.int .i64 (g q)) := by
  apply cases25 <;> rfl
theorem mvC_set (lim many : Int) (g : Nat → Int) (x : Int) : ∀ q, q < 25 → (mvC lim many g).setIfInBounds (2 + q) (.int .i64 x) = mvC lim many (upd g q x) := by
  apply cases25 <;> rfl
theorem mv_info : (Try.prog.info? 66).map (·.size) = some 27 := by kernel_rfl
theorem mv_zero (w : World) : (zeroValue 66).run Try.prog w = .ok (.agg (mvC 0 0 zer)) w := Try.zeroValue66 w
theorem mv_built (x y : Int) : Try.prog.built 66 [(0, .int .i64 x), (1, .int .i64 y)] = some (mvC x y zer) := by kernel_rfl
theorem mv_built0 : Try.prog.built 66 [] = some (mvC 0 0 zer) := by kernel_rfl
/-- The rows of states as they lie in moves. -/
def gridM (m : List (List Int)) (q : Nat) : Int := atM m (q / 5) (q % 5)
end Go.Proofs.Ytbcngdamligpbaa
