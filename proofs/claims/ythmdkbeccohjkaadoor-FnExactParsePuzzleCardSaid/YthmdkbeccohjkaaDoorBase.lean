/- Contracts of the smallest functions of chapter 1, of the program and of its model. -/
import Derived.Test.YthmdkbeccohjkaaDoorRows
import Derived.WalkKit
import Derived.ProofKit
import Derived.OpenShut
import Derived.ShutString
import Derived.ChangeOld
import Derived.Below
import Derived.Lib.Hide
import Derived.Lib.SmallJoins
import Derived.LoopTactic
import Derived.Outline
import Derived.BigGuardPart
import Derived.WalkLawsBesides
import Derived.WalkSpells
namespace Go.Proofs.YthmdkbeccohjkaaDoor
open Go.ChangeShapes Go.WideShapes Go.ChangeAt Go.RowKit
set_option linter.unusedVariables false

theorem bcell {W w1 : World} (hb : Below W.heap.size W w1) : (∀ b o, b < W.heap.size → w1.cell? ⟨b, o, none⟩ = W.cell? ⟨b, o, none⟩) ∧ (∀ b o, b < W.heap.size → w1.frozen? ⟨b, o, none⟩ = W.frozen? ⟨b, o, none⟩) :=
  ⟨fun b o h => hb.cell (p := ⟨b, o, none⟩) h, fun b o h => hb.frozen (p := ⟨b, o, none⟩) h⟩

def inB (n lo hi : Int) : Bool := decide (lo ≤ n) && decide (n ≤ hi)

theorem inB_iff (n lo hi : Int) : inB n lo hi = true ↔ lo ≤ n ∧ n ≤ hi := by simp [inB]

theorem l1In_any (n lo hi : Int) (w : World) :
    Calls Tryd.prog 51 #[.int .i64 n, .int .i64 lo, .int .i64 hi] w fun e w' => e = .returned (.bool (inB n lo hi)) ∧ w = w' := by
  by_cases h : lo ≤ n
  · have hd : decide (lo ≤ n) = true := by simpa using h
    go_enter Tryd.func51, Tryd.ntmps51
    go_wp2
    go_ret
    exact ⟨by simp [inB, h], rfl⟩
  · have hd : decide (lo ≤ n) = false := by simpa using h
    go_enter Tryd.func51, Tryd.ntmps51
    go_wp2
    go_ret
    exact ⟨by simp [inB, hd], rfl⟩

theorem own : ownKnob Tryd.prog.godebug = none := by kernel_rfl
theorem laidOut : laidOutB Tryd.prog = true := by kernel_rfl

theorem strip (rest : List (List Char)) : stripLifts liftWords ("cut".toList :: rest) = ([], "cut".toList :: rest) := by
  kernel_rfl
theorem enters_of (P : Program) (rest : List (List Char)) (h : behindMainWord (wordsSigns P.initOrder.toList) = "cut".toList :: rest) (h1 : P.laysLater = false) (h2 : P.bearsReflect = false) (h3 : P.doorFits [] = true) : P.mayEnter = true := by
  unfold Program.mayEnter
  rw [h]
  simp only [strip, h1, h2, h3, Bool.or_eq_true]
  exact .inr (by kernel_rfl)
theorem finals_of (P : Program) (rest : List (List Char)) (h : behindMainWord (wordsSigns P.initOrder.toList) = "cut".toList :: rest) : P.liftsFinal = false := by
  unfold Program.liftsFinal Program.headLifts
  rw [h]
  kernel_rfl
theorem makes_of (P : Program) (rest : List (List Char)) (h : behindMainWord (wordsSigns P.initOrder.toList) = "cut".toList :: rest) : P.make = some .cut := by
  unfold Program.make
  rw [h]
  kernel_rfl
set_option maxRecDepth 100000 in
/-- The head of the cut: the list of signs is taken as it stands, not computed out of the string. -/
theorem words : ∃ rest, behindMainWord (wordsSigns Tryd.prog.initOrder.toList) = "cut".toList :: rest := by
  refine (fun (L : List Char) (e : Tryd.prog.initOrder = String.ofList L) (h2 : (behindMainWord (wordsSigns L)).head? = some "cut".toList) => ?_) _ rfl (by kernel_rfl)
  rw [e, String.toList_ofList]
  exact List.head?_eq_some_iff.1 h2
theorem enters : Tryd.prog.mayEnter = true := by
  obtain ⟨rest, h⟩ := words
  exact enters_of Tryd.prog rest h (by kernel_rfl) (by kernel_rfl) (by kernel_rfl)
theorem finals : Tryd.prog.liftsFinal = false := by
  obtain ⟨rest, h⟩ := words
  exact finals_of Tryd.prog rest h
theorem makes : Tryd.prog.make = some .cut := by
  obtain ⟨rest, h⟩ := words
  exact makes_of Tryd.prog rest h


theorem bel_alloc {w a : World} (h : Below w.heap.size w a) (o : Obj) : Below w.heap.size w (a.alloc o) := h.alloc h.size o
theorem bel_trans {w a b : World} (h : Below w.heap.size w a) (k : Below a.heap.size a b) : Below w.heap.size w b := h.trans (k.mono h.size)

/-- Block k begins with the cells x, y, z. -/
def Box3 (w : World) (k : Nat) (x y z : Value) : Prop := w.cell? ⟨k, 0, none⟩ = some x ∧ w.cell? ⟨k, 1, none⟩ = some y ∧ w.cell? ⟨k, 2, none⟩ = some z ∧ k < w.heap.size
theorem Box3.new (w : World) (x y z : Value) (t : TypeId) : Box3 (w.alloc (.cells #[x, y, z] t)) w.heap.size x y z := by
  refine ⟨?_, ?_, ?_, ?_⟩ <;> simp [go_sem]
theorem Box3.keep {w w1 : World} {k : Nat} {x y z : Value} (h : Box3 w k x y z) (hb : Below w.heap.size w w1) : Box3 w1 k x y z :=
  ⟨(hb.cell (p := ⟨k, 0, none⟩) h.2.2.2).trans h.1, (hb.cell (p := ⟨k, 1, none⟩) h.2.2.2).trans h.2.1, (hb.cell (p := ⟨k, 2, none⟩) h.2.2.2).trans h.2.2.1, Nat.lt_of_lt_of_le h.2.2.2 hb.size⟩

abbrev chn (a b c : Int) : Value := .agg #[.int .i64 a, .int .i64 b, .int .i64 c]

def good (a b c : Int) : Bool := inB c 1 10 && (inB a 0 c && inB b 0 c)

end Go.Proofs.YthmdkbeccohjkaaDoor
