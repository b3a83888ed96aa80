/- slices.Backward over bytes: the contract of the iterator. Of no function of the program. -/
import Derived.RangeFuncNested
import Derived.RangeFuncBound
import Derived.RangeFuncCalls
import Derived.RangeFuncLeaves
import Derived.RangeFuncFrom
import Derived.Shelf.Abstract
import Derived.Shelf.RegionOpen
import Derived.WalkKit
import Derived.OwnWalkIn
import Derived.TacticsInMore
import Derived.LoopNIn
import Derived.LoopIn
import Derived.Test.YtiblggfihpobkabWoOf
namespace Go.Proofs.Ytiblggfihpobkab
set_option linter.unusedSimpArgs false
open Go.ChangeShapes Go.WideShapes Go.ChangeAt Go.RowKit Go.Shelf
set_option linter.unusedVariables false
attribute [local go_sem] Oper.semAt_some

/-- There is a byte at that place. -/
def isB (W : World) (b j : Nat) : Prop := ∃ x : Int, W.cell? ⟨b, j, none⟩ = some (.int .u8 x)
/-- What a round keeps for the iterator: its box, and that the bytes can be read. -/
def KpB (Bs b len : Nat) (sv : Value) (A B : World) : Prop :=
  (A.cell? ⟨Bs, 0, none⟩ = some sv → B.cell? ⟨Bs, 0, none⟩ = some sv) ∧ ∀ j, j < len → isB A b j → isB B b j
theorem KpB.t {Bs b len : Nat} {sv : Value} {A B C : World} (h : KpB Bs b len sv A B) (k : KpB Bs b len sv B C) : KpB Bs b len sv A C :=
  ⟨fun x => k.1 (h.1 x), fun j hj x => k.2 j hj (h.2 j hj x)⟩
theorem KpB.b {Bs b len : Nat} {sv : Value} {w : World} (W : World) (l : Nat) (o o' : Obj) (_ : w.heap.size ≤ l) (h : W.heap[l]? = some o) (ho : o.isCells = false) (_ : o.isWalk = false) : KpB Bs b len sv W (W.putObj l o') :=
  ⟨fun x => cell_kept x (grownBy_putObj' W l o') (fun r e => by cases e; exact ⟨_, h, ho⟩), fun j _ ⟨x, hx⟩ => ⟨x, cell_kept hx (grownBy_putObj' W l o') (fun r e => by cases e; exact ⟨_, h, ho⟩)⟩⟩
theorem back_fn (F : Fence) (n : Nat) (h5 : F.fn 52) (hro : F.round = none) (a : Option Addr) (len cap : Nat) (w : World) :
    CallsIn F n Try.prog 52 #[.slice a len cap] w fun e w' => e = .returned (.func (.func 76) #[] #[.pointer (some ⟨w.heap.size, 0, none⟩)]) ∧ w' = w.alloc (.cells #[.slice a len cap] 60) := by
  refine callsIn_of_wp Try.func52 rfl h5 ?_ hro
  simp only [Try.ntmps52, List.size_toArray, List.length_cons, List.length_nil, Nat.reduceAdd, Nat.reduceSub, Array.replicate_succ, Array.replicate_zero, List.push_toArray, List.append_toArray, List.nil_append, List.cons_append]
  gi_wp2
  go_ret
  exact ⟨rfl, rfl⟩
abbrev EnB (L : Nat) := { x : Nat × Int // x.1 < L }
def encB {L : Nat} (x : EnB L) : Array Value := #[.int .i64 (x.1.1 : Int), .int .u8 x.1.2]
/-- The places that are left, from the last one down. -/
def dnL (m : Nat) : List Nat := (List.range m).reverse
theorem dnL_succ (m : Nat) : dnL (m + 1) = m :: dnL m := by
  unfold dnL
  rw [List.range_succ, List.reverse_append]
  rfl
set_option maxRecDepth 100000 in
set_option maxHeartbeats 2000000 in
theorem back1_in (F : Fence) (n : Nat) (h8 : F.fn 76) (hro : F.round = none) (hn : 1 ≤ n) (l Bs b L cap : Nat) (hL : L ≤ 1000) (J Jx : List (EnB L) → World → Prop)
    (hY : ∀ pre x W, J pre W → pre.length < L → YieldAt F (n - 1) Try.prog l (encB x) W fun e W' =>
      (e = .returned (.bool true) ∧ J (pre ++ [x]) W' ∧ KpB Bs b L (.slice (some ⟨b, 0, none⟩) L cap) W W') ∨ (e = .returned (.bool false) ∧ Jx (pre ++ [x]) W'))
    (W : World) (hBs : W.cell? ⟨Bs, 0, none⟩ = some (.slice (some ⟨b, 0, none⟩) L cap)) (hc : ∀ j, j < L → isB W b j) (h0 : J [] W) :
    CallsIn F n Try.prog 76 #[.func (.yield l) #[] #[], .pointer (some ⟨Bs, 0, none⟩)] W fun e W' => (∃ v, e = .returned v) ∧
      ((∃ ys, ys.map (fun x => x.1.1) = dnL L ∧ J ys W') ∨ (∃ pre, True ∧ Jx pre W')) := by
  refine callsIn_of_wp Try.func76 rfl h8 ?_ hro
  simp only [Try.ntmps76, List.size_toArray, List.length_cons, List.length_nil, Nat.reduceAdd, Nat.reduceSub, Array.replicate_succ, Array.replicate_zero, List.push_toArray, List.append_toArray, List.nil_append, List.cons_append]
  gi_wp2
  gi_loopw [3] (fun i wr => ∃ (m : Nat) (ys : List (EnB L)), m ≤ L ∧ i = .int .i64 ((m : Int) - 1) ∧ Hid (ys.map (fun x => x.1.1) ++ dnL m = dnL L) ∧ J ys wr ∧ ys.length + m = L ∧ wr.cell? ⟨Bs, 0, none⟩ = some (.slice (some ⟨b, 0, none⟩) L cap) ∧ Hid (∀ j, j < L → isB wr b j))
    (fun i _ => (intOf i + 1).toNat)
  case atStart => exact ⟨L, [], Nat.le_refl _, rfl, Lib.hid rfl, h0, by simp, hBs, Lib.hid hc⟩
  case round =>
    obtain ⟨m, ys, hm, hi, hys, hJs, hyl, hbs, hcs⟩ := hrel
    cases m with
    | zero =>
      obtain rfl := hi
      gi_wp2
      go_end0
      exact ⟨⟨_, rfl⟩, .inl ⟨ys, by have := hys.out; simpa [dnL] using this, hJs⟩⟩
    | succ m =>
      have hi2 := hi.trans (show Value.int .i64 (((m + 1 : Nat) : Int) - 1) = .int .i64 (m : Int) by congr 1; omega)
      clear hi
      obtain rfl := hi2
      obtain ⟨x, hx⟩ := hcs.out m (by omega)
      obtain ⟨fn, tmps, assign, body, hy, hR⟩ := hY ys ⟨(m, x), by show m < L; omega⟩ wr hJs (by omega)
      dsimp only [encB] at hy
      gi_wp2
      refine hR.mono ?_
      rintro e W3 (⟨rfl, hJ3, hk3⟩ | ⟨rfl, hJx3⟩)
      · have hbs3 := hk3.1 hbs
        gi_wp2
        go_roundw
        case rel => exact ⟨m, _, by omega, rfl, Lib.hid (by have := hys.out; rw [dnL_succ] at this; simpa using this), hJ3, by simp; omega, hbs3, Lib.hid (fun j hj => hk3.2 j hj (hcs.out j hj))⟩
        case measure => simp [intOf]
      · gi_wp2
        refine bodyPost_ret (results_none rfl _ _ _) rfl ?_
        exact ⟨⟨_, rfl⟩, .inr ⟨_, trivial, hJx3⟩⟩
theorem back_stops (F : Fence) (n : Nat) (h8 : F.fn 76) (hro : F.round = none) (hn : 1 ≤ n) (Bs b L cap : Nat) (hL : L ≤ 1000) (w : World) (hBs : Bs < w.heap.size) (hb : b < w.heap.size)
    (hc : w.cell? ⟨Bs, 0, none⟩ = some (.slice (some ⟨b, 0, none⟩) L cap)) (hI : ∀ j, j < L → isB w b j) :
    SeqStopsK F n Try.prog 76 #[.pointer (some ⟨Bs, 0, none⟩)] (encB (L := L)) (KpB Bs b L (.slice (some ⟨b, 0, none⟩) L cap)) (fun ys => ys.map (fun x => x.1.1) = dnL L) (fun _ => True) L w := fun l J Jx W hW _ _ hY h0 =>
  back1_in F n h8 hro hn l Bs b L cap hL J Jx hY W ((hW.cell (p := ⟨Bs, 0, none⟩) hBs).trans hc) (fun j hj => by obtain ⟨x, hx⟩ := hI j hj; exact ⟨x, (hW.cell (p := ⟨b, j, none⟩) hb).trans hx⟩) h0
end Go.Proofs.Ytiblggfihpobkab
