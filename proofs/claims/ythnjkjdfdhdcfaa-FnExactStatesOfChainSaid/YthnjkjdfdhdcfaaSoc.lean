/- The law of StatesOfChain: the program's and the model's functions, and the walk of the law. -/
import Derived.Test.YthnjkjdfdhdcfaaSWth
import Derived.Deep.RegionHeld3
namespace Go.Proofs.Ythnjkjdfdhdcfaa
open Go.ChangeShapes Go.WideShapes Go.ChangeAt Go.RowKit
set_option linter.unusedVariables false

theorem blk {w w' : World} {b : Nat} (h : w'.heap[b]? = w.heap[b]?) : (∀ o, w'.cell? ⟨b, o, none⟩ = w.cell? ⟨b, o, none⟩) ∧ ∀ o, w'.frozen? ⟨b, o, none⟩ = w.frozen? ⟨b, o, none⟩ := by
  constructor <;> intro o <;> simp only [World.cell?, World.frozen?, h]
theorem inR_of {a b c : Int} (h : good a b c = true) : inR a b c := by
  unfold good inB at h
  unfold inR
  simp at h
  omega
/-- A row of two numbers, laid into a block of its own, is appended to rows that the call made. -/
theorem step_pushRow {ops : Array Oper} {o : Oper} {a : Act} {K : Act → World → Prop} {Q : Exit → Act → World → Prop} {W : World} {E : Prop} (hg : o.guard = none) (s x : Operand)
    (hop : o.op = .call { callee := .builtin .append, args := #[s, x], argTypes := #[22, 22] }) (lo hi : Nat) (v : Value) (m : List (List Int)) (hown : OwnM W lo hi v m) (hlo : lo ≤ hi) (hlen : m.length ≤ 1000) (x0 x1 : Int) (k1 k2 : Nat) (hk1 : k1 = W.heap.size) (hk2 : k2 = W.heap.size + 1)
    (hs : a.eval s = v) (hx : a.eval x = .slice (some ⟨k2, 0, none⟩) 1 1)
    (h : ∀ v' w', OwnM w' lo w'.heap.size v' (m ++ [[x0, x1]]) → Below lo W w' → (∀ b, b < W.heap.size → b < lo ∨ hi ≤ b → w'.heap[b]? = W.heap[b]?) → (∀ b, b < W.heap.size → b < lo ∨ hi ≤ b → w'.heap[b]? = ((W.alloc (.cells #[.int .i64 x0, .int .i64 x1] 3)).alloc (.cells #[.slice (some ⟨k1, 0, none⟩) 2 2] 34)).heap[b]?) → K (a.put o.dst v') w') :
    if Region.wanted o (yielded ops a.tmps) = true then Oper.wp Try.prog o a ((W.alloc (.cells #[.int .i64 x0, .int .i64 x1] 3)).alloc (.cells #[.slice (some ⟨k1, 0, none⟩) 2 2] 34)) K Q else E := by
  have hw : Region.wanted o (yielded ops a.tmps) = true := by simp [Region.wanted, hg]
  rw [if_pos hw]
  subst hk1 hk2
  have hhi : hi ≤ W.heap.size := hown.1
  have hB : Below hi W ((W.alloc (.cells #[.int .i64 x0, .int .i64 x1] 3)).alloc (.cells #[.slice (some ⟨W.heap.size, 0, none⟩) 2 2] 34)) := ((Below.refl hi W).alloc hhi _).alloc (by simp; omega) _
  obtain ⟨vs, hms⟩ := (hown.below hB (Nat.le_refl _)).parts
  have hr1 : IRow (W.alloc (.cells #[.int .i64 x0, .int .i64 x1] 3)) W.heap.size (.slice (some ⟨W.heap.size, 0, none⟩) 2 2) [x0, x1] := by
    have h := World.ownsRow_lit (base := W.heap.size) (e := 3) (size := 1) W #[.int .i64 x0, .int .i64 x1] 2 (Nat.le_refl _) (by simp [maxLen]) (by simp)
    simpa [IRow] using h
  have hr : IRow ((W.alloc (.cells #[.int .i64 x0, .int .i64 x1] 3)).alloc (.cells #[.slice (some ⟨W.heap.size, 0, none⟩) 2 2] 34)) hi (.slice (some ⟨W.heap.size, 0, none⟩) 2 2) [x0, x1] :=
    IRow.mono (World.ownsRow.alloc hr1 _) hhi
  obtain ⟨i0, hi0, hz0, hz1, hz2⟩ := info_parts info_ints
  refine wp_append_own _ s x 22 hop lo 34 i0 nilS 1 24 Try.underlying22 hi0 hz0 hz1 hz2 rfl (by decide) v m.length vs hs hms.2.1 ⟨W.heap.size + 1, 0, none⟩ 1 1 [.slice (some ⟨W.heap.size, 0, none⟩) 2 2] hx rfl ?_ ?_ ?_ ?_ ?_ ?_
  · intro j y hy
    cases j with
    | zero =>
      simp at hy
      subst hy
      simp [go_sem]
    | succ j => simp at hy
  · intro y hy; simp at hy; subst hy; rfl
  · unfold maxLen; omega
  · omega
  · simp; omega
  · intro v' w' h1 h2 _
    have hv : ∀ k, v.ownBlock = some k → lo ≤ k ∧ k < hi := fun k hk => ⟨(World.ownsRow.lt hms.2.1 k hk).1, hms.2.2.1 k hk⟩
    have hoff := Off.grown h2 hv
    refine h v' w' (OwnMs.snoc hms hr hlo h1 h2) ?_ ?_ (fun b hb hc => hoff.block b (by simp; omega) hc)
    · refine Below.grown (((Below.refl lo W).alloc (by omega) _).alloc (by simp; omega) _) h2 (by simp; omega) fun k hk => (hv k hk).1
    · intro b hb hc
      rw [hoff.block b (by simp; omega) hc]
      have q := hB
      simp only [World.alloc, Array.getElem?_push]
      rw [if_neg (by simp; omega), if_neg (by omega)]

theorem soc_below {w w' : World} {B4 B7 : Nat} {a b c d : Int} (h : w.cell? ⟨B4, 0, none⟩ = some (.int .i64 a) ∧ w.cell? ⟨B4, 1, none⟩ = some (.int .i64 b) ∧ w.cell? ⟨B4, 2, none⟩ = some (.int .i64 c) ∧ w.cell? ⟨B4, 3, none⟩ = some (.int .u8 100) ∧ w.cell? ⟨B4, 4, none⟩ = some (.int .i64 a) ∧ w.cell? ⟨B4, 5, none⟩ = some (.int .i64 b) ∧ w.cell? ⟨B4, 6, none⟩ = some (.int .i64 c) ∧ w.cell? ⟨B4, 7, none⟩ = some (.int .u8 119) ∧ w.cell? ⟨B7, 0, none⟩ = some (.int .i64 a) ∧ w.cell? ⟨B7, 1, none⟩ = some (.int .i64 b) ∧ w.cell? ⟨B7, 2, none⟩ = some (.int .i64 c) ∧ w.cell? ⟨B7, 3, none⟩ = some (.int .u8 d)) {C : Nat} (hb : Below C w w') (h4 : B4 < C) (h7 : B7 < C) : w'.cell? ⟨B4, 0, none⟩ = some (.int .i64 a) ∧ w'.cell? ⟨B4, 1, none⟩ = some (.int .i64 b) ∧ w'.cell? ⟨B4, 2, none⟩ = some (.int .i64 c) ∧ w'.cell? ⟨B4, 3, none⟩ = some (.int .u8 100) ∧ w'.cell? ⟨B4, 4, none⟩ = some (.int .i64 a) ∧ w'.cell? ⟨B4, 5, none⟩ = some (.int .i64 b) ∧ w'.cell? ⟨B4, 6, none⟩ = some (.int .i64 c) ∧ w'.cell? ⟨B4, 7, none⟩ = some (.int .u8 119) ∧ w'.cell? ⟨B7, 0, none⟩ = some (.int .i64 a) ∧ w'.cell? ⟨B7, 1, none⟩ = some (.int .i64 b) ∧ w'.cell? ⟨B7, 2, none⟩ = some (.int .i64 c) ∧ w'.cell? ⟨B7, 3, none⟩ = some (.int .u8 d) := by
  have e4 : ∀ o, w'.cell? ⟨B4, o, none⟩ = w.cell? ⟨B4, o, none⟩ := fun o => hb.cell (p := ⟨B4, o, none⟩) h4
  have e7 : ∀ o, w'.cell? ⟨B7, o, none⟩ = w.cell? ⟨B7, o, none⟩ := fun o => hb.cell (p := ⟨B7, o, none⟩) h7
  simpa only [e4, e7] using h
theorem soc_blk {w w' : World} {B4 B7 : Nat} {a b c d : Int} (h : w.cell? ⟨B4, 0, none⟩ = some (.int .i64 a) ∧ w.cell? ⟨B4, 1, none⟩ = some (.int .i64 b) ∧ w.cell? ⟨B4, 2, none⟩ = some (.int .i64 c) ∧ w.cell? ⟨B4, 3, none⟩ = some (.int .u8 100) ∧ w.cell? ⟨B4, 4, none⟩ = some (.int .i64 a) ∧ w.cell? ⟨B4, 5, none⟩ = some (.int .i64 b) ∧ w.cell? ⟨B4, 6, none⟩ = some (.int .i64 c) ∧ w.cell? ⟨B4, 7, none⟩ = some (.int .u8 119) ∧ w.cell? ⟨B7, 0, none⟩ = some (.int .i64 a) ∧ w.cell? ⟨B7, 1, none⟩ = some (.int .i64 b) ∧ w.cell? ⟨B7, 2, none⟩ = some (.int .i64 c) ∧ w.cell? ⟨B7, 3, none⟩ = some (.int .u8 d)) (h4 : w'.heap[B4]? = w.heap[B4]?) (h7 : w'.heap[B7]? = w.heap[B7]?) : w'.cell? ⟨B4, 0, none⟩ = some (.int .i64 a) ∧ w'.cell? ⟨B4, 1, none⟩ = some (.int .i64 b) ∧ w'.cell? ⟨B4, 2, none⟩ = some (.int .i64 c) ∧ w'.cell? ⟨B4, 3, none⟩ = some (.int .u8 100) ∧ w'.cell? ⟨B4, 4, none⟩ = some (.int .i64 a) ∧ w'.cell? ⟨B4, 5, none⟩ = some (.int .i64 b) ∧ w'.cell? ⟨B4, 6, none⟩ = some (.int .i64 c) ∧ w'.cell? ⟨B4, 7, none⟩ = some (.int .u8 119) ∧ w'.cell? ⟨B7, 0, none⟩ = some (.int .i64 a) ∧ w'.cell? ⟨B7, 1, none⟩ = some (.int .i64 b) ∧ w'.cell? ⟨B7, 2, none⟩ = some (.int .i64 c) ∧ w'.cell? ⟨B7, 3, none⟩ = some (.int .u8 d) := by
  simpa only [(blk h4).1, (blk h7).1] using h
theorem soc_set {w : World} {B4 B7 : Nat} {a b c d : Int} (h : w.cell? ⟨B4, 0, none⟩ = some (.int .i64 a) ∧ w.cell? ⟨B4, 1, none⟩ = some (.int .i64 b) ∧ w.cell? ⟨B4, 2, none⟩ = some (.int .i64 c) ∧ w.cell? ⟨B4, 3, none⟩ = some (.int .u8 100) ∧ w.cell? ⟨B4, 4, none⟩ = some (.int .i64 a) ∧ w.cell? ⟨B4, 5, none⟩ = some (.int .i64 b) ∧ w.cell? ⟨B4, 6, none⟩ = some (.int .i64 c) ∧ w.cell? ⟨B4, 7, none⟩ = some (.int .u8 119) ∧ w.cell? ⟨B7, 0, none⟩ = some (.int .i64 a) ∧ w.cell? ⟨B7, 1, none⟩ = some (.int .i64 b) ∧ w.cell? ⟨B7, 2, none⟩ = some (.int .i64 c) ∧ w.cell? ⟨B7, 3, none⟩ = some (.int .u8 d)) (B5 o5 : Nat) (u : Value) (h4 : B5 ≠ B4) (h7 : B5 ≠ B7) : (w.setCell ⟨B5, o5, none⟩ u).cell? ⟨B4, 0, none⟩ = some (.int .i64 a) ∧ (w.setCell ⟨B5, o5, none⟩ u).cell? ⟨B4, 1, none⟩ = some (.int .i64 b) ∧ (w.setCell ⟨B5, o5, none⟩ u).cell? ⟨B4, 2, none⟩ = some (.int .i64 c) ∧ (w.setCell ⟨B5, o5, none⟩ u).cell? ⟨B4, 3, none⟩ = some (.int .u8 100) ∧ (w.setCell ⟨B5, o5, none⟩ u).cell? ⟨B4, 4, none⟩ = some (.int .i64 a) ∧ (w.setCell ⟨B5, o5, none⟩ u).cell? ⟨B4, 5, none⟩ = some (.int .i64 b) ∧ (w.setCell ⟨B5, o5, none⟩ u).cell? ⟨B4, 6, none⟩ = some (.int .i64 c) ∧ (w.setCell ⟨B5, o5, none⟩ u).cell? ⟨B4, 7, none⟩ = some (.int .u8 119) ∧ (w.setCell ⟨B5, o5, none⟩ u).cell? ⟨B7, 0, none⟩ = some (.int .i64 a) ∧ (w.setCell ⟨B5, o5, none⟩ u).cell? ⟨B7, 1, none⟩ = some (.int .i64 b) ∧ (w.setCell ⟨B5, o5, none⟩ u).cell? ⟨B7, 2, none⟩ = some (.int .i64 c) ∧ (w.setCell ⟨B5, o5, none⟩ u).cell? ⟨B7, 3, none⟩ = some (.int .u8 d) := by
  have e4 : ∀ o, (w.setCell ⟨B5, o5, none⟩ u).cell? ⟨B4, o, none⟩ = w.cell? ⟨B4, o, none⟩ := fun o => World.cell?_setCell_far _ _ _ _ h4
  have e7 : ∀ o, (w.setCell ⟨B5, o5, none⟩ u).cell? ⟨B7, o, none⟩ = w.cell? ⟨B7, o, none⟩ := fun o => World.cell?_setCell_far _ _ _ _ h7
  simpa only [e4, e7] using h
def Box8 (w : World) (B4 : Nat) (a b c : Int) : Prop := w.cell? ⟨B4, 0, none⟩ = some (.int .i64 a) ∧ w.cell? ⟨B4, 1, none⟩ = some (.int .i64 b) ∧ w.cell? ⟨B4, 2, none⟩ = some (.int .i64 c) ∧ w.cell? ⟨B4, 3, none⟩ = some (.int .u8 100) ∧ w.cell? ⟨B4, 4, none⟩ = some (.int .i64 a) ∧ w.cell? ⟨B4, 5, none⟩ = some (.int .i64 b) ∧ w.cell? ⟨B4, 6, none⟩ = some (.int .i64 c) ∧ w.cell? ⟨B4, 7, none⟩ = some (.int .u8 119)
theorem Box8.blk {w w' : World} {B4 : Nat} {a b c : Int} (h : Box8 w B4 a b c) (h4 : w'.heap[B4]? = w.heap[B4]?) : Box8 w' B4 a b c := by
  unfold Box8 at h ⊢
  simpa only [(Go.Proofs.Ythnjkjdfdhdcfaa.blk h4).1] using h

theorem soc_start {w : World} {B4 : Nat} {a b c d : Int} {t : TypeId} (h : Box8 w B4 a b c) (h4 : B4 < w.heap.size) : ((w.alloc (.cells #[.int .i64 a, .int .i64 b, .int .i64 c, .int .u8 d] t)).drew).cell? ⟨B4, 0, none⟩ = some (.int .i64 a) ∧ ((w.alloc (.cells #[.int .i64 a, .int .i64 b, .int .i64 c, .int .u8 d] t)).drew).cell? ⟨B4, 1, none⟩ = some (.int .i64 b) ∧ ((w.alloc (.cells #[.int .i64 a, .int .i64 b, .int .i64 c, .int .u8 d] t)).drew).cell? ⟨B4, 2, none⟩ = some (.int .i64 c) ∧ ((w.alloc (.cells #[.int .i64 a, .int .i64 b, .int .i64 c, .int .u8 d] t)).drew).cell? ⟨B4, 3, none⟩ = some (.int .u8 100) ∧ ((w.alloc (.cells #[.int .i64 a, .int .i64 b, .int .i64 c, .int .u8 d] t)).drew).cell? ⟨B4, 4, none⟩ = some (.int .i64 a) ∧ ((w.alloc (.cells #[.int .i64 a, .int .i64 b, .int .i64 c, .int .u8 d] t)).drew).cell? ⟨B4, 5, none⟩ = some (.int .i64 b) ∧ ((w.alloc (.cells #[.int .i64 a, .int .i64 b, .int .i64 c, .int .u8 d] t)).drew).cell? ⟨B4, 6, none⟩ = some (.int .i64 c) ∧ ((w.alloc (.cells #[.int .i64 a, .int .i64 b, .int .i64 c, .int .u8 d] t)).drew).cell? ⟨B4, 7, none⟩ = some (.int .u8 119) ∧ ((w.alloc (.cells #[.int .i64 a, .int .i64 b, .int .i64 c, .int .u8 d] t)).drew).cell? ⟨w.heap.size, 0, none⟩ = some (.int .i64 a) ∧ ((w.alloc (.cells #[.int .i64 a, .int .i64 b, .int .i64 c, .int .u8 d] t)).drew).cell? ⟨w.heap.size, 1, none⟩ = some (.int .i64 b) ∧ ((w.alloc (.cells #[.int .i64 a, .int .i64 b, .int .i64 c, .int .u8 d] t)).drew).cell? ⟨w.heap.size, 2, none⟩ = some (.int .i64 c) ∧ ((w.alloc (.cells #[.int .i64 a, .int .i64 b, .int .i64 c, .int .u8 d] t)).drew).cell? ⟨w.heap.size, 3, none⟩ = some (.int .u8 d) := by
  have hb : Below w.heap.size w ((w.alloc (.cells #[.int .i64 a, .int .i64 b, .int .i64 c, .int .u8 d] t)).drew) := (bel_alloc (Below.refl _ w) _).drew
  have e4 : ∀ o, ((w.alloc (.cells #[.int .i64 a, .int .i64 b, .int .i64 c, .int .u8 d] t)).drew).cell? ⟨B4, o, none⟩ = w.cell? ⟨B4, o, none⟩ := fun o => hb.cell (p := ⟨B4, o, none⟩) h4
  obtain ⟨x0, x1, x2, x3, x4, x5, x6, x7⟩ := h
  have b := Box4.new w (.int .i64 a) (.int .i64 b) (.int .i64 c) (.int .u8 d) t
  exact ⟨(e4 _).trans x0, (e4 _).trans x1, (e4 _).trans x2, (e4 _).trans x3, (e4 _).trans x4, (e4 _).trans x5, (e4 _).trans x6, (e4 _).trans x7, b.1, b.2.1, b.2.2.1, b.2.2.2.1⟩
theorem soc_box {w : World} {B4 B7 : Nat} {a b c d : Int} (h : w.cell? ⟨B4, 0, none⟩ = some (.int .i64 a) ∧ w.cell? ⟨B4, 1, none⟩ = some (.int .i64 b) ∧ w.cell? ⟨B4, 2, none⟩ = some (.int .i64 c) ∧ w.cell? ⟨B4, 3, none⟩ = some (.int .u8 100) ∧ w.cell? ⟨B4, 4, none⟩ = some (.int .i64 a) ∧ w.cell? ⟨B4, 5, none⟩ = some (.int .i64 b) ∧ w.cell? ⟨B4, 6, none⟩ = some (.int .i64 c) ∧ w.cell? ⟨B4, 7, none⟩ = some (.int .u8 119) ∧ w.cell? ⟨B7, 0, none⟩ = some (.int .i64 a) ∧ w.cell? ⟨B7, 1, none⟩ = some (.int .i64 b) ∧ w.cell? ⟨B7, 2, none⟩ = some (.int .i64 c) ∧ w.cell? ⟨B7, 3, none⟩ = some (.int .u8 d)) : Box8 w B4 a b c := by
  obtain ⟨x0, x1, x2, x3, x4, x5, x6, x7, _⟩ := h
  exact ⟨x0, x1, x2, x3, x4, x5, x6, x7⟩
end Go.Proofs.Ythnjkjdfdhdcfaa
