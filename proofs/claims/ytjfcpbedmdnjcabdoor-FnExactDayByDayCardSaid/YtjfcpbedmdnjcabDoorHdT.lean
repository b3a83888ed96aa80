/- Hidden days: the copy that the law makes. -/
import Derived.Test.YtjfcpbedmdnjcabDoorHdA
import Derived.Test.YtjfcpbedmdnjcabDoorBox3W
import Derived.Test.YtjfcpbedmdnjcabDoorRowI
namespace Go.Proofs.YtjfcpbedmdnjcabDoor
set_option linter.unusedSimpArgs false
open Go.ChangeShapes Go.WideShapes Go.ChangeAt Go.RowKit
set_option linter.unusedVariables false

def Box6W (w : World) (k : Nat) (a b c p q r : Int) : Prop := Box6 w k a b c p q r ∧ w.frozen? ⟨k, 0, none⟩ = false ∧ w.frozen? ⟨k, 1, none⟩ = false ∧ w.frozen? ⟨k, 2, none⟩ = false ∧ w.frozen? ⟨k, 3, none⟩ = false ∧ w.frozen? ⟨k, 4, none⟩ = false ∧ w.frozen? ⟨k, 5, none⟩ = false
theorem Box6W.keep {w w1 : World} {k : Nat} {a b c p q r : Int} (h : Box6W w k a b c p q r) (hb : Below w.heap.size w w1) : Box6W w1 k a b c p q r := by
  obtain ⟨h0, f0, f1, f2, f3, f4, f5⟩ := h
  have hk := h0.2.2.2.2.2.2
  exact ⟨h0.keep hb, (hb.frozen (p := ⟨k, 0, none⟩) hk).trans f0, (hb.frozen (p := ⟨k, 1, none⟩) hk).trans f1, (hb.frozen (p := ⟨k, 2, none⟩) hk).trans f2, (hb.frozen (p := ⟨k, 3, none⟩) hk).trans f3, (hb.frozen (p := ⟨k, 4, none⟩) hk).trans f4, (hb.frozen (p := ⟨k, 5, none⟩) hk).trans f5⟩
theorem Box6W.new (w : World) (a b c p q r : Int) (t : TypeId) : Box6W (w.alloc (.cells #[.int .i64 a, .int .i64 b, .int .i64 c, .int .i64 p, .int .i64 q, .int .i64 r] t)) w.heap.size a b c p q r := by
  refine ⟨Box6.new w a b c p q r t, ?_, ?_, ?_, ?_, ?_, ?_⟩ <;> simp [go_sem]
theorem Box6W.set {w : World} {k : Nat} {a b c p q r : Int} (h : Box6W w k a b c p q r) (a' b' c' p' q' r' : Int) :
    Box6W ((((((w.setCell ⟨k, 0, none⟩ (.int .i64 a')).setCell ⟨k, 1, none⟩ (.int .i64 b')).setCell ⟨k, 2, none⟩ (.int .i64 c')).setCell ⟨k, 3, none⟩ (.int .i64 p')).setCell ⟨k, 4, none⟩ (.int .i64 q')).setCell ⟨k, 5, none⟩ (.int .i64 r')) k a' b' c' p' q' r' := by
  obtain ⟨⟨h0, h1, h2, h3, h4, h5, h6⟩, f0, f1, f2, f3, f4, f5⟩ := h
  refine ⟨⟨?_, ?_, ?_, ?_, ?_, ?_, ?_⟩, ?_, ?_, ?_, ?_, ?_, ?_⟩
  all_goals simp [go_sem, h0, h1, h2, h3, h4, h5, h6, f0, f1, f2, f3, f4, f5]
theorem bel_set6 {w W : World} {k : Nat} (h : Below w.heap.size w W) (hk : w.heap.size ≤ k) (a b c p q r : Value) :
    Below w.heap.size w ((((((W.setCell ⟨k, 0, none⟩ a).setCell ⟨k, 1, none⟩ b).setCell ⟨k, 2, none⟩ c).setCell ⟨k, 3, none⟩ p).setCell ⟨k, 4, none⟩ q).setCell ⟨k, 5, none⟩ r) :=
  (((((h.setCell (p := ⟨k, 0, none⟩) hk a).setCell (p := ⟨k, 1, none⟩) hk b).setCell (p := ⟨k, 2, none⟩) hk c).setCell (p := ⟨k, 3, none⟩) hk p).setCell (p := ⟨k, 4, none⟩) hk q).setCell (p := ⟨k, 5, none⟩) hk r
theorem b6_other {w : World} {g k : Nat} {a b c p q r : Int} (h : Box6W w g a b c p q r) (hne : g ≠ k) (a' b' c' p' q' r' : Value) :
    Box6W ((((((w.setCell ⟨k, 0, none⟩ a').setCell ⟨k, 1, none⟩ b').setCell ⟨k, 2, none⟩ c').setCell ⟨k, 3, none⟩ p').setCell ⟨k, 4, none⟩ q').setCell ⟨k, 5, none⟩ r') g a b c p q r := by
  obtain ⟨⟨h0, h1, h2, h3, h4, h5, h6⟩, f0, f1, f2, f3, f4, f5⟩ := h
  refine ⟨⟨?_, ?_, ?_, ?_, ?_, ?_, ?_⟩, ?_, ?_, ?_, ?_, ?_, ?_⟩
  all_goals simp [go_sem, h0, h1, h2, h3, h4, h5, h6, f0, f1, f2, f3, f4, f5, hne]

set_option maxHeartbeats 1600000 in
theorem toHidden_any (a b c p q r : Int) (w : World) :
    Calls Tryd.prog 9 #[hdn a b c p q r] w fun e w' => e = .returned (hdn a b c p q r) ∧ Below w.heap.size w w' := by
  have z1 : w.heap.size + 1 = (w.alloc (.cells #[.int .i64 a, .int .i64 b, .int .i64 c, .int .i64 p, .int .i64 q, .int .i64 r] 25)).heap.size := size1 _ _
  have ba1 := Box6.new w a b c p q r 25
  have bl1 := bel_alloc (Below.refl _ w) (.cells #[.int .i64 a, .int .i64 b, .int .i64 c, .int .i64 p, .int .i64 q, .int .i64 r] 25)
  generalize hW1 : w.alloc (.cells #[.int .i64 a, .int .i64 b, .int .i64 c, .int .i64 p, .int .i64 q, .int .i64 r] 25) = W1 at *
  have br2 := Box6W.new W1 0 0 0 0 0 0 30
  have ba2 := ba1.keep (bel_alloc (Below.refl _ W1) (.cells #[.int .i64 0, .int .i64 0, .int .i64 0, .int .i64 0, .int .i64 0, .int .i64 0] 30))
  have bl2 := bel_alloc bl1 (.cells #[.int .i64 0, .int .i64 0, .int .i64 0, .int .i64 0, .int .i64 0, .int .i64 0] 30)
  have z2 : W1.heap.size + 1 = (W1.alloc (.cells #[.int .i64 0, .int .i64 0, .int .i64 0, .int .i64 0, .int .i64 0, .int .i64 0] 30)).heap.size := size1 _ _
  generalize hW2 : W1.alloc (.cells #[.int .i64 0, .int .i64 0, .int .i64 0, .int .i64 0, .int .i64 0, .int .i64 0] 30) = W2 at *
  have bo3 := Box6W.new W2 0 0 0 0 0 0 30
  have br3 := br2.keep (bel_alloc (Below.refl _ W2) (.cells #[.int .i64 0, .int .i64 0, .int .i64 0, .int .i64 0, .int .i64 0, .int .i64 0] 30))
  have ba3 := ba2.keep (bel_alloc (Below.refl _ W2) (.cells #[.int .i64 0, .int .i64 0, .int .i64 0, .int .i64 0, .int .i64 0, .int .i64 0] 30))
  have bl3 := bel_alloc bl2 (.cells #[.int .i64 0, .int .i64 0, .int .i64 0, .int .i64 0, .int .i64 0, .int .i64 0] 30)
  rw [← z2, ← z1] at bo3
  rw [← z1] at br3
  rw [← hW2, ← hW1] at bo3 br3 ba3 bl3
  have Ba := Lib.hid ba3
  have Br := Lib.hid br3
  have Bo := Lib.hid bo3
  have Bl := Lib.hid bl3
  clear ba3 br3 bo3 bl3 hW2 hW1 z1 z2 ba1 bl1 br2 ba2 bl2
  clear W1 W2
  go_enter Tryd.func9, Tryd.ntmps9
  go_wp2_with fail
  refine (toChain_any _ _ _ _).mono ?_
  rintro e w1 ⟨rfl, hb1⟩
  have Ba1 := Lib.hid (Ba.out.keep hb1)
  have Br1 := Lib.hid (Br.out.keep hb1)
  have Bo1 := Lib.hid (Bo.out.keep hb1)
  have Bl1 := Lib.hid (bel_trans Bl.out hb1)
  clear hb1 Ba Br Bo Bl
  obtain ⟨a0, a1, a2, a3, a4, a5, a6⟩ := Ba1.out
  obtain ⟨⟨r0, r1, r2, r3, r4, r5, r6⟩, r7, r8, r9, r10, r11, r12⟩ := Br1.out
  obtain ⟨⟨o0, o1, o2, o3, o4, o5, o6⟩, o7, o8, o9, o10, o11, o12⟩ := Bo1.out
  go_wp2_with fail
  have Br2 := Lib.hid (b6_other (k := w.heap.size + 1 + 1) Br1.out (by omega) (.int .i64 a) (.int .i64 b) (.int .i64 c) (.int .i64 p) (.int .i64 q) (.int .i64 r))
  have Bl2 := Lib.hid (bel_set6 (k := w.heap.size + 1 + 1) Bl1.out (by omega) (.int .i64 a) (.int .i64 b) (.int .i64 c) (.int .i64 p) (.int .i64 q) (.int .i64 r))
  have Br3 := Lib.hid (Br2.out.set a b c p q r)
  obtain ⟨⟨n0, n1, n2, n3, n4, n5, n6⟩, _⟩ := Br3.out
  refine bodyPost_ret (v := hdn a b c p q r) (by simp [results, Tryd.results9, go_sem, n0, n1, n2, n3, n4, n5]) rfl ⟨rfl, ?_⟩
  exact bel_set6 Bl2.out (by omega) (.int .i64 a) (.int .i64 b) (.int .i64 c) (.int .i64 p) (.int .i64 q) (.int .i64 r)
end Go.Proofs.YtjfcpbedmdnjcabDoor
