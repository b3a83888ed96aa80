/- Hidden days that are handed to a law: laid open. -/
import Derived.Test.YtjfcpbedmdnjcabDoorHdA
import Derived.Deep.Strs
namespace Go.Proofs.YtjfcpbedmdnjcabDoor
set_option linter.unusedSimpArgs false
open Go.ChangeShapes Go.WideShapes Go.ChangeAt Go.RowKit Go.Joins Go.Deep
set_option linter.unusedVariables false

theorem array6 {α : Type} {cs : Array α} (h : cs.size = 6) : ∃ c0 c1 c2 c3 c4 c5, cs = #[c0, c1, c2, c3, c4, c5] := by
  obtain ⟨l⟩ := cs
  match l, h with
  | [c0, c1, c2, c3, c4, c5], _ => exact ⟨c0, c1, c2, c3, c4, c5, rfl⟩
set_option maxRecDepth 100000 in
theorem open_hdn {H : Type} {enc : TypeId × Value → H} {w : World} {base : Nat} {spare : Nat → Bool} {held : Bool} {r : Reach} {b0 : Nat} {v : Value} {d : DataW H} {p : List MemPlace}
    (hv : Value.okWide Tryd.prog w r b0 25 v) (h : DataW.Trod enc Tryd.prog w base spare held 25 v d p) :
    ∃ a b c x y z : Int, v = hdn a b c x y z ∧ (Lit.int .i64 a).wf = true ∧ (Lit.int .i64 b).wf = true ∧ (Lit.int .i64 c).wf = true ∧ (Lit.int .i64 x).wf = true ∧ (Lit.int .i64 y).wf = true ∧ (Lit.int .i64 z).wf = true := by
  have hs := Tryd.underlying25
  have hs2 := Tryd.underlying23
  have hi := Tryd.underlying3
  have hC : Tryd.prog.cellsOf 25 = 6 := by kernel_rfl
  have hC2 : Tryd.prog.cellsOf 23 = 3 := by kernel_rfl
  have hC1 : Tryd.prog.cellsOf 3 = 1 := by kernel_rfl
  obtain ⟨cs, rfl, hsz⟩ := okWide_struct hs hv
  obtain ⟨c0, c1, c2, c3, c4, c5, rfl⟩ := array6 (hsz.trans hC)
  obtain ⟨fuel, hf⟩ := h
  obtain ⟨y0, y1, y2, y3, n, hx, _, h0, h1, h2, h3⟩ := trod_struct4 hs hf
  have g1 : DataW.trod enc Tryd.prog w base spare held n 3 [c3] = some y1 := by simpa [Value.cells, hC1] using h1
  have g2 : DataW.trod enc Tryd.prog w base spare held n 3 [c4] = some y2 := by simpa [Value.cells, hC1] using h2
  have g3 : DataW.trod enc Tryd.prog w base spare held n 3 [c5] = some y3 := by simpa [Value.cells, hC1] using h3
  have g0 : DataW.trod enc Tryd.prog w base spare held n 23 [c0, c1, c2] = some y0 := by simpa [Value.cells, hC2] using h0
  obtain ⟨z0, z1, z2, m, _, _, k0, k1, k2⟩ := trod_struct3 hs2 g0
  have j0 : DataW.trod enc Tryd.prog w base spare held m 3 [c0] = some z0 := by simpa [hC1] using k0
  have j1 : DataW.trod enc Tryd.prog w base spare held m 3 [c1] = some z1 := by simpa [hC1] using k1
  have j2 : DataW.trod enc Tryd.prog w base spare held m 3 [c2] = some z2 := by simpa [hC1] using k2
  obtain ⟨a0, e0, _, w0⟩ := DataW.trod_int hi j0
  obtain ⟨a1, e1, _, w1⟩ := DataW.trod_int hi j1
  obtain ⟨a2, e2, _, w2⟩ := DataW.trod_int hi j2
  obtain ⟨a3, e3, _, w3⟩ := DataW.trod_int hi g1
  obtain ⟨a4, e4, _, w4⟩ := DataW.trod_int hi g2
  obtain ⟨a5, e5, _, w5⟩ := DataW.trod_int hi g3
  simp only [List.cons.injEq, and_true] at e0 e1 e2 e3 e4 e5
  subst e0 e1 e2 e3 e4 e5
  exact ⟨a0, a1, a2, a3, a4, a5, rfl, w0, w1, w2, w3, w4, w5⟩
end Go.Proofs.YtjfcpbedmdnjcabDoor
