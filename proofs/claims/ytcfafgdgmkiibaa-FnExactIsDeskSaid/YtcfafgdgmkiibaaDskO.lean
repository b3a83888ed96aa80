/- A desk that is handed to a law: laid open. -/
import Derived.Test.YtcfafgdgmkiibaaDsk
import Derived.Deep.Strs
namespace Go.Proofs.Ytcfafgdgmkiibaa
set_option linter.unusedSimpArgs false
open Go.ChangeShapes Go.WideShapes Go.ChangeAt Go.RowKit Go.Joins Go.Deep
set_option linter.unusedVariables false

theorem array11 {α : Type} {cs : Array α} (h : cs.size = 11) : ∃ c0 c1 c2 c3 c4 c5 c6 c7 c8 c9 c10, cs = #[c0, c1, c2, c3, c4, c5, c6, c7, c8, c9, c10] := by
  obtain ⟨l⟩ := cs
  match l, h with
  | [c0, c1, c2, c3, c4, c5, c6, c7, c8, c9, c10], _ => exact ⟨c0, c1, c2, c3, c4, c5, c6, c7, c8, c9, c10, rfl⟩
set_option maxRecDepth 100000 in
theorem open_dsk {H : Type} {enc : TypeId × Value → H} {w : World} {base : Nat} {spare : Nat → Bool} {held : Bool} {r : Reach} {b0 : Nat} {v : Value} {d : DataW H} {p : List MemPlace}
    (hv : Value.okWide Try.prog w r b0 38 v) (h : DataW.Trod enc Try.prog w base spare held 38 v d p) :
    ∃ x0 x1 x2 x3 x4 x5 x6 x7 x8 x9 x10 : Int, v = dsk x0 x1 x2 x3 x4 x5 x6 x7 x8 x9 x10 ∧ (Lit.int .i64 x0).wf = true ∧ (Lit.int .i64 x1).wf = true ∧ (Lit.int .i64 x2).wf = true ∧ (Lit.int .i64 x3).wf = true ∧ (Lit.int .i64 x4).wf = true ∧ (Lit.int .i64 x5).wf = true ∧ (Lit.int .i64 x6).wf = true ∧ (Lit.int .i64 x7).wf = true ∧ (Lit.int .i64 x8).wf = true ∧ (Lit.int .i64 x9).wf = true ∧ (Lit.int .i64 x10).wf = true := by
  have hs := Try.underlying38
  have hsC := Try.underlying33
  have hsO := Try.underlying34
  have hsH := Try.underlying36
  have hi := Try.underlying3
  have hC : Try.prog.cellsOf 38 = 11 := by kernel_rfl
  have hC1 : Try.prog.cellsOf 3 = 1 := by kernel_rfl
  have hC3 : Try.prog.cellsOf 33 = 3 := by kernel_rfl
  have hC2 : Try.prog.cellsOf 34 = 2 := by kernel_rfl
  have hC6 : Try.prog.cellsOf 36 = 6 := by kernel_rfl
  obtain ⟨cs, rfl, hsz⟩ := okWide_struct hs hv
  obtain ⟨c0, c1, c2, c3, c4, c5, c6, c7, c8, c9, c10, rfl⟩ := array11 (hsz.trans hC)
  obtain ⟨fuel, hf⟩ := h
  obtain ⟨y0, y1, y2, nn, hx, _, h0, h1, h2⟩ := trod_struct3 hs hf
  have g0 : DataW.trod enc Try.prog w base spare held nn 33 [c0, c1, c2] = some y0 := by simpa [Value.cells, hC3] using h0
  have g1 : DataW.trod enc Try.prog w base spare held nn 34 [c3, c4] = some y1 := by simpa [Value.cells, hC3, hC2] using h1
  have g2 : DataW.trod enc Try.prog w base spare held nn 36 [c5, c6, c7, c8, c9, c10] = some y2 := by simpa [Value.cells, hC3, hC2, hC6] using h2
  obtain ⟨z0, z1, z2, m0, _, _, k0, k1, k2⟩ := trod_struct3 hsC g0
  obtain ⟨z3, z4, m1, _, _, k3, k4⟩ := trod_struct2 hsO g1
  obtain ⟨u0, z8, z9, z10, m2, _, _, kk, k8, k9, k10⟩ := trod_struct4 hsH g2
  have kc : DataW.trod enc Try.prog w base spare held m2 33 [c5, c6, c7] = some u0 := by simpa [hC3] using kk
  obtain ⟨z5, z6, z7, m3, _, _, k5, k6, k7⟩ := trod_struct3 hsC kc
  have j0 : DataW.trod enc Try.prog w base spare held m0 3 [c0] = some z0 := by simpa [hC1, hC3] using k0
  have j1 : DataW.trod enc Try.prog w base spare held m0 3 [c1] = some z1 := by simpa [hC1, hC3] using k1
  have j2 : DataW.trod enc Try.prog w base spare held m0 3 [c2] = some z2 := by simpa [hC1, hC3] using k2
  have j3 : DataW.trod enc Try.prog w base spare held m1 3 [c3] = some z3 := by simpa [hC1, hC3] using k3
  have j4 : DataW.trod enc Try.prog w base spare held m1 3 [c4] = some z4 := by simpa [hC1, hC3] using k4
  have j5 : DataW.trod enc Try.prog w base spare held m3 3 [c5] = some z5 := by simpa [hC1, hC3] using k5
  have j6 : DataW.trod enc Try.prog w base spare held m3 3 [c6] = some z6 := by simpa [hC1, hC3] using k6
  have j7 : DataW.trod enc Try.prog w base spare held m3 3 [c7] = some z7 := by simpa [hC1, hC3] using k7
  have j8 : DataW.trod enc Try.prog w base spare held m2 3 [c8] = some z8 := by simpa [hC1, hC3] using k8
  have j9 : DataW.trod enc Try.prog w base spare held m2 3 [c9] = some z9 := by simpa [hC1, hC3] using k9
  have j10 : DataW.trod enc Try.prog w base spare held m2 3 [c10] = some z10 := by simpa [hC1, hC3] using k10
  obtain ⟨a0, e0, _, w0⟩ := DataW.trod_int hi j0
  obtain ⟨a1, e1, _, w1⟩ := DataW.trod_int hi j1
  obtain ⟨a2, e2, _, w2⟩ := DataW.trod_int hi j2
  obtain ⟨a3, e3, _, w3⟩ := DataW.trod_int hi j3
  obtain ⟨a4, e4, _, w4⟩ := DataW.trod_int hi j4
  obtain ⟨a5, e5, _, w5⟩ := DataW.trod_int hi j5
  obtain ⟨a6, e6, _, w6⟩ := DataW.trod_int hi j6
  obtain ⟨a7, e7, _, w7⟩ := DataW.trod_int hi j7
  obtain ⟨a8, e8, _, w8⟩ := DataW.trod_int hi j8
  obtain ⟨a9, e9, _, w9⟩ := DataW.trod_int hi j9
  obtain ⟨a10, e10, _, w10⟩ := DataW.trod_int hi j10
  simp only [List.cons.injEq, and_true] at e0 e1 e2 e3 e4 e5 e6 e7 e8 e9 e10
  subst e0 e1 e2 e3 e4 e5 e6 e7 e8 e9 e10
  exact ⟨a0, a1, a2, a3, a4, a5, a6, a7, a8, a9, a10, rfl, w0, w1, w2, w3, w4, w5, w6, w7, w8, w9, w10⟩
end Go.Proofs.Ytcfafgdgmkiibaa
