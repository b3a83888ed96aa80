/- WordOfRank: the walk of the law. -/
import Derived.Test.YtiblggfihpobkabWrJ
namespace Go.Proofs.Ytiblggfihpobkab
set_option linter.unusedSimpArgs false
open Go.ChangeShapes Go.WideShapes Go.ChangeAt Go.RowKit
set_option linter.unusedVariables false

theorem implWr_any (a b r : Int) (w : World) :
    Calls Try.prog 22 #[.int .i64 a, .int .i64 b, .int .i64 r] w fun e w' => e = .returned (ansWr a b r) ∧ Below w.heap.size w w' := by
  cases h : wrG a b r
  · rw [show ansWr a b r = .tuple #[.string ⟨#[]⟩, .bool false] from by unfold ansWr; rw [h]; rfl]
    exact implWrF_any a b r w h
  · have h1 : loG a b = true ∧ 0 ≤ r ∧ r < a ^ b.toNat := by
      unfold wrG at h
      simpa using h
    rw [show ansWr a b r = .tuple #[.string (wdB a.toNat b.toNat r.toNat), .bool true] from by unfold ansWr; rw [h]; rfl]
    clear h
    obtain ⟨h2, h3, h4⟩ := h1
    obtain ⟨n, L, rfl, rfl, n1, n2, l1, l2⟩ := lo_nat h2
    obtain ⟨k, rfl⟩ : ∃ k : Nat, r = k := ⟨r.toNat, by omega⟩
    exact (Go.callsIn_wide (n := 3)).1 (implWrT_in n L k w n1 n2 l1 l2 h2 h4)
set_option maxRecDepth 100000 in
set_option maxHeartbeats 1600000 in
theorem walkExactWordOfRank (a b r : Int) (w : World) (ha : (Lit.int .i64 a).wf = true) (hb : (Lit.int .i64 b).wf = true) (hr : (Lit.int .i64 r).wf = true) :
    Calls Try.prog 7 #[.int .i64 a, .int .i64 b, .int .i64 r] w fun e w' => e = .returned (.bool true) ∧ Below w.heap.size w w' := by
  clear ha
  clear hb
  clear hr
  obtain ⟨x, o, hf⟩ := ansWr_form a b r
  have Hf := Lib.hid hf
  clear hf
  go_enter Try.func7, Try.ntmps7
  go_wp2_with fail
  refine (specWr_any a b r _).mono ?_
  rw [Hf.out]
  rintro e w1 ⟨rfl, b1⟩
  go_wp2_with fail
  refine (implWr_any a b r _).mono ?_
  rw [Hf.out]
  rintro e w2 ⟨rfl, b2⟩
  go_wp2_with fail
  go_ret
  exact ⟨rfl, bel_trans b1 b2⟩
end Go.Proofs.Ytiblggfihpobkab
