/- WordOfRank: the program's contract. -/
import Derived.Test.YtiblggfihpobkabWr
namespace Go.Proofs.Ytiblggfihpobkab
set_option linter.unusedSimpArgs false
open Go.ChangeShapes Go.WideShapes Go.ChangeAt Go.RowKit Go.Shelf
set_option linter.unusedVariables false
attribute [local go_sem] Oper.semAt_some

set_option maxRecDepth 100000 in
set_option maxHeartbeats 1600000 in
theorem implWrF_any (a b r : Int) (w : World) (h1 : wrG a b r = false) :
    Calls Try.prog 22 #[.int .i64 a, .int .i64 b, .int .i64 r] w fun e w' => e = .returned (.tuple #[.string ⟨#[]⟩, .bool false]) ∧ Below w.heap.size w w' := by
  unfold wrG at h1
  have hB1 : Below w.heap.size w (w.alloc (.cells #[.int .i64 a] 3)) := bel_alloc (Below.refl _ _) _
  have hB2 : Hid (Below w.heap.size w ((w.alloc (.cells #[.int .i64 a] 3)).alloc (.cells #[.int .i64 r] 3))) := Lib.hid (bel_alloc hB1 _)
  clear hB1
  cases h2 : loG a b
  · have HA : Hid (∀ W, Calls Try.prog 46 #[.int .i64 a, .int .i64 b] W fun e w' => e = .returned (.bool false) ∧ w' = W) := Lib.hid (fun W => by have := areWords_any a b W; rw [h2] at this; exact this.mono fun _ _ ⟨x, y⟩ => ⟨x, y.symm⟩)
    clear h1 h2
    go_enter Try.func22, Try.ntmps22
    go_wp2_with fail
    go_quiet ((go_at_call 46; exact Calls.quiet_of_same (HA.out _)))
    go_wp2_with fail
    go_ret2
    exact ⟨rfl, bel_drewN hB2.out _⟩
  · rw [h2] at h1
    obtain ⟨n, L, rfl, rfl, n1, n2, l1, l2⟩ := lo_nat h2
    have HA : Hid (∀ W, Calls Try.prog 46 #[.int .i64 n, .int .i64 L] W fun e w' => e = .returned (.bool true) ∧ w' = W) := Lib.hid (fun W => by have := areWords_any n L W; rw [h2] at this; exact this.mono fun _ _ ⟨x, y⟩ => ⟨x, y.symm⟩)
    clear h2
    by_cases h3 : r < 0
    · clear h1
      have hd : decide (r < 0) = true := by simpa using h3
      go_enter Try.func22, Try.ntmps22
      go_wp2_with fail
      go_quiet ((go_at_call 46; exact Calls.quiet_of_same (HA.out _)))
      go_wp2_with fail
      go_ret2
      exact ⟨rfl, bel_drewN hB2.out _⟩
    · have hd : decide (r < 0) = false := by simpa using h3
      have hr0 : 0 ≤ r := by omega
      obtain ⟨q, hq⟩ : ∃ q, q = (n : Int) ^ L := ⟨_, rfl⟩
      have hqr : q ≤ r := by
        have h4 : (0 ≤ r → n ^ L ≤ r) := by simpa using h1
        have := h4 hr0
        rw [hq]
        exact this
      have HP : Hid (∀ W, Calls Try.prog 51 #[.int .i64 n, .int .i64 L] W fun e w' => e = .returned (.int .i64 q) ∧ w' = W) := Lib.hid (fun W => by have := powerW_any n L W n1 n2 (by omega); rw [← hq] at this; exact this.mono fun _ _ ⟨x, y⟩ => ⟨x, y.symm⟩)
      clear hq h1
      have hd2 : decide (q ≤ r) = true := by simpa using hqr
      go_enter Try.func22, Try.ntmps22
      go_wp2_with fail
      go_quiet ((first | (go_at_call 46; exact Calls.quiet_of_same (HA.out _)) | (go_at_call 51; exact Calls.quiet_of_same (HP.out _))))
      go_wp2_with fail
      go_ret2
      exact ⟨rfl, bel_drewN hB2.out _⟩
end Go.Proofs.Ytiblggfihpobkab
