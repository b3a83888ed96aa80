/- Ranks of words: contracts of the program and of its model. -/
import Derived.Test.YtiblggfihpobkabDoorWoPw
import Derived.Lib.OthersKept
namespace Go.Proofs.YtiblggfihpobkabDoor
set_option linter.unusedSimpArgs false
open Go.ChangeShapes Go.WideShapes Go.ChangeAt Go.RowKit
set_option linter.unusedVariables false

theorem iterPosW {w : World} {k p : Nat} {s : ByteArray} (h : w.heap[k]? = some (.stringIter s p)) : w.iterPos k = p := by
  unfold World.iterPos
  rw [h]
theorem rk_nat (n : Nat) (s : ByteArray) (k : Nat) (hk : k < s.size) : rkK n s (k + 1) = rkK n s k * n + ((s[k].toNat : Int) - 97) := rkK_succ n s k hk
set_option maxRecDepth 100000 in
set_option maxHeartbeats 1600000 in
theorem woRank_any (n : Nat) (s : ByteArray) (w : World) (n1 : 1 ≤ n) (n2 : n ≤ 26) (h1 : 1 ≤ s.size) (h8 : s.size ≤ 8) (ha : allN n s = true) :
    Calls Tryd.prog 32 #[.int .i64 n, .string s] w fun e w' => e = .returned (.int .i64 (rkK n s s.size)) ∧ w = w' := by
  have HA := Lib.hid ha
  clear ha
  go_enter Tryd.func32, Tryd.ntmps32
  go_wp2
  go_loop [5, 6] (fun x i => ∃ k : Nat, k ≤ s.size ∧ i = .int .i64 k ∧ x = .int .i64 (rkK n s k)) (fun _ i => s.size - (intOf i).toNat)
  case atStart => exact ⟨0, by omega, rfl, by rw [rkK_zero]⟩
  case round =>
    obtain ⟨k, hk, rfl, rfl⟩ := hrel
    obtain ⟨b0, b1⟩ := rkK_in HA.out k hk
    obtain ⟨c0, c1⟩ := pw_le8 n n1 n2 k (by omega)
    by_cases hlt : k < s.size
    · obtain ⟨d0, d1⟩ := allN_at HA.out k hlt
      obtain ⟨e0, e1⟩ := rkK_in HA.out (k + 1) hlt
      obtain ⟨f0, f1⟩ := pw_le8 n n1 n2 (k + 1) (by omega)
      have hs := Lib.hid (rkK_succ n s k hlt)
      rw [rkK_succ n s k hlt] at e0 e1
      have hx : rkK n s k * n ≤ 300000000000 := by omega
      have hx0 : 0 ≤ rkK n s k * n := Int.mul_nonneg b0 (by omega)
      generalize (n : Int) ^ k = P at *
      generalize (n : Int) ^ (k + 1) = Q at *
      generalize rkK n s k = x at *
      have hw1 : IntKind.i64.wrap (x * (n : Int)) = x * (n : Int) := IntWalk.i64_in _ (by omega)
      have hw2 : IntKind.u8.wrap ((s[k].toNat : Int) - 97) = (s[k].toNat : Int) - 97 := IntWalk.u8_in _ (by omega)
      have hw3 : IntKind.i64.wrap ((s[k].toNat : Int) - 97) = (s[k].toNat : Int) - 97 := IntWalk.i64_in _ (by omega)
      have hw4 : IntKind.i64.wrap (x * (n : Int) + ((s[k].toNat : Int) - 97)) = x * (n : Int) + ((s[k].toNat : Int) - 97) := IntWalk.i64_in _ (by omega)
      go_wp2
      exact ⟨⟨k + 1, by omega, by go_num, by rw [hs.out]⟩, by simp [intOf]; omega⟩
    · obtain rfl : k = s.size := by omega
      go_wp2
      go_ret
      exact ⟨rfl, rfl⟩
set_option maxRecDepth 100000 in
set_option maxHeartbeats 1600000 in
theorem implRank_any (n : Nat) (s : ByteArray) (w : World) (n1 : 1 ≤ n) (n2 : n ≤ 26) (h1 : 1 ≤ s.size) (h8 : s.size ≤ 8) (ha : allN n s = true) :
    Calls Tryd.prog 52 #[.int .i64 n, .string s] w fun e w' => e = .returned (.int .i64 (rkK n s s.size)) ∧ Below w.heap.size w w' := by
  have HA := Lib.hid ha
  clear ha
  go_enter Tryd.func52, Tryd.ntmps52
  go_wp2
  go_loopw [5] (fun x wr => ∃ p : Nat, p ≤ s.size ∧ x = .int .i64 (rkK n s p) ∧ Hid (wr.heap[w.heap.size]? = some (.stringIter s p)) ∧ Below w.heap.size w wr) (fun _ wr => s.size - wr.iterPos w.heap.size)
  case atStart =>
    refine ⟨0, by omega, by rw [rkK_zero], ?_, ?_⟩
    · have := World.iter_heap w s 0
      exact Lib.hid (by simpa using this)
    · exact bel_alloc (Below.refl _ _) _
  case round =>
    obtain ⟨k, hk, rfl, hit, hbl⟩ := hrel
    obtain ⟨wa, rfl⟩ : ∃ wa : World, wa = wr := ⟨_, rfl⟩
    have hsz : w.heap.size < wa.heap.size := (Array.getElem?_eq_some_iff.1 hit.out).1
    obtain ⟨b0, b1⟩ := rkK_in HA.out k hk
    obtain ⟨c0, c1⟩ := pw_le8 n n1 n2 k (by omega)
    by_cases hlt : k < s.size
    · obtain ⟨d0, d1⟩ := allN_at HA.out k hlt
      obtain ⟨W0, hW0⟩ : ∃ W0, W0 = wa.iterAt w.heap.size s (k + 1) := ⟨_, rfl⟩
      have hnx : ∀ ty, (Instr.next (.pointer (some ⟨w.heap.size, 0, none⟩)) true ty).run Tryd.prog wa = .ok (.tuple #[.bool true, .int .i64 k, .int .i32 s[k].toNat]) W0 := fun ty => by
        rw [hW0]; exact Lib.run_next_ascii_at wa w.heap.size s k ty hit.out hlt (by omega)
      have it0 := Lib.hid (Lib.iterAt_heap wa w.heap.size s k (k + 1) hit.out)
      have bl0 := Lib.below_iterAt hbl (k := w.heap.size) (by omega) s (k + 1)
      rw [← hW0] at it0 bl0
      have Hpos := Lib.hid (iterPosW hit.out)
      clear hW0 hit
      obtain ⟨e0, e1⟩ := rkK_in HA.out (k + 1) hlt
      obtain ⟨f0, f1⟩ := pw_le8 n n1 n2 (k + 1) (by omega)
      have hs := Lib.hid (rkK_succ n s k hlt)
      rw [rkK_succ n s k hlt] at e0 e1
      have hx : rkK n s k * n ≤ 300000000000 := by omega
      have hx0 : 0 ≤ rkK n s k * n := Int.mul_nonneg b0 (by omega)
      generalize (n : Int) ^ k = P at *
      generalize (n : Int) ^ (k + 1) = Q at *
      generalize rkK n s k = x at *
      have hw1 : IntKind.i64.wrap (x * (n : Int)) = x * (n : Int) := IntWalk.i64_in _ (by omega)
      have hw2 : IntKind.i32.wrap ((s[k].toNat : Int) - 97) = (s[k].toNat : Int) - 97 := IntWalk.i32_in _ (by omega)
      have hw3 : IntKind.i64.wrap ((s[k].toNat : Int) - 97) = (s[k].toNat : Int) - 97 := IntWalk.i64_in _ (by omega)
      have hw4 : IntKind.i64.wrap (x * (n : Int) + ((s[k].toNat : Int) - 97)) = x * (n : Int) + ((s[k].toNat : Int) - 97) := IntWalk.i64_in _ (by omega)
      go_wp2
      exact ⟨⟨k + 1, by omega, by rw [hs.out], it0.out, bl0⟩, by rw [iterPosW it0.out, Hpos.out]; omega⟩
    · obtain rfl : k = s.size := by omega
      have hnx : ∀ ty, (Instr.next (.pointer (some ⟨w.heap.size, 0, none⟩)) true ty).run Tryd.prog wa = .ok (.tuple #[.bool false]) wa := fun ty => Lib.run_next_end_at wa w.heap.size s s.size ty hit.out hlt
      go_wp2
      go_ret
      exact ⟨rfl, hbl⟩
end Go.Proofs.YtiblggfihpobkabDoor
