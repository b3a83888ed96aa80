/- Numbers as texts: the model's, and the library's. -/
import Derived.Test.YthmdkbeccohjkaaDoorShelf
import Derived.Test.YthmdkbeccohjkaaDoorPow
import Derived.Laws.IdiomStrings
import Derived.RegionTactic
import Derived.Deep.RegionWith
namespace Go.Proofs.YthmdkbeccohjkaaDoor
set_option linter.unusedSimpArgs false
open Go.ChangeShapes Go.WideShapes Go.ChangeAt Go.RowKit
set_option linter.unusedVariables false

/-- The text of a number below 100. -/
def numS (n : Nat) : ByteArray := ⟨(Lib.decDigits n).toArray⟩
set_option maxRecDepth 100000 in
set_option maxHeartbeats 800000 in
theorem l1Num_one (n : Nat) (w : World) (hn : n < 10) :
    Calls Tryd.prog 105 #[.int .i64 n] w fun e w' => e = .returned (.string (numS n)) ∧ Below w.heap.size w w' := by
  have h1 : (n : Int) < 10 := by omega
  go_enter Tryd.func105, Tryd.ntmps105
  have hc : Hid (numS n = ⟨[UInt8.ofNat (48 + n)].toArray⟩) := by
    refine Lib.hid ?_
    unfold numS Lib.decDigits
    rw [dif_pos hn]
  have hconv := run_convert_bytes_back (P := Tryd.prog) (w.alloc (.cells #[.int .u8 (48 + (n : Int))] 5)) 22 9 5 ⟨w.heap.size, 0, none⟩ 1 [UInt8.ofNat (48 + n)] Tryd.underlying22 Tryd.underlying5 Tryd.underlying9 (fun j hj => by
    obtain rfl : j = 0 := by simpa using hj
    rw [Addr.add_lit, Nat.zero_add]
    simp [go_sem]
    omega)
  simp only [List.length_singleton] at hconv
  rw [← hc.out] at hconv
  go_wp2
  go_ret
  exact ⟨rfl, bel_alloc (Below.refl _ _) _⟩

theorem dd_len : ∀ (k q : Nat), q < 10 ^ (k + 1) → (Lib.decDigits q).length ≤ k + 1 := by
  intro k
  induction k with
  | zero => intro q hq; rw [Lib.decDigits, dif_pos (by omega)]; simp
  | succ k ih =>
    intro q hq
    rw [Lib.decDigits]
    split
    · simp
    · have := ih (q / 10) (by rw [Nat.pow_succ] at hq; omega)
      simp
      omega

set_option maxRecDepth 100000 in
set_option maxHeartbeats 1600000 in
/-- The model's text of a number. -/
theorem l1Num_any (n : Nat) (w : World) (hn : n ≤ 1000000000000000) :
    Calls Tryd.prog 105 #[.int .i64 n] w fun e w' => e = .returned (.string (numS n)) ∧ Below w.heap.size w w' := by
  induction n using Nat.strongRecOn generalizing w with
  | _ n ih =>
    by_cases h : n < 10
    · exact l1Num_one n w h
    · have ih2 := Lib.hid (ih (n / 10) (by omega))
      clear ih
      have h1 : ¬ (n : Int) < 10 := by omega
      have hc : Hid (numS n = numS (n / 10) ++ ⟨[UInt8.ofNat (48 + n % 10)].toArray⟩) := by
        refine Lib.hid ?_
        unfold numS
        rw [show Lib.decDigits n = Lib.decDigits (n / 10) ++ [UInt8.ofNat (48 + n % 10)] from by rw [Lib.decDigits]; rw [dif_neg h]]
        apply ByteArray.ext
        simp
      obtain ⟨d, hd⟩ : ∃ d, d = n % 10 := ⟨_, rfl⟩
      obtain ⟨q, hqn⟩ : ∃ q, q = n / 10 := ⟨_, rfl⟩
      have hd9 : d < 10 := by omega
      have e1 : (n : Int).tmod 10 = (d : Int) := by rw [Int.tmod_eq_emod_of_nonneg (by omega)]; omega
      have e0 : (n : Int) % 10 = (d : Int) := by omega
      have hq15 : q ≤ 1000000000000000 := by omega
      have e2 : IntKind.i64.wrap ((n : Int) / 10) = (q : Int) := by rw [IntWalk.i64_in _ (by omega)]; omega
      have w1 : IntKind.i64.wrap (48 + (d : Int)) = 48 + (d : Int) := IntWalk.i64_in _ (by omega)
      have w2 : IntKind.u8.wrap (48 + (d : Int)) = 48 + (d : Int) := IntWalk.u8_in _ (by omega)
      have hconv : ∀ (W : World) (g : Nat), W.cell? ⟨g, 0, none⟩ = some (.int .u8 (48 + (d : Int))) → (convert 22 9 (.slice (some ⟨g, 0, none⟩) 1 1)).run Tryd.prog W = .ok (.string ⟨[UInt8.ofNat (48 + d)].toArray⟩) W := fun W g h =>
        run_convert_bytes_back (P := Tryd.prog) W 22 9 5 ⟨g, 0, none⟩ 1 [UInt8.ofNat (48 + d)] Tryd.underlying22 Tryd.underlying5 Tryd.underlying9 (fun j hj => by
          obtain rfl : j = 0 := by simpa using hj
          rw [Addr.add_lit, Nat.zero_add, h]
          simp
          omega)
      have hfin : Hid (numS q ++ ⟨#[48 + UInt8.ofNat d]⟩ = numS n) := by
        refine Lib.hid ?_
        rw [hc.out, hqn, hd]
        congr 2
        simp [UInt8.ofNat_add]
      have hS : (numS q).size ≤ 1000 := by
        have := dd_len 15 q (by omega)
        show (Lib.decDigits q).toArray.size ≤ 1000
        simpa using Nat.le_trans this (by decide)
      have hS2 : ¬ ((numS q).size + (⟨[UInt8.ofNat (48 + d)].toArray⟩ : ByteArray).size > 9223372036854775807) := by
        have : (⟨[UInt8.ofNat (48 + d)].toArray⟩ : ByteArray).size = 1 := rfl
        omega
      have hS3 := hS2
      simp at hS3
      rw [← hqn] at ih2
      have HD := Lib.hid hd
      have HQ := Lib.hid hqn
      clear hd hqn
      go_enter Tryd.func105, Tryd.ntmps105
      go_wp2
      go_region_with (go_at_call 105; refine (ih2.out _ hq15).mono ?_; rintro e w1 ⟨rfl, hb1⟩; obtain ⟨hc1, hf1⟩ := bcell hb1)
      all_goals
        have hend : Below w.heap.size w w1 ∨ True := .inr trivial
        go_wp2
        go_ret
        refine ⟨by rw [hfin.out]; rfl, ?_⟩
        repeat (first | assumption | with_reducible exact Below.refl _ _ | refine bel_alloc ?_ _ | refine bel_drewN ?_ _ | refine Below.drew ?_ | (refine Below.setCell ?_ (by simp) _) | (refine bel_trans ?_ (by assumption)))
end Go.Proofs.YthmdkbeccohjkaaDoor
