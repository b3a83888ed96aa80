/- Words: contracts of the functions that look at texts and words, of the program and of its model. -/
import Derived.Test.YtjfcpbedmdnjcabDoorWoAl
import Derived.Test.YtjfcpbedmdnjcabDoorShelf
import Derived.Shelf.Strings.SlTrimAscii
namespace Go.Proofs.YtjfcpbedmdnjcabDoor
set_option linter.unusedSimpArgs false
open Go.ChangeShapes Go.WideShapes Go.ChangeAt Go.RowKit
set_option linter.unusedVariables false

set_option maxHeartbeats 800000 in
theorem woText_any (n : Nat) (s : ByteArray) (lo hi : Int) (w : World) (n1 : 1 ≤ n) (n2 : n ≤ 26) (hs : s.size ≤ maxLen) :
    Calls Tryd.prog 73 #[.int .i64 n, .string s, .int .i64 lo, .int .i64 hi] w fun e w' => e = .returned (.bool (inB s.size lo hi && allN n s)) ∧ w = w' := by
  unfold maxLen at hs
  cases h1 : inB s.size lo hi
  · rw [Bool.false_and]
    go_enter Tryd.func73, Tryd.ntmps73
    go_wp2_with fail
    refine (l1In_any _ _ _ _).mono ?_
    rintro e w' ⟨rfl, rfl⟩
    rw [h1]
    go_wp2_with fail
    go_ret
    exact ⟨rfl, rfl⟩
  · rw [Bool.true_and]
    go_enter Tryd.func73, Tryd.ntmps73
    go_wp2_with fail
    refine (l1In_any _ _ _ _).mono ?_
    rintro e w' ⟨rfl, rfl⟩
    rw [h1]
    clear h1
    go_wp2_with fail
    go_loop [9] (fun i => ∃ k : Nat, k ≤ s.size ∧ i = .int .i64 k ∧ Hid (∀ j, (hj : j < s.size) → j < k → alB n s[j] = true)) (fun i => s.size - (intOf i).toNat)
    case atStart => exact ⟨0, by omega, rfl, fun _ _ h => by omega⟩
    case round =>
      obtain ⟨k, hk, rfl, hall⟩ := hrel
      by_cases hlt : k < s.size
      · have hlt8 := s[k].toNat_lt
        have hw2 : IntKind.i64.wrap ((s[k].toNat : Int)) = (s[k].toNat : Int) := IntWalk.i64_in _ (by omega)
        have hw3 : IntKind.i64.wrap ((s[k].toNat : Int) - 97) = (s[k].toNat : Int) - 97 := IntWalk.i64_in _ (by omega)
        cases hq : alB n s[k] with
        | false =>
          have hf : Hid (allN n s = false) := Lib.hid (allN_not n s k hlt hq)
          rw [al_in] at hq
          go_wp2_with fail
          refine (l1In_any _ _ _ _).mono ?_
          rintro e w' ⟨rfl, rfl⟩
          rw [hq]
          clear hq
          go_wp2_with fail
          go_ret
          exact ⟨by rw [hf.out]; rfl, rfl⟩
        | true =>
          have hq2 := Lib.hid hq
          rw [al_in] at hq
          go_wp2_with fail
          refine (l1In_any _ _ _ _).mono ?_
          rintro e w' ⟨rfl, rfl⟩
          rw [hq]
          clear hq
          go_wp2_with fail
          exact ⟨⟨k + 1, by omega, by go_num, al_step hall.out hlt hq2.out⟩, by simp [intOf]; omega⟩
      · go_wp2_with fail
        go_ret
        exact ⟨by rw [show allN n s = true from allN_of n s (fun j hj => hall.out j hj (by omega))]; rfl, rfl⟩

theorem woWord_any (n : Nat) (s : ByteArray) (w : World) (n1 : 1 ≤ n) (n2 : n ≤ 26) (hs : s.size ≤ maxLen) :
    Calls Tryd.prog 58 #[.int .i64 n, .string s] w fun e w' => e = .returned (.bool (woG n s)) ∧ w = w' := by
  go_enter Tryd.func58, Tryd.ntmps58
  go_wp2_with fail
  refine (woText_any n s 1 8 _ n1 n2 hs).mono ?_
  rintro e w' ⟨rfl, rfl⟩
  go_wp2_with fail
  go_ret
  exact ⟨rfl, rfl⟩
open Go.Shelf Go.Lib in
theorem alpha_ascii : (List.range 27).all (fun n => ((alpha.extract 0 n).data.toList).all (fun b => decide (b.toNat < 128))) = true := by kernel_rfl
theorem alpha_size (n : Nat) (hn : n ≤ 26) : (alpha.extract 0 n).size = n := by
  rw [ext_size alpha 0 n hn, Nat.sub_zero]
open Go.Shelf Go.Lib in
/-- What is left of letters: nothing; of another text: something. -/
theorem trimA_any (n : Nat) (s : ByteArray) (w : World) (n2 : n ≤ 26) (hs : s.size ≤ maxLen) :
    Calls Tryd.prog 78 #[.string s, .string (alpha.extract 0 n)] w fun e w' => ∃ t : ByteArray, e = .returned (.string t) ∧ t.toList.isEmpty = allN n s ∧ Below w.heap.size w w' := by
  have hc := alpha_ascii
  rw [List.all_eq_true] at hc
  have hcon := Any.strings_Trim_laid Tryd.lays160 (by kernel_rfl) s (alpha.extract 0 n) w hs (by rw [alpha_size n n2]; omega) (ascii_of_all (hc n (List.mem_range.2 (by omega))))
  change Calls Tryd.prog 78 _ _ (fun e w' => e = .returned (.string ⟨(Lib.trimS s.data.toList (alpha.extract 0 n).data.toList).toArray⟩) ∧ Below w.heap.size w w') at hcon
  refine hcon.mono ?_
  rintro e w' ⟨rfl, hb⟩
  refine ⟨_, rfl, ?_, hb⟩
  rw [Bool.eq_iff_iff, ByteArray.toList_eq, List.isEmpty_iff]
  unfold allN
  rw [← trim_all _ _ _ (cont_al n n2)]
theorem letters_any (n : Nat) (s : ByteArray) (w : World) (n1 : 1 ≤ n) (n2 : n ≤ 26) (hs : s.size ≤ maxLen) :
    Calls Tryd.prog 89 #[.int .i64 n, .string s] w fun e w' => e = .returned (.bool (allN n s)) ∧ Below w.heap.size w w' := by
  have Hs := Lib.hid hs
  clear hs
  go_enter Tryd.func89, Tryd.ntmps89
  go_wp2_with fail
  refine (trimA_any n s _ n2 Hs.out).mono ?_
  rintro e w' ⟨t, rfl, ht, hb⟩
  go_wp2_with fail
  go_ret
  exact ⟨by rw [← ht]; rfl, hb⟩
theorem isWordOf_any (n : Nat) (s : ByteArray) (w : World) (n1 : 1 ≤ n) (n2 : n ≤ 26) (hs : s.size ≤ maxLen) :
    Calls Tryd.prog 75 #[.int .i64 n, .string s] w fun e w' => e = .returned (.bool (woG n s)) ∧ Below w.heap.size w w' := by
  by_cases h1 : 1 ≤ s.size
  · by_cases h2 : s.size ≤ 8
    · have z1 : 1 ≤ (s.size : Int) := by omega
      have z2 : (s.size : Int) ≤ 8 := by omega
      have hp : woG n s = allN n s := by unfold woG inB; simp [z1, z2]
      rw [hp]
      have Hs := Lib.hid hs
      clear hp h1 h2 hs
      go_enter Tryd.func75, Tryd.ntmps75
      go_wp2_with fail
      refine (letters_any n s _ n1 n2 Hs.out).mono ?_
      rintro e w' ⟨rfl, hb⟩
      go_wp2_with fail
      go_ret
      exact ⟨rfl, hb⟩
    · have z1 : 1 ≤ (s.size : Int) := by omega
      have z2 : ¬ (s.size : Int) ≤ 8 := by omega
      have hp : woG n s = false := by unfold woG inB; simp; omega
      rw [hp]
      clear hp h1 h2
      go_enter Tryd.func75, Tryd.ntmps75
      go_wp2
      go_ret
      exact ⟨rfl, Below.refl _ _⟩
  · have z1 : ¬ 1 ≤ (s.size : Int) := by omega
    have hp : woG n s = false := by unfold woG inB; simp; omega
    rw [hp]
    clear hp h1
    go_enter Tryd.func75, Tryd.ntmps75
    go_wp2
    go_ret
    exact ⟨rfl, Below.refl _ _⟩
/-- An alphabet, and a word of it. -/
def tyG (a : Int) (s : ByteArray) : Bool := inB a 1 26 && woG a.toNat s
theorem ty_in {a : Int} {s : ByteArray} (h : tyG a s = true) : ∃ n : Nat, a = n ∧ 1 ≤ n ∧ n ≤ 26 ∧ woG n s = true := by
  unfold tyG at h
  rw [Bool.and_eq_true] at h
  unfold inB at h
  simp at h
  exact ⟨a.toNat, by omega, by omega, by omega, h.2⟩
theorem woAsked_any (a : Int) (s : ByteArray) (w : World) (hs : s.size ≤ maxLen) :
    Calls Tryd.prog 35 #[.int .i64 a, .string s] w fun e w' => e = .returned (.bool (tyG a s)) ∧ w = w' := by
  cases h1 : inB a 1 26
  · rw [show tyG a s = false from by unfold tyG; rw [h1]; rfl]
    go_enter Tryd.func35, Tryd.ntmps35
    go_wp2_with fail
    refine (woAlphabet_any a _).mono ?_
    rintro e w' ⟨rfl, rfl⟩
    rw [h1]
    go_wp2_with fail
    go_ret
    exact ⟨rfl, rfl⟩
  · obtain ⟨n, rfl, n1, n2⟩ := al_nat h1
    rw [show tyG n s = woG n s from by unfold tyG; rw [h1]; rfl]
    go_enter Tryd.func35, Tryd.ntmps35
    go_wp2_with fail
    refine (woAlphabet_any n _).mono ?_
    rintro e w' ⟨rfl, rfl⟩
    rw [h1]
    go_wp2_with fail
    refine (woWord_any n s _ n1 n2 hs).mono ?_
    rintro e w' ⟨rfl, rfl⟩
    go_wp2_with fail
    go_ret
    exact ⟨rfl, rfl⟩
theorem isTyped_any (a : Int) (s : ByteArray) (w : World) (hs : s.size ≤ maxLen) :
    Calls Tryd.prog 61 #[.int .i64 a, .string s] w fun e w' => e = .returned (.bool (tyG a s)) ∧ Below w.heap.size w w' := by
  cases h1 : inB a 1 26
  · rw [show tyG a s = false from by unfold tyG; rw [h1]; rfl]
    go_enter Tryd.func61, Tryd.ntmps61
    go_wp2_with fail
    refine (isAlphabet_any a _).mono ?_
    rintro e w' ⟨rfl, rfl⟩
    rw [h1]
    go_wp2_with fail
    go_ret
    exact ⟨rfl, Below.refl _ _⟩
  · obtain ⟨n, rfl, n1, n2⟩ := al_nat h1
    rw [show tyG n s = woG n s from by unfold tyG; rw [h1]; rfl]
    go_enter Tryd.func61, Tryd.ntmps61
    go_wp2_with fail
    refine (isAlphabet_any n _).mono ?_
    rintro e w' ⟨rfl, rfl⟩
    rw [h1]
    go_wp2_with fail
    refine (isWordOf_any n s _ n1 n2 hs).mono ?_
    rintro e w' ⟨rfl, hb⟩
    go_wp2_with fail
    go_ret
    exact ⟨rfl, hb⟩

end Go.Proofs.YtjfcpbedmdnjcabDoor
