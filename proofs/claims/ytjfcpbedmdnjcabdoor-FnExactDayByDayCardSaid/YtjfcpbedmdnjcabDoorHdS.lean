/- Signs: contracts of the functions of the program that look at them. -/
import Derived.Test.YtjfcpbedmdnjcabDoorHdA
import Derived.Test.YtjfcpbedmdnjcabDoorShelf
import Derived.Shelf.Strings.SlTrimAscii
namespace Go.Proofs.YtjfcpbedmdnjcabDoor
set_option linter.unusedSimpArgs false
open Go.ChangeShapes Go.WideShapes Go.ChangeAt Go.RowKit
set_option linter.unusedVariables false

theorem cont_sg (b : UInt8) : ([110, 117] : List UInt8).contains b = sgB b := by
  simp [List.contains, List.elem, sgB]
  cases h : (b == 110) <;> cases h2 : (b == 117) <;> simp_all
theorem trimG_iff (l : List UInt8) : Lib.trimS l [110, 117] = [] ↔ l.all sgB = true := by
  have e : (fun b : UInt8 => ([110, 117] : List UInt8).contains b) = sgB := funext cont_sg
  unfold Lib.trimS Lib.trimLeftS Lib.trimRightS
  rw [e, List.all_eq_true]
  constructor
  · intro h
    have h1 := nil_dw _ h
    have h2 := dw_all l.reverse (fun x hx => h1 x (by simpa using hx))
    intro x hx
    exact h2 x (by simpa using hx)
  · intro h
    rw [dw_nil l.reverse (fun x hx => h x (by simpa using hx))]
    rfl
open Go.Shelf Go.Lib in
theorem trimG_any (s : ByteArray) (w : World) (hs : s.size ≤ 200) :
    Calls Tryd.prog 78 #[.string s, .string ⟨#[110, 117]⟩] w fun e w' => ∃ t : ByteArray, e = .returned (.string t) ∧ t.toList.isEmpty = allG s ∧ Below w.heap.size w w' := by
  have hcon := Any.strings_Trim_laid Tryd.lays160 (by kernel_rfl) s ⟨#[110, 117]⟩ w (by omega) (by decide) (ascii_of_all (by decide))
  change Calls Tryd.prog 78 _ _ (fun e w' => e = .returned (.string ⟨(Lib.trimS s.data.toList [110, 117]).toArray⟩) ∧ Below w.heap.size w w') at hcon
  refine hcon.mono ?_
  rintro e w' ⟨rfl, hb⟩
  refine ⟨_, rfl, ?_, hb⟩
  rw [Bool.eq_iff_iff, ByteArray.toList_eq, List.isEmpty_iff]
  unfold allG
  rw [← trimG_iff]

theorem implAreSigns_any (s : ByteArray) (w : World) (hs : s.size ≤ maxLen) :
    Calls Tryd.prog 66 #[.string s] w fun e w' => e = .returned (.bool (signsB s)) ∧ Below w.heap.size w w' := by
  unfold maxLen at hs
  by_cases h1 : 1 ≤ s.size
  · by_cases h2 : s.size ≤ 6
    · have z1 : 1 ≤ (s.size : Int) := by omega
      have z2 : (s.size : Int) ≤ 6 := by omega
      have hp : signsB s = allG s := by unfold signsB inB; simp [z1, z2]
      rw [hp]
      have Hs := Lib.hid (show s.size ≤ 200 by omega)
      clear hp h1 h2 hs
      go_enter Tryd.func66, Tryd.ntmps66
      go_wp2_with fail
      refine (trimG_any s _ Hs.out).mono ?_
      rintro e w' ⟨t, rfl, ht, hb⟩
      go_wp2_with fail
      go_ret
      exact ⟨by rw [← ht]; rfl, hb⟩
    · have z1 : 1 ≤ (s.size : Int) := by omega
      have z2 : ¬ (s.size : Int) ≤ 6 := by omega
      have z3 : decide ((s.size : Int) ≤ 6) = false := by simpa using z2
      have hp : signsB s = false := by unfold signsB inB; simp; omega
      rw [hp]
      clear hp h1 h2
      go_enter Tryd.func66, Tryd.ntmps66
      go_wp2
      go_ret
      exact ⟨rfl, Below.refl _ _⟩
  · have z1 : ¬ 1 ≤ (s.size : Int) := by omega
    have z3 : decide (1 ≤ (s.size : Int)) = false := by simpa using z1
    have hp : signsB s = false := by unfold signsB inB; simp; omega
    rw [hp]
    clear hp h1
    go_enter Tryd.func66, Tryd.ntmps66
    go_wp2
    go_ret
    exact ⟨rfl, Below.refl _ _⟩

set_option maxHeartbeats 800000 in
theorem isSigned_any (a b c p q r : Int) (s : ByteArray) (w : World) (hs : s.size ≤ maxLen) :
    Calls Tryd.prog 44 #[hdn a b c p q r, .string s] w fun e w' => e = .returned (.bool (goodH a b c p q r && signsB s)) ∧ Below w.heap.size w w' := by
  cases h1 : goodH a b c p q r
  · go_enter Tryd.func44, Tryd.ntmps44
    go_wp2_with fail
    refine (implIsHidden_any _ _ _ _ _ _ _).mono ?_
    rintro e w1 ⟨rfl, hb1⟩
    rw [h1]
    go_wp2_with fail
    go_ret
    exact ⟨rfl, bel_trans (bel_alloc (Below.refl _ _) _) hb1⟩
  · go_enter Tryd.func44, Tryd.ntmps44
    go_wp2_with fail
    refine (implIsHidden_any _ _ _ _ _ _ _).mono ?_
    rintro e w1 ⟨rfl, hb1⟩
    rw [h1]
    go_wp2_with fail
    refine (implAreSigns_any _ _ hs).mono ?_
    rintro e w2 ⟨rfl, hb2⟩
    go_wp2_with fail
    go_ret
    exact ⟨rfl, bel_trans (bel_trans (bel_alloc (Below.refl _ _) _) hb1) hb2⟩

/-- One sign: a text of one. -/
def sgnS (s : ByteArray) : Bool := s.toList == [117] || s.toList == [110]
theorem signsB_one {s : ByteArray} (h : s.size = 1) : signsB s = sgnS s := by
  obtain ⟨c, hc⟩ := one_sign h
  unfold signsB sgnS allG inB
  rw [ByteArray.toList_eq, hc, h]
  simp [sgB, Bool.or_comm]
theorem sgnS_not {s : ByteArray} (h : ¬ s.size = 1) : sgnS s = false := by
  have hl : s.data.toList.length = s.size := by simp
  unfold sgnS
  rw [ByteArray.toList_eq]
  cases hm : s.data.toList with
  | nil => rfl
  | cons a l =>
    cases l with
    | nil => rw [hm] at hl; simp at hl; omega
    | cons b m => simp

/-- Days, as many as there are signs. -/
def dysG (s d : ByteArray) : Bool := daysB d && ((d.size : Int) == (s.size : Int))
end Go.Proofs.YtjfcpbedmdnjcabDoor
