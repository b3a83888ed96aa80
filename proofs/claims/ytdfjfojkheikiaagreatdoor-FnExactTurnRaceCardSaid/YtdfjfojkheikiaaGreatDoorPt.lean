/- Tosses and patterns: contracts of the functions that look at them, and the walk of IsPattern. -/
import Derived.Test.YtdfjfojkheikiaaGreatDoorCn
import Derived.Test.YtdfjfojkheikiaaGreatDoorShelf
import Derived.Shelf.Strings.SlTrimAscii
namespace Go.Proofs.YtdfjfojkheikiaaGreatDoor
set_option linter.unusedSimpArgs false
open Go.ChangeShapes Go.WideShapes Go.ChangeAt Go.RowKit
set_option linter.unusedVariables false

def allT (s : ByteArray) : Bool := s.data.toList.all tosB
def tossG (s : ByteArray) : Bool := decide (s.size ≤ 40) && allT s
def patG (s : ByteArray) : Bool := tossG s && inB s.size 1 8
theorem mem_data (s : ByteArray) (k : Nat) (hk : k < s.size) : s[k] ∈ s.data.toList :=
  List.mem_iff_getElem.2 ⟨k, by simpa using hk, rfl⟩
theorem allT_of (s : ByteArray) (h : ∀ k, (hk : k < s.size) → tosB s[k] = true) : allT s = true := by
  unfold allT
  rw [List.all_eq_true]
  intro x hx
  obtain ⟨k, hk, rfl⟩ := List.getElem_of_mem hx
  exact h k (by simpa using hk)
theorem allT_not (s : ByteArray) (k : Nat) (hk : k < s.size) (h : tosB s[k] = false) : allT s = false := by
  unfold allT
  rw [List.all_eq_false]
  exact ⟨s[k], mem_data s k hk, by simp [h]⟩
theorem allT_at (s : ByteArray) (k : Nat) (hk : k < s.size) (h : allT s = true) : tosB s[k] = true := by
  unfold allT at h
  rw [List.all_eq_true] at h
  exact h s[k] (mem_data s k hk)
theorem tosB_iff (c : UInt8) : tosB c = true ↔ c.toNat = 104 ∨ c.toNat = 116 := by
  unfold tosB
  simp only [Bool.or_eq_true, beq_iff_eq]
  constructor
  · rintro (rfl | rfl) <;> simp
  · rintro (h | h)
    · left; apply UInt8.toNat.inj; simpa using h
    · right; apply UInt8.toNat.inj; simpa using h
theorem tos_no {c : UInt8} (h1 : ¬ (c.toNat : Int) = 104) (h2 : ((c.toNat : Int) != 116) = true) : tosB c = false := by
  rw [← Bool.not_eq_true, tosB_iff]
  simp at h2
  omega
theorem tos_t {c : UInt8} (h2 : ((c.toNat : Int) != 116) = false) : tosB c = true := by
  rw [tosB_iff]
  simp at h2
  omega
theorem tos_h {c : UInt8} (h2 : (c.toNat : Int) = 104) : tosB c = true := by
  rw [tosB_iff]
  omega
theorem tos_step {s : ByteArray} {k : Nat} (h : ∀ j, (hj : j < s.size) → j < k → tosB s[j] = true) (hk : k < s.size) (h1 : tosB s[k] = true) : ∀ j, (hj : j < s.size) → j < k + 1 → tosB s[j] = true := by
  intro j hj hl
  by_cases e : j = k
  · subst e; exact h1
  · exact h j hj (by omega)
theorem pat_in {s : ByteArray} (g : patG s = true) : 1 ≤ s.size ∧ s.size ≤ 8 ∧ allT s = true := by
  unfold patG tossG inB at g
  simp at g
  exact ⟨by omega, by omega, g.1.2⟩

set_option maxHeartbeats 400000 in
theorem ptTosses_any (s : ByteArray) (w : World) (hs : s.size ≤ maxLen) :
    Calls Tryz.prog 21 #[.string s] w fun e w' => e = .returned (.bool (tossG s)) ∧ w = w' := by
  unfold maxLen at hs
  by_cases h1 : s.size ≤ 40
  · go_enter Tryz.func21, Tryz.ntmps21
    go_wp2
    go_loop [3] (fun i => ∃ k : Nat, k ≤ s.size ∧ i = .int .i64 k ∧ Hid (∀ j, (hj : j < s.size) → j < k → tosB s[j] = true)) (fun i => s.size - (intOf i).toNat)
    case atStart => exact ⟨0, by omega, rfl, fun _ _ h => by omega⟩
    case round =>
      obtain ⟨k, hk, rfl, hall⟩ := hrel
      by_cases hlt : k < s.size
      · go_wp2
        · have a1 : ¬ (s[k].toNat : Int) = 104 := by assumption
          have a2 : ((s[k].toNat : Int) != 116) = true := by assumption
          go_ret
          exact ⟨by rw [show tossG s = false from by unfold tossG; rw [allT_not s k hlt (tos_no a1 a2), Bool.and_false]]; rfl, rfl⟩
        · have a2 : ((s[k].toNat : Int) != 116) = false := by assumption
          exact ⟨⟨k + 1, by omega, by go_num, tos_step hall.out hlt (tos_t a2)⟩, by simp [intOf]; omega⟩
        · have a2 : (s[k].toNat : Int) = 104 := by assumption
          exact ⟨⟨k + 1, by omega, by go_num, tos_step hall.out hlt (tos_h a2)⟩, by simp [intOf]; omega⟩
      · go_wp2
        go_ret
        exact ⟨by rw [show tossG s = true from by unfold tossG; rw [allT_of s (fun j hj => hall.out j hj (by omega))]; simpa using h1]; rfl, rfl⟩
  · go_enter Tryz.func21, Tryz.ntmps21
    go_wp2
    go_ret
    exact ⟨by rw [show tossG s = false from by unfold tossG; simp [h1]]; rfl, rfl⟩

theorem ptGood_any (s : ByteArray) (w : World) (hs : s.size ≤ maxLen) :
    Calls Tryz.prog 15 #[.string s] w fun e w' => e = .returned (.bool (patG s)) ∧ w = w' := by
  cases h1 : tossG s
  · go_enter Tryz.func15, Tryz.ntmps15
    go_wp2_with fail
    refine (ptTosses_any s _ hs).mono ?_
    rintro e w' ⟨rfl, rfl⟩
    rw [h1]
    go_wp2_with fail
    go_ret
    exact ⟨by rw [show patG s = false from by unfold patG; rw [h1]; rfl]; rfl, rfl⟩
  · go_enter Tryz.func15, Tryz.ntmps15
    go_wp2_with fail
    refine (ptTosses_any s _ hs).mono ?_
    rintro e w' ⟨rfl, rfl⟩
    rw [h1]
    go_wp2_with fail
    refine (l1In_any _ _ _ _).mono ?_
    rintro e w' ⟨rfl, rfl⟩
    go_wp2_with fail
    go_ret
    exact ⟨by rw [show patG s = inB s.size 1 8 from by unfold patG; rw [h1]; rfl]; rfl, rfl⟩

open Go.Shelf Go.Lib in
/-- What is left of tosses: nothing; of another text: something. -/
theorem trim_any (s : ByteArray) (w : World) (hs : s.size ≤ 200) :
    Calls Tryz.prog 28 #[.string s, .string ⟨#[104, 116]⟩] w fun e w' => ∃ t : ByteArray, e = .returned (.string t) ∧ t.toList.isEmpty = allT s ∧ Below w.heap.size w w' := by
  have hcon := Any.strings_Trim_laid Tryz.lays160 (by kernel_rfl) s ⟨#[104, 116]⟩ w (by omega) (by decide) (ascii_of_all (by decide))
  change Calls Tryz.prog 28 _ _ (fun e w' => e = .returned (.string ⟨(Lib.trimS s.data.toList [104, 116]).toArray⟩) ∧ Below w.heap.size w w') at hcon
  refine hcon.mono ?_
  rintro e w' ⟨rfl, hb⟩
  refine ⟨_, rfl, ?_, hb⟩
  rw [Bool.eq_iff_iff, ByteArray.toList_eq, List.isEmpty_iff]
  unfold allT
  rw [← trim_iff]

/-- At most m tosses. -/
def upG (m : Nat) (s : ByteArray) : Bool := decide (s.size ≤ m) && allT s
theorem upTo_any (m : Nat) (s : ByteArray) (w : World) (hm : m ≤ 200) (hs : s.size ≤ maxLen) :
    Calls Tryz.prog 24 #[.int .i64 m, .string s] w fun e w' => e = .returned (.bool (upG m s)) ∧ Below w.heap.size w w' := by
  unfold maxLen at hs
  by_cases h1 : s.size ≤ m
  · have hz : (s.size : Int) ≤ (m : Int) := by omega
    have ht : upG m s = allT s := by unfold upG; simp [h1]
    rw [ht]
    have H1 := Lib.hid (show s.size ≤ 200 by omega)
    clear h1 ht
    go_enter Tryz.func24, Tryz.ntmps24
    go_wp2_with fail
    refine (trim_any s _ H1.out).mono ?_
    rintro e w' ⟨t, rfl, ht, hb⟩
    go_wp2_with fail
    go_ret
    exact ⟨by rw [← ht]; rfl, hb⟩
  · have hz : ¬ (s.size : Int) ≤ (m : Int) := by omega
    have ht : upG m s = false := by unfold upG; simp [h1]
    rw [ht]
    clear ht
    go_enter Tryz.func24, Tryz.ntmps24
    go_wp2
    go_ret
    exact ⟨rfl, Below.refl _ _⟩

theorem implTosses_any (s : ByteArray) (w : World) (hs : s.size ≤ maxLen) :
    Calls Tryz.prog 18 #[.string s] w fun e w' => e = .returned (.bool (tossG s)) ∧ Below w.heap.size w w' := by
  have ht : Hid (tossG s = upG 40 s) := rfl
  go_enter Tryz.func18, Tryz.ntmps18
  go_wp2_with fail
  refine (upTo_any 40 s _ (by omega) hs).mono ?_
  rintro e w' ⟨rfl, hb⟩
  go_wp2_with fail
  go_ret
  exact ⟨by rw [ht.out]; rfl, hb⟩

theorem implIsPattern_any (s : ByteArray) (w : World) (hs : s.size ≤ maxLen) :
    Calls Tryz.prog 12 #[.string s] w fun e w' => e = .returned (.bool (patG s)) ∧ Below w.heap.size w w' := by
  by_cases h1 : 1 ≤ s.size
  · by_cases h2 : s.size ≤ 8
    · have z1 : 1 ≤ (s.size : Int) := by omega
      have z2 : (s.size : Int) ≤ 8 := by omega
      have hp : patG s = tossG s := by unfold patG inB; simp [z1, z2]
      rw [hp]
      have Hs := Lib.hid hs
      clear hp h1 h2 hs
      go_enter Tryz.func12, Tryz.ntmps12
      go_wp2_with fail
      refine (implTosses_any s _ Hs.out).mono ?_
      rintro e w' ⟨rfl, hb⟩
      go_wp2_with fail
      go_ret
      exact ⟨rfl, hb⟩
    · have z1 : 1 ≤ (s.size : Int) := by omega
      have z2 : ¬ (s.size : Int) ≤ 8 := by omega
      have hp : patG s = false := by unfold patG inB; simp; omega
      rw [hp]
      clear hp h1 h2
      go_enter Tryz.func12, Tryz.ntmps12
      go_wp2
      go_ret
      exact ⟨rfl, Below.refl _ _⟩
  · have z1 : ¬ 1 ≤ (s.size : Int) := by omega
    have hp : patG s = false := by unfold patG inB; simp; omega
    rw [hp]
    clear hp h1
    go_enter Tryz.func12, Tryz.ntmps12
    go_wp2
    go_ret
    exact ⟨rfl, Below.refl _ _⟩

end Go.Proofs.YtdfjfojkheikiaaGreatDoor
