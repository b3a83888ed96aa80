/- Contracts of the functions that look at days, of the program and of its model. -/
import Derived.Test.YtggflgmjncjmbaaNum
namespace Go.Proofs.Ytggflgmjncjmbaa
set_option linter.unusedSimpArgs false
open Go.ChangeShapes Go.WideShapes Go.ChangeAt Go.RowKit
set_option linter.unusedVariables false

def dayB (c : UInt8) : Bool := c == 100 || c == 119
def allB (s : ByteArray) : Bool := s.data.toList.all dayB
def daysB (s : ByteArray) : Bool := inB s.size 1 60 && allB s

theorem allB_of (s : ByteArray) (h : ∀ k, (hk : k < s.size) → dayB s[k] = true) : allB s = true := by
  unfold allB
  rw [List.all_eq_true]
  intro x hx
  obtain ⟨k, hk, rfl⟩ := List.getElem_of_mem hx
  exact h k (by simpa using hk)
theorem getElem_mem_data (s : ByteArray) (k : Nat) (hk : k < s.size) : s[k] ∈ s.data.toList :=
  List.mem_iff_getElem.2 ⟨k, by simpa using hk, rfl⟩
theorem allB_not (s : ByteArray) (k : Nat) (hk : k < s.size) (h : dayB s[k] = false) : allB s = false := by
  unfold allB
  rw [List.all_eq_false]
  exact ⟨s[k], getElem_mem_data s k hk, by simp [h]⟩
theorem allB_at (s : ByteArray) (k : Nat) (hk : k < s.size) (h : allB s = true) : dayB s[k] = true := by
  unfold allB at h
  rw [List.all_eq_true] at h
  exact h s[k] (getElem_mem_data s k hk)
theorem dayB_iff (c : UInt8) : dayB c = true ↔ c.toNat = 100 ∨ c.toNat = 119 := by
  unfold dayB
  simp only [Bool.or_eq_true, beq_iff_eq]
  constructor
  · rintro (rfl | rfl) <;> simp
  · rintro (h | h)
    · left; apply UInt8.toNat.inj; simpa using h
    · right; apply UInt8.toNat.inj; simpa using h
theorem day_no {c : UInt8} (h1 : ¬ (c.toNat : Int) = 100) (h2 : ((c.toNat : Int) != 119) = true) : dayB c = false := by
  rw [← Bool.not_eq_true, dayB_iff]
  simp at h2
  omega
theorem day_w {c : UInt8} (h2 : ((c.toNat : Int) != 119) = false) : dayB c = true := by
  rw [dayB_iff]
  simp at h2
  omega
theorem day_d {c : UInt8} (h2 : (c.toNat : Int) = 100) : dayB c = true := by
  rw [dayB_iff]
  omega
theorem days_step {s : ByteArray} {k : Nat} (h : ∀ j, (hj : j < s.size) → j < k → dayB s[j] = true) (hk : k < s.size) (h1 : dayB s[k] = true) : ∀ j, (hj : j < s.size) → j < k + 1 → dayB s[j] = true := by
  intro j hj hl
  by_cases e : j = k
  · subst e; exact h1
  · exact h j hj (by omega)

theorem days_true {s : ByteArray} (h1 : 1 ≤ s.size) (h2 : s.size ≤ 60) (h : ∀ k, (hk : k < s.size) → dayB s[k] = true) : daysB s = true := by
  unfold daysB inB
  rw [allB_of s h]
  simp
  omega
theorem days_big {s : ByteArray} (h : ¬ s.size ≤ 60) : daysB s = false := by
  unfold daysB inB
  simp
  omega
theorem days_small {s : ByteArray} (h : ¬ 1 ≤ s.size) : daysB s = false := by
  unfold daysB inB
  simp
  omega

set_option maxHeartbeats 400000 in
theorem implAreDays_any (s : ByteArray) (w : World) (hs : s.size ≤ maxLen) :
    Calls Try.prog 113 #[.string s] w fun e w' => e = .returned (.bool (daysB s)) ∧ w = w' := by
  unfold maxLen at hs
  by_cases h1 : 1 ≤ s.size
  · by_cases h2 : s.size ≤ 60
    · go_enter Try.func113, Try.ntmps113
      go_wp2
      go_loop [14] (fun i => ∃ k : Nat, k ≤ s.size ∧ i = .int .i64 k ∧ Hid (∀ j, (hj : j < s.size) → j < k → dayB s[j] = true)) (fun i => s.size - (intOf i).toNat)
      case atStart => exact ⟨0, by omega, rfl, fun _ _ h => by omega⟩
      case round =>
        obtain ⟨k, hk, rfl, hall⟩ := hrel
        by_cases hlt : k < s.size
        · go_wp2
          · have a1 : ¬ (s[k].toNat : Int) = 100 := by assumption
            have a2 : ((s[k].toNat : Int) != 119) = true := by assumption
            go_ret
            exact ⟨by rw [show daysB s = false from by unfold daysB; rw [allB_not s k hlt (day_no a1 a2), Bool.and_false]]; rfl, rfl⟩
          · have a2 : ((s[k].toNat : Int) != 119) = false := by assumption
            exact ⟨⟨k + 1, by omega, by go_num, days_step hall.out hlt (day_w a2)⟩, by simp [intOf]; omega⟩
          · have a2 : (s[k].toNat : Int) = 100 := by assumption
            exact ⟨⟨k + 1, by omega, by go_num, days_step hall.out hlt (day_d a2)⟩, by simp [intOf]; omega⟩
        · go_wp2
          go_ret
          exact ⟨by rw [days_true h1 h2 (fun j hj => hall.out j hj (by omega))]; rfl, rfl⟩
    · go_enter Try.func113, Try.ntmps113
      go_wp2
      all_goals
        go_ret
        exact ⟨by rw [days_big h2]; rfl, rfl⟩
  · go_enter Try.func113, Try.ntmps113
    go_wp2
    go_ret
    exact ⟨by rw [days_small h1]; rfl, rfl⟩

/-- One day: a text of one sign. -/
def dayS (s : ByteArray) : Bool := s.toList == [100] || s.toList == [119]

theorem one_sign {s : ByteArray} (h : s.size = 1) : ∃ c, s.data.toList = [c] := by
  have hl : s.data.toList.length = 1 := by simpa using h
  match hm : s.data.toList, hl with
  | [c], _ => exact ⟨c, rfl⟩
theorem daysB_one {s : ByteArray} (h : s.size = 1) : daysB s = dayS s := by
  obtain ⟨c, hc⟩ := one_sign h
  unfold daysB dayS allB inB
  rw [ByteArray.toList_eq, hc, h]
  simp [dayB]
theorem dayS_not {s : ByteArray} (h : ¬ s.size = 1) : dayS s = false := by
  have hl : s.data.toList.length = s.size := by simp
  unfold dayS
  rw [ByteArray.toList_eq]
  cases hm : s.data.toList with
  | nil => rfl
  | cons a l =>
    cases l with
    | nil => rw [hm] at hl; simp at hl; omega
    | cons b m => simp
theorem dayS_cases {s : ByteArray} (h : dayS s = true) : s.data.toList = [100] ∨ s.data.toList = [119] := by
  unfold dayS at h
  rw [ByteArray.toList_eq] at h
  simpa using h

set_option maxHeartbeats 400000 in
theorem isDay_any (s : ByteArray) (w : World) (hs : s.size ≤ maxLen) :
    Calls Try.prog 111 #[.string s] w fun e w' => e = .returned (.bool (dayS s)) ∧ w = w' := by
  by_cases h1 : s.size = 1
  · have hz : ((s.size : Int) == 1) = true := by simpa using by omega
    have hd : daysB s = dayS s := daysB_one h1
    have Hd := Lib.hid hd
    clear hd
    have H1 := Lib.hid h1
    clear h1
    go_enter Try.func111, Try.ntmps111
    go_wp2_with fail
    refine (implAreDays_any _ _ hs).mono ?_
    rintro e w' ⟨rfl, rfl⟩
    go_wp2_with fail
    go_ret
    exact ⟨by rw [← Hd.out]; rfl, rfl⟩
  · have hz : ((s.size : Int) == 1) = false := by simpa using by omega
    have hd : dayS s = false := dayS_not h1
    have Hd := Lib.hid hd
    clear hd
    go_enter Try.func111, Try.ntmps111
    go_wp2_with fail
    go_ret
    exact ⟨by rw [Hd.out]; rfl, rfl⟩

set_option maxHeartbeats 400000 in
theorem isDayOf_any (a b c : Int) (s : ByteArray) (w : World) (hs : s.size ≤ maxLen) :
    Calls Try.prog 105 #[chn a b c, .string s] w fun e w' => e = .returned (.bool (good a b c && dayS s)) ∧ Below w.heap.size w w' := by
  cases h1 : good a b c
  all_goals
    go_enter Try.func105, Try.ntmps105
    go_wp2_with fail
    refine (implIsChain_any _ _ _ _).mono ?_
    rintro e w1 ⟨rfl, hb1⟩
    rw [h1]
    go_wp2_with (go_at_call 111; refine (isDay_any _ _ hs).mono ?_; rintro e w' ⟨rfl, rfl⟩)
    go_ret
    exact ⟨rfl, bel_trans (bel_alloc (Below.refl _ _) _) hb1⟩

end Go.Proofs.Ytggflgmjncjmbaa
