/- Contracts of the law's own helpers over states: copied, sized. -/
import Derived.Test.YthmdkbeccohjkaaSl
namespace Go.Proofs.Ythmdkbeccohjkaa
set_option linter.unusedSimpArgs false
open Go.ChangeShapes Go.WideShapes Go.ChangeAt Go.RowKit
set_option linter.unusedVariables false

theorem szIntS_yes (xs : List Int) (v : Value) (B : Nat) (left : Int) (w : World) (h : RdI w B v xs) (h0 : left ≤ 1048576) (h1 : (xs.length : Int) ≤ left) :
    Calls Try.prog 21 #[v, .int .i64 left] w fun e w' => e = .returned (.int .i64 (left - xs.length)) ∧ w = w' := by
  obtain ⟨A, cap, rfl, h2, h3⟩ := h.form
  unfold maxLen at h3
  go_enter Try.func21, Try.ntmps21
  go_wp2
  go_ret
  exact ⟨rfl, rfl⟩
theorem szIntS_no (xs : List Int) (v : Value) (B : Nat) (left : Int) (w : World) (h : RdI w B v xs) (h0 : 0 ≤ left) (h1 : left < (xs.length : Int)) :
    Calls Try.prog 21 #[v, .int .i64 left] w fun e w' => e = .returned (.int .i64 (-1)) ∧ w = w' := by
  obtain ⟨A, cap, rfl, h2, h3⟩ := h.form
  unfold maxLen at h3
  go_enter Try.func21, Try.ntmps21
  go_wp2
  go_ret
  exact ⟨rfl, rfl⟩

/-- How much of the size is left behind i rows. -/
def szM (m : List (List Int)) (i : Nat) : Nat := m.length + offM m i
theorem szM_succ (m : List (List Int)) (i : Nat) : szM m (i + 1) = szM m i + (m.getD i []).length := by simp [szM, offM]; omega
theorem szM_mono (m : List (List Int)) (i j : Nat) (h : i ≤ j) : szM m i ≤ szM m j := by have := offM_mono m i j h; unfold szM; omega

set_option maxHeartbeats 800000 in
theorem szIntSS_yes (m : List (List Int)) (v : Value) (B : Nat) (left : Int) (w : World) (h : RdM w B v m) (h0 : left ≤ 1048576) (h1 : (szM m m.length : Int) ≤ left) :
    Calls Try.prog 13 #[v, .int .i64 left] w fun e w' => e = .returned (.int .i64 (left - szM m m.length)) ∧ w = w' := by
  obtain ⟨A, cap, rfl, h2, h3⟩ := h.form
  unfold maxLen at h3
  have H := Lib.hid h
  clear h
  have hl : m.length ≤ szM m m.length := by unfold szM; omega
  have hz : szM m 0 = m.length := by simp [szM, offM]
  have Hz := Lib.hid hz
  clear hz
  go_enter Try.func13, Try.ntmps13
  go_wp2
  go_loop [1, 5] (fun x i => ∃ k : Nat, k ≤ m.length ∧ i = .int .i64 k ∧ x = .int .i64 (left - szM m k)) (fun _ i => m.length - (intOf i).toNat)
  case atStart => exact ⟨0, by omega, rfl, by rw [Hz.out]⟩
  case round =>
    obtain ⟨k, hk, rfl, rfl⟩ := hrel
    by_cases hlt : k < m.length
    · obtain ⟨ad, A', cap', rfl, hab, hc, hr, _, _⟩ := H.out.at_ hlt
      have hm1 := szM_mono m (k + 1) m.length (by omega)
      have hs := szM_succ m k
      have hS : Hid ((left - szM m k) - ((m.getD k []).length : Int) = left - szM m (k + 1)) := by show _ = _; omega
      have hp1 : ((m.getD k []).length : Int) ≤ left - szM m k := by omega
      have hp2 : left - (szM m k : Int) ≤ 1048576 := by omega
      have hp3 : 0 ≤ left - szM m (k + 1) := by omega
      have Hr := Lib.hid hr
      clear hs hr hm1
      generalize m.getD k [] = xs at *
      go_wp2_with fail
      refine (szIntS_yes xs _ B _ _ Hr.out hp2 hp1).mono ?_
      rintro e w' ⟨rfl, rfl⟩
      rw [hS.out]
      go_wp2
      exact ⟨⟨k + 1, by omega, by go_num, rfl⟩, by simp [intOf]; omega⟩
    · obtain rfl : k = m.length := by omega
      go_wp2
      go_ret
      exact ⟨rfl, rfl⟩

set_option maxHeartbeats 800000 in
theorem szIntSS_no (m : List (List Int)) (v : Value) (B : Nat) (left : Int) (w : World) (h : RdM w B v m) (h00 : 0 ≤ left) (h0 : left ≤ 1048576) (h1 : left < (szM m m.length : Int)) :
    Calls Try.prog 13 #[v, .int .i64 left] w fun e w' => e = .returned (.int .i64 (-1)) ∧ w = w' := by
  obtain ⟨A, cap, rfl, h2, h3⟩ := h.form
  unfold maxLen at h3
  have H := Lib.hid h
  clear h
  have hz : szM m 0 = m.length := by simp [szM, offM]
  have Hz := Lib.hid hz
  clear hz
  by_cases hL : (m.length : Int) ≤ left
  · have H1 := Lib.hid h1
    clear h1
    go_enter Try.func13, Try.ntmps13
    go_wp2
    go_loop [1, 5] (fun x i => ∃ k : Nat, k ≤ m.length ∧ i = .int .i64 k ∧ (szM m k : Int) ≤ left ∧ x = .int .i64 (left - szM m k)) (fun _ i => m.length - (intOf i).toNat)
    case atStart => exact ⟨0, by omega, rfl, by rw [Hz.out]; exact hL, by rw [Hz.out]⟩
    case round =>
      obtain ⟨k, hk, rfl, hkl, rfl⟩ := hrel
      by_cases hlt : k < m.length
      · obtain ⟨ad, A', cap', rfl, hab, hc, hr, _, _⟩ := H.out.at_ hlt
        have hs := szM_succ m k
        have hS : Hid ((left - szM m k) - ((m.getD k []).length : Int) = left - szM m (k + 1)) := by show _ = _; omega
        have hp2 : left - (szM m k : Int) ≤ 1048576 := by omega
        have hp0 : 0 ≤ left - (szM m k : Int) := by omega
        have hx : ((m.getD k []).length : Int) ≤ left - szM m k ↔ (szM m (k + 1) : Int) ≤ left := by omega
        have Hx := Lib.hid hx
        have Hr := Lib.hid hr
        clear hs hr hx
        generalize m.getD k [] = xs at *
        by_cases hp1 : (xs.length : Int) ≤ left - szM m k
        · have hp3 := Hx.out.1 hp1
          go_wp2_with fail
          refine (szIntS_yes xs _ B _ _ Hr.out hp2 hp1).mono ?_
          rintro e w' ⟨rfl, rfl⟩
          rw [hS.out]
          go_wp2
          exact ⟨⟨k + 1, by omega, by go_num, hp3, rfl⟩, by simp [intOf]; omega⟩
        · go_wp2_with fail
          refine (szIntS_no xs _ B _ _ Hr.out hp0 (by omega)).mono ?_
          rintro e w' ⟨rfl, rfl⟩
          go_wp2
          go_ret
          exact ⟨rfl, rfl⟩
      · obtain rfl : k = m.length := by omega
        have := H1.out
        omega
  · go_enter Try.func13, Try.ntmps13
    go_wp2
    go_ret
    exact ⟨rfl, rfl⟩

abbrev sts (lim : Int) (v : Value) : Value := .agg #[.int .i64 lim, v]
theorem szStates_yes (lim : Int) (m : List (List Int)) (v : Value) (w : World) (h : RdM w w.heap.size v m) (h1 : szM m m.length ≤ 1048576) :
    Calls Try.prog 4 #[sts lim v, .int .i64 1048576] w fun e w' => e = .returned (.int .i64 (1048576 - szM m m.length)) ∧ Below w.heap.size w w' := by
  have hb := Lib.hid (h.below (bel_alloc (Below.refl _ w) (.cells #[.int .i64 lim, v] 24)) (Nat.le_refl _))
  clear h
  go_enter Try.func4, Try.ntmps4
  go_wp2_with fail
  refine (szIntSS_yes m _ _ _ _ hb.out (by omega) (by omega)).mono ?_
  rintro e w' ⟨rfl, rfl⟩
  go_wp2
  go_ret
  exact ⟨rfl, bel_alloc (Below.refl _ _) _⟩
theorem szStates_no (lim : Int) (m : List (List Int)) (v : Value) (w : World) (h : RdM w w.heap.size v m) (h1 : ¬ szM m m.length ≤ 1048576) :
    Calls Try.prog 4 #[sts lim v, .int .i64 1048576] w fun e w' => e = .returned (.int .i64 (-1)) ∧ Below w.heap.size w w' := by
  have hb := Lib.hid (h.below (bel_alloc (Below.refl _ w) (.cells #[.int .i64 lim, v] 24)) (Nat.le_refl _))
  clear h
  go_enter Try.func4, Try.ntmps4
  go_wp2_with fail
  refine (szIntSS_no m _ _ _ _ hb.out (by omega) (by omega) (by omega)).mono ?_
  rintro e w' ⟨rfl, rfl⟩
  go_wp2
  go_ret
  exact ⟨rfl, bel_alloc (Below.refl _ _) _⟩

set_option maxHeartbeats 1600000 in
theorem toIntSS_any (m : List (List Int)) (v : Value) (B : Nat) (w : World) (h : RdM w B v m) (hB : B ≤ w.heap.size) (hn : szM m m.length ≤ 1048576) :
    Calls Try.prog 16 #[v] w fun e w' => ∃ v', e = .returned v' ∧ OwnM w' w.heap.size w'.heap.size v' m ∧ Below w.heap.size w w' := by
  obtain ⟨A, cap, rfl, _, _⟩ := h.form
  have H := Lib.hid h
  clear h
  have hml : m.length ≤ 1048576 := by unfold szM at hn; omega
  have hmk := mk_rows m.length hml
  have hO0 : Hid (OwnM (w.alloc (.cells (Array.replicate m.length nilS) 26)) w.heap.size (w.heap.size + 1) (.slice (some ⟨w.heap.size, 0, none⟩) m.length m.length) (List.replicate m.length [])) := by
    have q := World.ownsRow_lit (base := w.heap.size) (e := 26) (size := 1) w (Array.replicate m.length nilS) m.length (Nat.le_refl _) (by simp only [maxLen]; omega) (by simp)
    exact OwnM.made (by simpa using q) (fun k hk => by simp [Value.ownBlock] at hk; omega) (by simp)
  have hrow : ∀ k, k < m.length → (m.getD k []).length ≤ 1048576 := fun k hk => by
    have h1 := szM_mono m (k + 1) m.length (by omega)
    have h2 := szM_succ m k
    omega
  have HR := Lib.hid hrow
  have HN := Lib.hid hn
  clear hrow hn
  go_enter Try.func16, Try.ntmps16
  go_wp2
  go_loopw [4] (fun i wr => ∃ k : Nat, k ≤ m.length ∧ i = .int .i64 k ∧ Hid (OwnM wr w.heap.size wr.heap.size (.slice (some ⟨w.heap.size, 0, none⟩) m.length m.length) (m.take k ++ List.replicate (m.length - k) [])) ∧ Below w.heap.size w wr) (fun i _ => m.length - (intOf i).toNat)
  case atStart => exact ⟨0, by omega, rfl, Lib.hid (by simpa using hO0.out), bel_alloc (Below.refl _ _) _⟩
  case round =>
    obtain ⟨k, hk, rfl, hown, hbl⟩ := hrel
    by_cases hlt : k < m.length
    · obtain ⟨ad, A', cap', rfl, hab, hc, hr, _, _⟩ := (H.out.below hbl hB).at_ hlt
      have Hr := Lib.hid hr
      have hx := HR.out k hlt
      have hBr : B ≤ wr.heap.size := Nat.le_trans hB hbl.size
      have hset : Hid ((m.take k ++ List.replicate (m.length - k) []).set k (m.getD k []) = m.take (k + 1) ++ List.replicate (m.length - (k + 1)) []) := by
        show _ = _
        apply List.ext_getElem
        · simp; omega
        · intro j h1 h2
          simp only [List.getElem_set]
          by_cases e : k = j
          · subst e
            rw [if_pos rfl, List.getElem_append_left (by simp; omega)]
            simp [List.getD_eq_getElem?_getD, List.getElem?_eq_getElem hlt]
          · rw [if_neg e]
            rcases Nat.lt_or_ge j k with g | g
            · rw [List.getElem_append_left (by simp; omega), List.getElem_append_left (by simp; omega)]
              simp
            · rw [List.getElem_append_right (by simp; omega), List.getElem_append_right (by simp; omega)]
              simp
      clear hr
      have hkl : Hid (k < (m.take k ++ List.replicate (m.length - k) ([] : List Int)).length) := by show _ < _; simp; omega
      have hgs : w.heap.size < wr.heap.size := by
        obtain ⟨g, cap, e, h1, h2, _⟩ := hown.out.form (by have := hkl.out; omega)
        injection e with e _ _
        injection e with e
        injection e with e
        omega
      generalize m.take k ++ List.replicate (m.length - k) [] = ms at *
      generalize m.getD k [] = xs at *
      go_wp2_with fail
      refine (toIntS_any xs _ B wr Hr.out hBr hx).mono ?_
      rintro e w1 ⟨r, rfl, hr1, hb1⟩
      obtain ⟨A1, cap1, rfl, _, _⟩ := hr1.rd.form
      have hown1 := hown.out.below hb1 (Nat.le_refl _)
      obtain ⟨vs, hp⟩ := hown1.parts
      have hl1 : ms.length = m.length := by
        have q := hset.out
        have := congrArg List.length q
        simp at this; omega
      have hor := hp.2.1
      rw [hl1] at hor
      have hvl := ownsRow.length hor
      have c0 := World.ownsRow.cellAt hor k (by omega)
      rw [List.getElem?_eq_getElem (by omega)] at c0
      have f0 := World.ownsRow.frozenAt hor k
      have hput := Lib.hid (OwnM.put hown1 hr1 (hi' := w1.heap.size) (fun k hk => (hr1.lt k hk).2) hb1.size (Nat.le_refl _) hbl.size hkl.out)
      have Hb1 := (bel_trans hbl hb1).setCell (p := ⟨w.heap.size, k, none⟩) (Nat.le_refl _) (.slice A1 xs.length cap1)
      generalize vs[k]'(by omega) = y at *
      clear hr1 hown1 hp hor hvl hl1
      go_wp2
      exact ⟨⟨k + 1, by omega, by go_num, Lib.hid (by have q := hput.out; rw [hset.out] at q; simpa [World.setCell] using q), Hb1⟩, by simp [intOf]; omega⟩
    · have hkn : k = m.length := by omega
      have hend : m.take k ++ List.replicate (m.length - k) [] = m := by rw [hkn]; simp
      have HE := Lib.hid hend
      clear hend hkn
      go_wp2
      go_ret
      exact ⟨_, rfl, by have q := hown.out; rw [HE.out] at q; exact q, hbl⟩
end Go.Proofs.Ythmdkbeccohjkaa
