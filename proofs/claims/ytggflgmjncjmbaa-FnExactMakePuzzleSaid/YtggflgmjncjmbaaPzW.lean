/- Two slices put one behind the other by the library; a clue taken out, by the program and by the model. -/
import Derived.Test.YtggflgmjncjmbaaPzV
namespace Go.Proofs.Ytggflgmjncjmbaa
set_option linter.unusedSimpArgs false
open Go.ChangeShapes Go.WideShapes Go.ChangeAt Go.RowKit
set_option linter.unusedVariables false

theorem grow_any (n : Nat) (w : World) (hn : n ≤ 2000) :
    Calls Try.prog 96 #[.slice none 0 0, .int .i64 n] w (TriOne 39 [] w) := by
  obtain ⟨i0, hi, hz0, hz1, hz2⟩ := info_parts3 info_clue
  by_cases h0 : n = 0
  · subst h0
    have h := Any8.slices_Grow_room Try.growC none 0 0 0 w (Nat.le_refl _) (by omega) (by omega) (by omega)
    change Calls Try.prog 96 _ _ _ at h
    refine h.mono ?_
    rintro e w' ⟨rfl, rfl⟩
    exact ⟨_, rfl, TRow.nil _ _ _, Below.refl _ _⟩
  · have h : Calls Try.prog 96 #[.slice none 0 0, .int .i64 n] w fun e w' =>
        e = .returned (.slice (some ⟨w.heap.size, 0, none⟩) 0 (grownCap w (0 + n) 0 39)) ∧
        w' = w.drew.alloc (.cells (([] : List Value).toArray ++ Builtin.zeroCells (Value.agg #[.int .i64 0, .int .i64 0, .int .i64 0]).cells (0 + n - 0) ++ Builtin.zeroCells (Value.agg #[.int .i64 0, .int .i64 0, .int .i64 0]).cells (grownCap w (0 + n) 0 39 - (0 + n))) 39) :=
      Any8.slices_Grow_grow Try.growC i0 _ hi hz0 (by rw [hz1]; omega) none 0 0 n [] w (Nat.le_refl _) (by omega) (by rw [hz2]; omega) (by omega) (by simp) (fun _ => rfl) (fun _ h => by cases h)
    refine h.mono ?_
    rintro e w' ⟨rfl, rfl⟩
    have hge := grownCap_ge w (0 + n) 0 39
    refine ⟨_, rfl, ?_, bel_alloc (Below.refl _ _).drew _⟩
    refine World.ownsRow_made w.drew _ _ (Nat.le_refl _) (grownCap_le_maxLen w (0 + n) 0 39 (by unfold maxLen; omega)) ?_
    simp only [Nat.zero_add] at hge ⊢
    simp [size_zeroCells, Value.cells]
    omega
def parts2 (xs ys : List Tri) (k : Nat) : List Tri := if k = 0 then [] else if k = 1 then xs else xs ++ ys
set_option maxRecDepth 100000 in
set_option maxHeartbeats 3200000 in
theorem concat_any (xs ys : List Tri) (v0 v1 : Value) (B g : Nat) (w : World) (h0 : RdT w B v0 xs) (h1 : RdT w B v1 ys) (hB : B ≤ w.heap.size) (c0 : w.cell? ⟨g, 0, none⟩ = some v0) (c1 : w.cell? ⟨g, 1, none⟩ = some v1) (hg : g < w.heap.size) (hx : xs.length ≤ 1000) (hy : ys.length ≤ 1000) :
    Calls Try.prog 81 #[.slice (some ⟨g, 0, none⟩) 2 2] w (TriOne 39 (xs ++ ys) w) := by
  obtain ⟨A0, cap0, rfl, hl0, hm0⟩ := h0.form
  obtain ⟨A1, cap1, rfl, hl1, hm1⟩ := h1.form
  have H0 := Lib.hid h0
  have H1 := Lib.hid h1
  have C0 := Lib.hid c0
  have C1 := Lib.hid c1
  clear h0 h1 c0 c1
  go_enter Try.func81, Try.ntmps81
  go_wp2_with fail
  go_loop [3, 11] (fun s i => ∃ k : Nat, k ≤ 2 ∧ i = .int .i64 k ∧ s = .int .i64 ((parts2 xs ys k).length : Int)) (fun _ i => 2 - (intOf i).toNat)
  case atStart => exact ⟨0, by omega, rfl, rfl⟩
  case round =>
    obtain ⟨k, hk, rfl, rfl⟩ := hrel
    have hkk : k = 0 ∨ k = 1 ∨ k = 2 := by omega
    rcases hkk with rfl | rfl | rfl
    · have c0 := C0.out
      have hp : ((parts2 xs ys 0).length : Int) = 0 := rfl
      have hs : ¬ (xs.length : Int) < 0 := by omega
      rw [hp]
      go_wp2_with fail
      exact ⟨⟨1, by omega, rfl, rfl⟩, by simp [intOf]⟩
    · have c1 := C1.out
      have hp : ((parts2 xs ys 1).length : Int) = (xs.length : Int) := rfl
      have hs : ¬ (xs.length : Int) + (ys.length : Int) < 0 := by omega
      have hq : Hid (((parts2 xs ys 2).length : Int) = (xs.length : Int) + (ys.length : Int)) := Lib.hid (by show ((xs ++ ys).length : Int) = _; simp)
      rw [hp]
      go_wp2_with fail
      exact ⟨⟨2, by omega, rfl, by rw [hq.out]⟩, by simp [intOf]⟩
    · have hq : ((parts2 xs ys 2).length : Int) = ((xs.length + ys.length : Nat) : Int) := by show ((xs ++ ys).length : Int) = _; simp
      rw [hq]
      have hcall := fun W => grow_any (xs.length + ys.length) W (by omega)
      generalize xs.length + ys.length = T at *
      go_wp2_with fail
      refine (hcall _).mono ?_
      rintro e w2 ⟨v2, rfl, r2, b2⟩
      have R2 := Lib.hid r2
      clear r2
      go_wp2_with fail
      go_loopw [6, 27] (fun v i wr => ∃ k : Nat, k ≤ 2 ∧ i = .int .i64 k ∧ Hid (TRow 39 wr w.heap.size v (parts2 xs ys k)) ∧ Below w.heap.size w wr) (fun _ i _ => 2 - (intOf i).toNat)
      case atStart => exact ⟨0, by omega, rfl, R2, b2⟩
      case round =>
        obtain ⟨k, hk, rfl, hI, hbl⟩ := hrel
        have hkk : k = 0 ∨ k = 1 ∨ k = 2 := by omega
        rcases hkk with rfl | rfl | rfl
        · have c0 := (hbl.cell (p := ⟨g, 0, none⟩) hg).trans C0.out
          have hR := H0.out.below hbl hB
          go_wp2_with (at_builtin; refine wpList_pushR 27 39 Try.underlying27 info_clue rfl (.tmp 31) (.tmp 32) rfl _ _ _ hI.out xs B A0 xs.length cap0 rfl hR (by simp [parts2]; omega) hbl.size rfl ?_)
          intro v' w5 hI5 hb5 _
          clear c0 hR
          go_wp2_with fail
          exact ⟨⟨1, by omega, rfl, Lib.hid hI5, hbl.trans hb5⟩, by simp [intOf]⟩
        · have c1 := (hbl.cell (p := ⟨g, 1, none⟩) hg).trans C1.out
          have hR := H1.out.below hbl hB
          go_wp2_with (at_builtin; refine wpList_pushR 27 39 Try.underlying27 info_clue rfl (.tmp 31) (.tmp 32) rfl _ _ _ hI.out ys B A1 ys.length cap1 rfl hR (by simp [parts2]; omega) hbl.size rfl ?_)
          intro v' w5 hI5 hb5 _
          clear c1 hR
          go_wp2_with fail
          exact ⟨⟨2, by omega, rfl, Lib.hid hI5, hbl.trans hb5⟩, by simp [intOf]⟩
        · go_wp2_with fail
          go_ret
          exact ⟨_, rfl, hI.out, hbl⟩
end Go.Proofs.Ytggflgmjncjmbaa
