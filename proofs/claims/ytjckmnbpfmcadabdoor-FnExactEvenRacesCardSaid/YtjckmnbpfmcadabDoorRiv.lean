/- All patterns of as many signs but one: the contract of the program. -/
import Derived.Test.YtjckmnbpfmcadabDoorAllT
import Derived.Test.YtjckmnbpfmcadabDoorShelfD
import Derived.Lib.OwnBridge
namespace Go.Proofs.YtjckmnbpfmcadabDoor
set_option linter.unusedSimpArgs false
open Go.ChangeShapes Go.WideShapes Go.ChangeAt Go.RowKit
set_option linter.unusedVariables false

def rivT (a : ByteArray) : List ByteArray := (allTx a.size).filter fun p => !decide (p = a)
theorem ba_beq2 (a b : ByteArray) : (a.toList == b.toList) = decide (a = b) := by
  rw [Bool.eq_iff_iff, beq_iff_eq, decide_eq_true_iff, ba_eq, ByteArray.toList_eq, ByteArray.toList_eq]
theorem gives_riv (a x : ByteArray) (B : Nat) (W : World) (hc : W.cell? ⟨B, 0, none⟩ = some (.string a)) :
    FnGives Tryd.prog 89 #[.pointer (some ⟨B, 0, none⟩)] #[.string x] (.bool (decide (x = a))) W := by
  show Calls Tryd.prog 89 #[.string x, .pointer (some ⟨B, 0, none⟩)] W _
  have hq := ba_beq2 x a
  go_enter Tryd.func89, Tryd.ntmps89
  go_wp2
  go_ret
  exact ⟨rfl, 0, rfl⟩
open Go.Sort Go.Shelf in
theorem pred_riv (a : ByteArray) (B : Nat) (w : World) (hB : B < w.heap.size) (hc : w.cell? ⟨B, 0, none⟩ = some (.string a)) :
    PredAt Tryd.prog 89 #[.pointer (some ⟨B, 0, none⟩)] Value.string (fun x => decide (x = a)) w :=
  fun W x hb => gives_riv a x B W ((hb.cell (p := ⟨B, 0, none⟩) hB).trans hc)
open Go.Sort Go.Shelf in
theorem over_riv (a : ByteArray) (B blk off size : Nat) (w : World) (hB : B < w.heap.size) (hne : B ≠ blk) (hc : w.cell? ⟨B, 0, none⟩ = some (.string a)) :
    PredOver Tryd.prog 89 #[.pointer (some ⟨B, 0, none⟩)] Value.string (fun x => decide (x = a)) blk off size w :=
  fun n os dk x _ => gives_riv a x B _ (by
    unfold sortWorld
    rw [cell?_grow _ _ _ (by show B < (putRow _ _ _ _ _).heap.size; rw [size_putRow]; exact hB), cell?_putRow_other _ _ blk off _ _ (Or.inl hne)]
    exact hc)
open Go.Sort Go.Shelf in
theorem del_any (a : ByteArray) (xs : List ByteArray) (base g cap B : Nat) (W : World) (hR : SRow W base (.slice (some ⟨g, 0, none⟩) xs.length cap) xs) (hpos : 0 < xs.length) (hB : B < W.heap.size) (hne : B ≠ g) (hc : W.cell? ⟨B, 0, none⟩ = some (.string a)) :
    Calls Tryd.prog 87 #[.slice (some ⟨g, 0, none⟩) xs.length cap, .func (.func 89) #[] #[.pointer (some ⟨B, 0, none⟩)]] W
      fun e w' => ∃ v, e = .returned v ∧ SRow w' base v (xs.filter fun p => !decide (p = a)) ∧ ∀ (b0 : Nat) (w0 : World), Below b0 w0 W → b0 ≤ g → Below b0 w0 w' := by
  have eg : ∀ args w, (callFunc 89 args).run Tryd.prog w = .ok (.enter 89 args) w := Go.Proofs.enters_of Tryd.func89 (by kernel_rfl) rfl
  obtain ⟨g', cap', e0, hbg, hgl, hlc, hcm, _, hH⟩ := Lib.holds_of_ownsRow hR (by intro e; cases e)
  injection e0 with e1 _ e3
  injection e1 with e1
  injection e1 with e1
  subst e1; subst e3
  have hcon := AnyE.slices_DeleteFunc Tryd.laysDel Value.string (fun _ => rfl) (fun x => decide (x = a)) 89 #[.pointer (some ⟨B, 0, none⟩)] eg ByteArray.empty Tryd.zeroValue9 g 0 cap xs.toArray W
    (pred_riv a B W hB hc) (over_riv a B g 0 xs.toArray.size W hB hne hc) hH (by simp; unfold maxLen at hcm; omega) (by simpa using hlc)
  have hfl : (xs.filter fun p => !decide (p = a)).length ≤ xs.length := List.length_filter_le _ _
  simp only [List.size_toArray] at hcon
  refine hcon.mono ?_
  rintro e w' ⟨rfl, q, rfl⟩
  refine ⟨_, rfl, ?_, fun b0 w0 hb0 hbg0 => Lib.below_putRow hb0 hbg0⟩
  have h2 := Lib.ownsRow_putRow (q := q) (k := (xs.filter fun p => !decide (p = a)).length) hR (ys := (xs.filter fun p => !decide (p = a)) ++ List.replicate (xs.length - (xs.filter fun p => !decide (p = a)).length) ByteArray.empty) (by rw [List.length_append, List.length_replicate]; omega) hfl
  rw [List.take_left' rfl] at h2
  exact h2

set_option maxRecDepth 100000 in
set_option maxHeartbeats 1600000 in
theorem rivals_any (a : ByteArray) (w : World) (ha : a.size ≤ 12) : Calls Tryd.prog 78 #[.string a] w (RowS (rivT a) w) := by
  have hc0 : (w.alloc (.cells #[.string a] 9)).cell? ⟨w.heap.size, 0, none⟩ = some (.string a) := by simp [go_sem]
  have hbl0 := bel_alloc (Below.refl _ w) (.cells #[.string a] 9)
  obtain ⟨W0, hW0⟩ : ∃ W0, W0 = w.alloc (.cells #[.string a] 9) := ⟨_, rfl⟩
  have sz0 : w.heap.size < W0.heap.size := by rw [hW0]; simp
  have HW0 := Lib.hid hW0
  rw [← hW0] at hc0 hbl0
  clear hW0
  go_enter Tryd.func78, Tryd.ntmps78
  go_wp2_with fail
  rw [← HW0.out]
  refine (allTosses_any a.size W0 ha).mono ?_
  rintro e w1 ⟨v, rfl, r1, b1⟩
  have hpos := tx_pos a.size
  rcases r1.form with ⟨hx, _⟩ | ⟨hx, g, cap, rfl, hbg, hgl, hlc, hcm⟩
  · rw [hx] at hpos; simp at hpos
  have c1 := (b1.cell (p := ⟨w.heap.size, 0, none⟩) sz0).trans hc0
  have HD := Lib.hid (del_any a (allTx a.size) W0.heap.size g cap w.heap.size w1 r1 hpos (by omega) (by omega) c1)
  have bl1 := bel_trans hbl0 b1
  have hfin : Hid ((allTx a.size).filter (fun p => !decide (p = a)) = rivT a) := rfl
  clear r1 hx hpos c1
  generalize allTx a.size = xs at *
  go_wp2_with fail
  refine HD.out.mono ?_
  rintro e w2 ⟨v2, rfl, r2, k2⟩
  rw [hfin.out] at r2
  have R2 := Lib.hid (r2.mono (show w.heap.size ≤ W0.heap.size by omega))
  have bl2 := k2 _ _ bl1 (by omega)
  clear r2 k2
  go_wp2_with fail
  go_ret
  exact ⟨_, rfl, R2.out, bl2⟩
end Go.Proofs.YtjckmnbpfmcadabDoor
