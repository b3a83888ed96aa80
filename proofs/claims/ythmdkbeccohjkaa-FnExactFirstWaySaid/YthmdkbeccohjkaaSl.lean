/- Contracts of the law's own helpers over slices of integers and states: copied, sized, held against each other. -/
import Derived.Test.YthmdkbeccohjkaaGraph
import Derived.Laws.MakeOwn
namespace Go.Proofs.Ythmdkbeccohjkaa
set_option linter.unusedSimpArgs false
open Go.ChangeShapes Go.WideShapes Go.ChangeAt Go.RowKit
set_option linter.unusedVariables false

theorem info_int : (Try.prog.info? 3).map (fun i => (i.zero, i.size, i.bytes)) = some (some (.int .i64 0), 1, 8) := by kernel_rfl
theorem info_ints : (Try.prog.info? 26).map (fun i => (i.zero, i.size, i.bytes)) = some (some (.slice none 0 0), 1, 24) := by kernel_rfl
theorem madeOne (v : Value) (n : Nat) : madeCells #[v] n = Array.replicate n v := by
  apply Array.ext
  · simp [madeCells]
  · intro i h1 h2
    simp [madeCells, Nat.mod_one]
theorem mk_ints (n : Nat) (hn : n ≤ 1048576) (W : World) : (Instr.makeSlice 26 (.int .i64 n) (.int .i64 n)).run Try.prog W = .ok (.slice (some ⟨W.heap.size, 0, none⟩) n n) (W.alloc (.cells (Array.replicate n (.int .i64 0)) 3)) := by
  obtain ⟨i0, hi, hz0, hz1, hz2⟩ := info_parts info_int
  have h := run_make (P := Try.prog) W 26 3 i0 _ Try.underlying26 hi hz0 .i64 .i64 n n (by omega) (by omega) (by rw [hz2]; omega) (by omega)
  rw [h, hz1]
  simp [Value.cells, madeOne]
theorem mk_rows (n : Nat) (hn : n ≤ 1048576) (W : World) : (Instr.makeSlice 22 (.int .i64 n) (.int .i64 n)).run Try.prog W = .ok (.slice (some ⟨W.heap.size, 0, none⟩) n n) (W.alloc (.cells (Array.replicate n nilS) 26)) := by
  obtain ⟨i0, hi, hz0, hz1, hz2⟩ := info_parts info_ints
  have h := run_make (P := Try.prog) W 22 26 i0 _ Try.underlying22 hi hz0 .i64 .i64 n n (by omega) (by omega) (by rw [hz2]; omega) (by omega)
  rw [h, hz1]
  simp [Value.cells, madeOne]
theorem IRow.made (W : World) (n : Nat) (hn : n ≤ 1048576) : IRow (W.alloc (.cells (Array.replicate n (.int .i64 0)) 3)) W.heap.size (.slice (some ⟨W.heap.size, 0, none⟩) n n) (List.replicate n 0) := by
  have h := World.ownsRow_lit (base := W.heap.size) (e := 3) (size := 1) W (Array.replicate n (.int .i64 0)) n (Nat.le_refl _) (by simp only [maxLen]; omega) (by simp)
  unfold IRow
  rw [List.length_replicate, List.map_replicate]
  simpa using h
/-- The first k numbers are copied. -/
def copied (xs : List Int) (k : Nat) : List Int := xs.take k ++ List.replicate (xs.length - k) 0
theorem copied_len (xs : List Int) (k : Nat) (h : k ≤ xs.length) : (copied xs k).length = xs.length := by simp [copied]; omega
theorem copied_zero (xs : List Int) : copied xs 0 = List.replicate xs.length 0 := by simp [copied]
theorem copied_all (xs : List Int) : copied xs xs.length = xs := by simp [copied]
theorem copied_set (xs : List Int) (k : Nat) (h : k < xs.length) : (copied xs k).set k (xs.getD k 0) = copied xs (k + 1) := by
  unfold copied
  apply List.ext_getElem
  · simp; omega
  · intro j h1 h2
    simp only [List.getElem_set]
    by_cases e : k = j
    · subst e
      rw [if_pos rfl, List.getElem_append_left (by simp; omega)]
      simp [List.getD_eq_getElem?_getD, List.getElem?_eq_getElem h]
    · rw [if_neg e]
      rcases Nat.lt_or_ge j k with g | g
      · rw [List.getElem_append_left (by simp; omega), List.getElem_append_left (by simp; omega)]
        simp
      · rw [List.getElem_append_right (by simp; omega), List.getElem_append_right (by simp; omega)]
        simp

set_option maxHeartbeats 800000 in
theorem toIntS_any (xs : List Int) (v : Value) (B : Nat) (w : World) (h : RdI w B v xs) (hB : B ≤ w.heap.size) (hn : xs.length ≤ 1048576) :
    Calls Try.prog 24 #[v] w (RowOne xs w) := by
  obtain ⟨A, cap, rfl, _, _⟩ := h.form
  have H := Lib.hid h
  clear h
  have hmk := mk_ints xs.length hn
  have hI0 := Lib.hid (IRow.made w xs.length hn)
  generalize hN : xs.length = N at *
  have HN := Lib.hid hN
  clear hN
  go_enter Try.func24, Try.ntmps24
  go_wp2
  go_loopw [4] (fun i wr => ∃ k : Nat, k ≤ N ∧ i = .int .i64 k ∧ Hid (IRow wr w.heap.size (.slice (some ⟨w.heap.size, 0, none⟩) N N) (copied xs k)) ∧ Below w.heap.size w wr) (fun i _ => N - (intOf i).toNat)
  case atStart => exact ⟨0, by omega, rfl, by rw [copied_zero, HN.out]; exact hI0.out, bel_alloc (Below.refl _ _) _⟩
  case round =>
    obtain ⟨k, hk, rfl, hrow, hbl⟩ := hrel
    by_cases hlt : k < N
    · have hkx : k < xs.length := by rw [HN.out]; exact hlt
      obtain ⟨ad, rfl, hab, hc⟩ := (H.out.below hbl hB).at_ hkx
      have hlen : (copied xs k).length = N := by rw [copied_len _ _ (by omega)]; exact HN.out
      have hr := hrow.out
      rw [← hlen] at hr
      have c0 := hr.at_ (g := w.heap.size) k (by omega)
      have f0 := World.ownsRow.frozenAt hr k
      obtain ⟨hr2, hg2⟩ := hr.store k (xs.getD k 0)
      rw [copied_set _ _ hkx, hlen] at hr2
      have HR2 := Lib.hid hr2
      have hb2 := hbl.grown hg2 hbl.size (fun j hj => by injection hj with hj; omega)
      generalize (copied xs k).getD k 0 = y at *
      generalize xs.getD k 0 = x at *
      clear hr hr2 hlen hkx
      go_wp2
      exact ⟨⟨k + 1, by omega, by go_num, HR2, hb2⟩, by simp [intOf]; omega⟩
    · have hkn : k = N := by omega
      have hend : copied xs k = xs := by rw [hkn, ← HN.out]; exact copied_all xs
      have HE := Lib.hid hend
      clear hend hkn
      go_wp2
      go_ret
      exact ⟨_, rfl, by have q := hrow.out; rw [HE.out] at q; exact q, hbl⟩
end Go.Proofs.Ythmdkbeccohjkaa
