/- All solutions: the contract of the model. -/
import Derived.Test.YtggflgmjncjmbaaPzM
namespace Go.Proofs.Ytggflgmjncjmbaa
set_option linter.unusedSimpArgs false
open Go.ChangeShapes Go.WideShapes Go.ChangeAt Go.RowKit
set_option linter.unusedVariables false

set_option maxRecDepth 100000 in
set_option maxHeartbeats 6400000 in
theorem pzAll_any (o : Nat) (ts : List Tri) (v : Value) (B : Nat) (w : World) (h : RdT w B v ts) (hB : B ≤ w.heap.size) (hcl : clsG ts = true) (h1 : 1 ≤ o) (h8 : o ≤ 8) :
    Calls Try.prog 69 #[.int .i64 o, v] w (TriOne 41 (sols o ts) w) := by
  obtain ⟨A, cap, rfl, hl, hm⟩ := h.form
  unfold maxLen at hm
  have H := Lib.hid h
  have HC := Lib.hid hcl
  clear h hcl
  generalize hN : ts.length = N at *
  have HN := Lib.hid hN
  clear hN
  go_enter Try.func69, Try.ntmps69
  go_wp2_with fail
  go_loopw [5, 6] (fun v i wr => ∃ k : Nat, k ≤ o + 1 ∧ i = .int .i64 k ∧ Hid (TRow 41 wr w.heap.size v (solW o ts k)) ∧ Below w.heap.size w wr) (fun _ i _ => o + 1 - (intOf i).toNat)
  case atStart => exact ⟨0, by omega, rfl, Lib.hid (TRow.nil _ _ _), Below.refl _ _⟩
  case round =>
    obtain ⟨k, hk, rfl, hI, hbl⟩ := hrel
    by_cases hlt : k < o + 1
    · have hki : (k : Int) ≤ (o : Int) := by omega
      go_wp2_with fail
      go_loopw [5, 7] (fun v i wr => ∃ j : Nat, j ≤ o + 1 ∧ i = .int .i64 j ∧ Hid (TRow 41 wr w.heap.size v (solW o ts k ++ solD o ts k j)) ∧ Below w.heap.size w wr) (fun _ i _ => o + 1 - (intOf i).toNat)
      case atStart => exact ⟨0, by omega, rfl, Lib.hid (by unfold solD; rw [List.append_nil]; exact hI.out), hbl⟩
      case round =>
        obtain ⟨j, hj, rfl, hJ, hbl2⟩ := hrel
        by_cases hlj : j < o + 1
        · have hji : (j : Int) ≤ (o : Int) := by omega
          have hh := hidG_of h1 h8 (show k ≤ o by omega) (show j ≤ o by omega)
          have hl1 := solW_len o ts k
          have hl2 := solD_len o ts k j
          have hlm : k * (o + 1) ≤ 9 * 9 := Nat.mul_le_mul (by omega) (by omega)
          have HH := Lib.hid hh
          clear hh
          obtain ⟨wa, rfl⟩ : ∃ wa : World, wa = wr := ⟨_, rfl⟩
          have bx0 := Lib.hid (Box3.new wa (.int .i64 k) (.int .i64 j) (.int .i64 o) 41)
          have hJ1 := Lib.hid (hJ.out.below (bel_alloc (Below.refl _ _) (.cells #[.int .i64 k, .int .i64 j, .int .i64 o] 41)))
          have hbl3 := bel_alloc hbl2 (.cells #[.int .i64 k, .int .i64 j, .int .i64 o] 41)
          go_wp2_with fail
          go_loopw [9, 28] (fun f i wr => ∃ m : Nat, m ≤ N ∧ i = .int .i64 m ∧ f = .bool (fitsA (ts.take m) ((k : Int), (j : Int), (o : Int))) ∧ Hid (Box3 wr wa.heap.size (.int .i64 k) (.int .i64 j) (.int .i64 o)) ∧ Hid (TRow 41 wr w.heap.size u5 (solW o ts k ++ solD o ts k j)) ∧ Below w.heap.size w wr) (fun _ i _ => N - (intOf i).toNat)
          case atStart => exact ⟨0, by omega, rfl, by simp [fitsA], bx0, hJ1, hbl3⟩
          case round =>
            obtain ⟨m, hm, rfl, rfl, hbx, hJ2, hbl4⟩ := hrel
            obtain ⟨d0, d1, d2, dk⟩ := hbx.out
            by_cases hlm2 : m < N
            · have hmx : m < ts.length := by rw [HN.out]; exact hlm2
              obtain ⟨ad, x, y, z, rfl, hab, hxyz, c0, c1, c2⟩ := (H.out.below hbl4 hB).at3 hmx
              have hgc := clsG_at hmx HC.out
              rw [hxyz] at hgc
              have hcall := fun W => mFits_any x y z (k : Int) (j : Int) (o : Int) W hgc HH.out
              have hst := fitsA_take (c := ((k : Int), (j : Int), (o : Int))) hmx
              rw [hxyz] at hst
              have Hst := Lib.hid hst
              clear hst hxyz hgc
              generalize fit (x, y, z) ((k : Int), (j : Int), (o : Int)) = F at *
              cases hq : fitsA (ts.take m) ((k : Int), (j : Int), (o : Int))
              · have Hq := Lib.hid hq
                clear hq
                have hbx2 := Lib.hid (hbx.out.keep (bel_alloc (Below.refl _ _) (.cells #[.int .i64 x, .int .i64 y, .int .i64 z] 39)))
                have hJ3 := Lib.hid (hJ2.out.below (bel_alloc (Below.refl _ _) (.cells #[.int .i64 x, .int .i64 y, .int .i64 z] 39)))
                have hbl5 := bel_alloc hbl4 (.cells #[.int .i64 x, .int .i64 y, .int .i64 z] 39)
                clear d0 d1 d2 dk
                go_wp2_with fail
                exact ⟨⟨m + 1, by omega, by go_num, by rw [Hst.out, Hq.out]; rfl, hbx2, hJ3, hbl5⟩, by simp [intOf]; omega⟩
              · have Hq := Lib.hid hq
                clear hq
                go_wp2_with fail
                refine (hcall _).mono ?_
                rintro e w2 ⟨rfl, b2⟩
                have hb5 := bel_trans (bel_alloc (Below.refl _ _) (.cells #[.int .i64 x, .int .i64 y, .int .i64 z] 39)) b2
                have hbx2 := Lib.hid (hbx.out.keep hb5)
                have hJ3 := Lib.hid (hJ2.out.below hb5)
                have hbl5 := bel_trans hbl4 hb5
                clear d0 d1 d2 dk
                go_wp2_with fail
                exact ⟨⟨m + 1, by omega, by go_num, by rw [Hst.out, Hq.out]; rfl, hbx2, hJ3, hbl5⟩, by simp [intOf]; omega⟩
            · have hall : ts.take m = ts := List.take_of_length_le (by rw [HN.out]; omega)
              rw [hall]
              cases hf : fitsA ts ((k : Int), (j : Int), (o : Int))
              · have hno := Lib.hid (solD_no hf)
                clear hf hall
                clear d0 d1 d2 dk
                go_wp2_with fail
                exact ⟨⟨j + 1, by omega, by go_num, by rw [hno.out]; exact hJ2, hbl4⟩, by simp [intOf]; omega⟩
              · have hyes := Lib.hid (solD_yes hf)
                clear hf hall
                go_wp2_with (at_builtin; refine wpList_pushT1 44 41 Try.underlying44 info_chain rfl (.tmp 40) (.tmp 42) rfl _ _ _ hJ2.out (k : Int) (j : Int) (o : Int) rfl (by rw [List.length_append]; omega) hbl4.size rfl ?_)
                intro v' w5 hI5 hb5
                clear d0 d1 d2 dk
                go_wp2_with fail
                exact ⟨⟨j + 1, by omega, by go_num, by rw [hyes.out]; exact Lib.hid hI5, hbl4.trans hb5⟩, by simp [intOf]; omega⟩
        · have hje : j = o + 1 := by omega
          have hend : Hid (solW o ts k ++ solD o ts k j = solW o ts (k + 1)) := Lib.hid (by rw [hje]; rfl)
          clear hje
          have hji : ¬ (j : Int) ≤ (o : Int) := by omega
          go_wp2_with fail
          exact ⟨⟨k + 1, by omega, by go_num, by rw [← hend.out]; exact hJ, hbl2⟩, by simp [intOf]; omega⟩
    · have hke : k = o + 1 := by omega
      have hend : Hid (solW o ts k = sols o ts) := Lib.hid (by rw [hke]; rfl)
      clear hke
      have hki : ¬ (k : Int) ≤ (o : Int) := by omega
      go_wp2_with fail
      go_ret
      exact ⟨_, rfl, by rw [← hend.out]; exact hI.out, hbl⟩
end Go.Proofs.Ytggflgmjncjmbaa
