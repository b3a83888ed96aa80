/- The solutions of a puzzle: contracts of the program. -/
import Derived.Test.YtggflgmjncjmbaaPzG
namespace Go.Proofs.Ytggflgmjncjmbaa
set_option linter.unusedSimpArgs false
open Go.ChangeShapes Go.WideShapes Go.ChangeAt Go.RowKit
set_option linter.unusedVariables false

set_option maxRecDepth 100000 in
set_option maxHeartbeats 1600000 in
theorem pFits_any (p : Int) (ts : List Tri) (v : Value) (B : Nat) (u d o : Int) (w : World) (h : RdT w B v ts) (hB : B ≤ w.heap.size) (hcl : clsG ts = true) (hh : hidG (u, d, o) = true) :
    Calls Try.prog 95 #[pz p v, chn u d o] w fun e w' => e = .returned (.bool (fitsA ts (u, d, o))) ∧ Below w.heap.size w w' := by
  obtain ⟨A, cap, rfl, hl, hm⟩ := h.form
  unfold maxLen at hm
  have H := Lib.hid h
  have HC := Lib.hid hcl
  clear h hcl
  have bl := bel_alloc (bel_alloc (Below.refl _ w) (.cells #[.int .i64 p, .slice A ts.length cap] 29)) (.cells #[.int .i64 u, .int .i64 d, .int .i64 o] 41)
  have b1 := Lib.hid (Box3.new (w.alloc (.cells #[.int .i64 p, .slice A ts.length cap] 29)) (.int .i64 u) (.int .i64 d) (.int .i64 o) 41)
  have hz : (w.alloc (.cells #[.int .i64 p, .slice A ts.length cap] 29)).heap.size = w.heap.size + 1 := (size1 _ _).symm
  rw [hz] at b1
  clear hz
  have HH := Lib.hid hh
  clear hh
  generalize hN : ts.length = N at *
  have HN := Lib.hid hN
  clear hN
  go_enter Try.func95, Try.ntmps95
  go_wp2_with fail
  go_loopw [10] (fun i wr => ∃ k : Nat, k ≤ N ∧ i = .int .i64 k ∧ Hid (fitsA (ts.take k) (u, d, o) = true) ∧ Hid (Box3 wr (w.heap.size + 1) (.int .i64 u) (.int .i64 d) (.int .i64 o)) ∧ Below w.heap.size w wr) (fun i _ => N - (intOf i).toNat)
  case atStart => exact ⟨0, by omega, rfl, Lib.hid (by simp [fitsA]), b1, bl⟩
  case round =>
    obtain ⟨k, hk, rfl, hf, hbx, hbl⟩ := hrel
    by_cases hlt : k < N
    · have hkx : k < ts.length := by rw [HN.out]; exact hlt
      obtain ⟨ad, x, y, z, rfl, hab, hxyz, c0, c1, c2⟩ := (H.out.below hbl hB).at3 hkx
      have hgc := clsG_at hkx HC.out
      rw [hxyz] at hgc
      have hcall := fun W => cFits_any x y z u d o W hgc HH.out
      obtain ⟨d0, d1, d2, dk⟩ := hbx.out
      cases hg : fit (x, y, z) (u, d, o)
      · have hno : fitsA ts (u, d, o) = false := fitsA_no hkx (by rw [hxyz]; exact hg)
        have Hno := Lib.hid hno
        rw [hg] at hcall
        clear hno hxyz hg hgc
        go_wp2_with fail
        refine (hcall _).mono ?_
        rintro e w2 ⟨rfl, b2⟩
        have hbl2 := bel_trans (bel_trans hbl (bel_alloc (Below.refl _ _) _)) b2
        go_wp2_with fail
        go_ret
        exact ⟨by rw [Hno.out]; rfl, hbl2⟩
      · have hf2 : Hid (fitsA (ts.take (k + 1)) (u, d, o) = true) := Lib.hid (by rw [fitsA_take hkx, hf.out, hxyz, hg]; rfl)
        rw [hg] at hcall
        clear hxyz hg hgc
        go_wp2_with fail
        refine (hcall _).mono ?_
        rintro e w2 ⟨rfl, b2⟩
        have hbx2 := Lib.hid ((hbx.out.keep (bel_alloc (Below.refl _ _) _)).keep b2)
        have hbl2 := bel_trans (bel_trans hbl (bel_alloc (Below.refl _ _) _)) b2
        clear d0 d1 d2 dk
        go_wp2_with fail
        exact ⟨⟨k + 1, by omega, by go_num, hf2, hbx2, hbl2⟩, by simp [intOf]; omega⟩
    · have hall : fitsA ts (u, d, o) = true := by
        have q := hf.out
        rwa [List.take_of_length_le (by rw [HN.out]; omega)] at q
      have Hall := Lib.hid hall
      clear hall
      go_wp2_with fail
      go_ret
      exact ⟨by rw [Hall.out]; rfl, hbl⟩

theorem Box2.keepB {w w1 : World} {k C : Nat} {x y : Value} (h : Box2 w k x y) (hb : Below C w w1) (hk : k < C) : Box2 w1 k x y :=
  ⟨(hb.cell (p := ⟨k, 0, none⟩) hk).trans h.1, (hb.cell (p := ⟨k, 1, none⟩) hk).trans h.2.1, Nat.lt_of_lt_of_le h.2.2 hb.size⟩
theorem hidG_of {o w d : Nat} (h1 : 1 ≤ o) (h8 : o ≤ 8) (hw : w ≤ o) (hd : d ≤ o) : hidG ((w : Int), (d : Int), (o : Int)) = true := by
  unfold hidG good inB
  simp
  omega
set_option maxRecDepth 100000 in
set_option maxHeartbeats 3200000 in
theorem pSols_any (o : Nat) (ts : List Tri) (v : Value) (B : Nat) (w : World) (h : RdT w B v ts) (hB : B ≤ w.heap.size) (hcl : clsG ts = true) (h1 : 1 ≤ o) (h8 : o ≤ 8) :
    Calls Try.prog 70 #[pz o v] w (TriOne 41 (sols o ts) w) := by
  obtain ⟨A, cap, rfl, hl, hm⟩ := h.form
  have H := Lib.hid h
  have HC := Lib.hid hcl
  have bl := bel_alloc (Below.refl _ w) (.cells #[.int .i64 o, .slice A ts.length cap] 29)
  have bx := Lib.hid (Box2.new w (.int .i64 o) (.slice A ts.length cap) 29)
  clear h hcl
  go_enter Try.func70, Try.ntmps70
  obtain ⟨b0, b1, b2⟩ := bx.out
  go_wp2_with fail
  clear b0 b1 b2
  go_loopw [3, 10] (fun v i wr => ∃ k : Nat, k ≤ o + 1 ∧ i = .int .i64 k ∧ Hid (TRow 41 wr (w.heap.size + 1) v (solW o ts k)) ∧ Hid (Box2 wr w.heap.size (.int .i64 o) (.slice A ts.length cap)) ∧ Below w.heap.size w wr) (fun _ i _ => o + 1 - (intOf i).toNat)
  case atStart => exact ⟨0, by omega, rfl, Lib.hid (TRow.nil _ _ _), bx, bl⟩
  case round =>
    obtain ⟨k, hk, rfl, hI, hbx, hbl⟩ := hrel
    obtain ⟨b0, b1, b2⟩ := hbx.out
    by_cases hlt : k < o + 1
    · have hki : (k : Int) < (o : Int) + 1 := by omega
      go_wp2_with fail
      clear b0 b1 b2
      go_loopw [3, 16] (fun v i wr => ∃ j : Nat, j ≤ o + 1 ∧ i = .int .i64 j ∧ Hid (TRow 41 wr (w.heap.size + 1) v (solW o ts k ++ solD o ts k j)) ∧ Hid (Box2 wr w.heap.size (.int .i64 o) (.slice A ts.length cap)) ∧ Below w.heap.size w wr) (fun _ i _ => o + 1 - (intOf i).toNat)
      case atStart => exact ⟨0, by omega, rfl, Lib.hid (by unfold solD; rw [List.append_nil]; exact hI.out), hbx, hbl⟩
      case round =>
        obtain ⟨j, hj, rfl, hJ, hbx2, hbl2⟩ := hrel
        obtain ⟨b0, b1, b2⟩ := hbx2.out
        by_cases hlj : j < o + 1
        · have hji : (j : Int) < (o : Int) + 1 := by omega
          have hcall := fun W (hR : RdT W B (.slice A ts.length cap) ts) (hz : B ≤ W.heap.size) => pFits_any (o : Int) ts (.slice A ts.length cap) B (k : Int) (j : Int) (o : Int) W hR hz HC.out (hidG_of h1 h8 (by omega) (by omega))
          have hl1 := solW_len o ts k
          have hl2 := solD_len o ts k j
          have hlm : k * (o + 1) ≤ 9 * 9 := Nat.mul_le_mul (by omega) (by omega)
          cases hf : fitsA ts ((k : Int), (j : Int), (o : Int))
          · have hno := Lib.hid (solD_no hf)
            rw [hf] at hcall
            go_wp2_with fail
            refine (hcall _ (H.out.below (bel_alloc hbl2 _) hB) (by have := hbl2.size; simp; omega)).mono ?_
            rintro e w2 ⟨rfl, b2'⟩
            have hb3 := bel_trans (bel_alloc (Below.refl _ _) (.cells #[.int .i64 k, .int .i64 j, .int .i64 o] 41)) b2'
            have hbx3 := Lib.hid (hbx2.out.keep hb3)
            have HJ3 := Lib.hid (hJ.out.below hb3)
            have hbl3 := bel_trans hbl2 hb3
            clear b0 b1 b2
            go_wp2_with fail
            exact ⟨⟨j + 1, by omega, by go_num, by rw [hno.out]; exact HJ3, hbx3, hbl3⟩, by simp [intOf]; omega⟩
          · have hyes := Lib.hid (solD_yes hf)
            rw [hf] at hcall
            go_wp2_with fail
            refine (hcall _ (H.out.below (bel_alloc hbl2 _) hB) (by have := hbl2.size; simp; omega)).mono ?_
            rintro e w2 ⟨rfl, b2'⟩
            have hb3 := bel_trans (bel_alloc (Below.refl _ _) (.cells #[.int .i64 k, .int .i64 j, .int .i64 o] 41)) b2'
            have hbx3 := Lib.hid (hbx2.out.keep hb3)
            have HJ3 := Lib.hid (hJ.out.below hb3)
            have hbl3 := bel_trans hbl2 hb3
            obtain ⟨e0, e1, e2, ek⟩ := (Box3.new _ (.int .i64 k) (.int .i64 j) (.int .i64 o) 41).keep b2'
            clear b0 b1 b2
            go_wp2_with (at_builtin; refine wpList_pushT1 44 41 Try.underlying44 info_chain rfl (.tmp 27) (.tmp 29) rfl _ _ _ HJ3.out (k : Int) (j : Int) (o : Int) rfl (by rw [List.length_append]; omega) (by have := hbx3.out.2.2; omega) rfl ?_)
            intro v' w5 hI5 hb5
            clear e0 e1 e2
            have hbx5 := Lib.hid (hbx3.out.keepB hb5 (by omega))
            go_wp2_with fail
            exact ⟨⟨j + 1, by omega, by go_num, by rw [hyes.out]; exact Lib.hid hI5, hbx5, hbl3.trans (hb5.mono (by omega))⟩, by simp [intOf]; omega⟩
        · have hje : j = o + 1 := by omega
          have hend : Hid (solW o ts k ++ solD o ts k j = solW o ts (k + 1)) := Lib.hid (by rw [hje]; rfl)
          clear b0 b1 b2 hje
          have hji : ¬ (j : Int) < (o : Int) + 1 := by omega
          go_wp2_with fail
          exact ⟨⟨k + 1, by omega, by go_num, by rw [← hend.out]; exact hJ, hbx2, hbl2⟩, by simp [intOf]; omega⟩
    · have hke : k = o + 1 := by omega
      have hend : Hid (solW o ts k = sols o ts) := Lib.hid (by rw [hke]; rfl)
      clear b0 b1 b2 hke
      have hki : ¬ (k : Int) < (o : Int) + 1 := by omega
      go_wp2_with fail
      go_ret
      exact ⟨_, rfl, by rw [← hend.out]; exact hI.out.mono (by omega), hbl⟩
end Go.Proofs.Ytggflgmjncjmbaa
