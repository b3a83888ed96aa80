/- Made puzzles: contracts of the program and of its model. -/
import Derived.Test.YtggflgmjncjmbaaPzMl
import Derived.Test.YtggflgmjncjmbaaPzR
namespace Go.Proofs.Ytggflgmjncjmbaa
set_option linter.unusedSimpArgs false
open Go.ChangeShapes Go.WideShapes Go.ChangeAt Go.RowKit
set_option linter.unusedVariables false

def mpG (w d o n s : Int) : Bool := hidG (w, d, o) && (inB n 0 6 && inB s 0 9999)
def mpL (w d o n s : Int) : List Tri := if mpG w d o n s then mkR w d o s.toNat n.toNat else []
def mpO (w d o n s : Int) : Int := if mpG w d o n s then o else 0
theorem mpL_no {w d o n s : Int} (h : mpG w d o n s = false) : mpL w d o n s = [] ∧ mpO w d o n s = 0 := by unfold mpL mpO; rw [h]; exact ⟨rfl, rfl⟩
theorem mpL_yes {w d o n s : Int} (h : mpG w d o n s = true) : mpL w d o n s = mkR w d o s.toNat n.toNat ∧ mpO w d o n s = o := by unfold mpL mpO; rw [h]; exact ⟨rfl, rfl⟩
theorem mpG_yes {w d o n s : Int} (h : mpG w d o n s = true) : hidG (w, d, o) = true ∧ inB n 0 6 = true ∧ inB s 0 9999 = true := by
  unfold mpG at h
  simpa only [Bool.and_eq_true] using h
theorem mpL_len (w d o n s : Int) : (mpL w d o n s).length ≤ 1000 := by
  unfold mpL
  split
  · rename_i h
    have := (mpG_yes h).2.1
    unfold inB at this
    simp at this
    rw [mkR_len]
    omega
  · simp
theorem h23_res1 {w V : World} {P C R : Nat} {x y a b c : Value} (h : V.cell? ⟨P, 0, none⟩ = some x ∧ V.cell? ⟨P, 1, none⟩ = some y ∧ P < V.heap.size ∧ V.cell? ⟨C, 0, none⟩ = some a ∧ V.cell? ⟨C, 1, none⟩ = some b ∧ V.cell? ⟨C, 2, none⟩ = some c ∧ C < V.heap.size ∧ BW V R ∧ Below w.heap.size w V)
    (h1 : P ≠ R) (h2 : C ≠ R) (h3 : w.heap.size ≤ R) (v : Value) : let V' := V.setCell ⟨R, 1, none⟩ v
    V'.cell? ⟨P, 0, none⟩ = some x ∧ V'.cell? ⟨P, 1, none⟩ = some y ∧ P < V'.heap.size ∧ V'.cell? ⟨C, 0, none⟩ = some a ∧ V'.cell? ⟨C, 1, none⟩ = some b ∧ V'.cell? ⟨C, 2, none⟩ = some c ∧ C < V'.heap.size ∧ BW V' R ∧ Below w.heap.size w V' := by
  obtain ⟨hp, hc, ⟨p, q, hr⟩, hl⟩ := h23_to h
  refine h23_of (hp.off R h1 1 v) ?_ ⟨p, v, hr.set1 v⟩ (hl.setCell (p := ⟨R, 1, none⟩) h3 v)
  obtain ⟨c0, c1, c2, c3⟩ := hc
  refine ⟨?_, ?_, ?_, ?_⟩
  all_goals simp [go_sem, c0, c1, c2, c3, h2]
theorem Box3.offS {w : World} {k : Nat} {x y z : Value} (h : Box3 w k x y z) (n : Nat) (hne : k ≠ n) (o : Nat) (b : Value) : Box3 (w.setCell ⟨n, o, none⟩ b) k x y z := by
  obtain ⟨h0, h1, h2, h3⟩ := h
  refine ⟨?_, ?_, ?_, ?_⟩
  all_goals simp [go_sem, h0, h1, h2, h3, hne]
set_option maxRecDepth 100000 in
set_option maxHeartbeats 6400000 in
theorem implMk_any (u d o n s : Int) (w : World) :
    Calls Try.prog 58 #[chn u d o, .int .i64 n, .int .i64 s] w (PzAns (mpO u d o n s) (mpL u d o n s) (mpG u d o n s) w) := by
  have hA := fun W => isHid_any u d o W
  have hB := fun W => upTo_any 6 n W
  have hD := fun W => upTo_any 9999 s W
  have bx := Lib.hid (show Box3 ((w.alloc (.cells #[.int .i64 u, .int .i64 d, .int .i64 o] 41)).alloc (.cells #[.int .i64 0, .slice none 0 0] 29)) w.heap.size (.int .i64 u) (.int .i64 d) (.int .i64 o) from (Box3.new w (.int .i64 u) (.int .i64 d) (.int .i64 o) 41).keep (bel_alloc (Below.refl _ _) _))
  have bw := Lib.hid (show BoxW ((w.alloc (.cells #[.int .i64 u, .int .i64 d, .int .i64 o] 41)).alloc (.cells #[.int .i64 0, .slice none 0 0] 29)) (w.heap.size + 1) (.int .i64 0) (.slice none 0 0) from by simpa using BoxW.new (w.alloc (.cells #[.int .i64 u, .int .i64 d, .int .i64 o] 41)) (.int .i64 0) (.slice none 0 0) 29)
  have bl := bel_alloc (bel_alloc (Below.refl _ w) (.cells #[.int .i64 u, .int .i64 d, .int .i64 o] 41)) (.cells #[.int .i64 0, .slice none 0 0] 29)
  cases hg : hidG (u, d, o)
  · rw [hg] at hA
    have hd : mpG u d o n s = false := by unfold mpG; rw [hg]; rfl
    have E := Lib.hid (And.intro (mpL_no hd).2 (And.intro (mpL_no hd).1 hd))
    clear hd
    go_enter Try.func58, Try.ntmps58
    go_wp2_with fail
    refine (hA _).mono ?_
    rintro e w2 ⟨rfl, b2⟩
    have bl2 := bel_trans bl b2
    have bw2 := Lib.hid (bw.out.keep b2)
    have bx2 := Lib.hid (bx.out.keep b2)
    obtain ⟨⟨f0, f1, f2⟩, f3, f4⟩ := bw2.out
    go_wp2
    refine bodyPost_ret (v := .tuple #[pz 0 (.slice none 0 0), .bool false]) (by simp [results, Try.results58, go_sem, f0, f1, f2]) rfl ?_
    rw [E.out.1, E.out.2.1, E.out.2.2]
    exact ⟨_, rfl, TRow.nil _ _ _, (bl2.setCell (by dsimp only; omega) _).setCell (by dsimp only; omega) _⟩
  · rw [hg] at hA
    cases hn : inB n 0 6
    · rw [hn] at hB
      have hd : mpG u d o n s = false := by unfold mpG; rw [hg, hn]; rfl
      have E := Lib.hid (And.intro (mpL_no hd).2 (And.intro (mpL_no hd).1 hd))
      clear hd
      go_enter Try.func58, Try.ntmps58
      go_wp2_with fail
      refine (hA _).mono ?_
      rintro e w2 ⟨rfl, b2⟩
      have bl2 := bel_trans bl b2
      have bw2 := Lib.hid (bw.out.keep b2)
      have bx2 := Lib.hid (bx.out.keep b2)
      go_wp2_with fail
      refine (hB _).mono ?_
      rintro e w3 ⟨rfl, rfl⟩
      obtain ⟨⟨f0, f1, f2⟩, f3, f4⟩ := bw2.out
      go_wp2
      refine bodyPost_ret (v := .tuple #[pz 0 (.slice none 0 0), .bool false]) (by simp [results, Try.results58, go_sem, f0, f1, f2]) rfl ?_
      rw [E.out.1, E.out.2.1, E.out.2.2]
      exact ⟨_, rfl, TRow.nil _ _ _, (bl2.setCell (by dsimp only; omega) _).setCell (by dsimp only; omega) _⟩
    · rw [hn] at hB
      cases hs : inB s 0 9999
      · rw [hs] at hD
        have hd : mpG u d o n s = false := by unfold mpG; rw [hg, hn, hs]; rfl
        have E := Lib.hid (And.intro (mpL_no hd).2 (And.intro (mpL_no hd).1 hd))
        clear hd
        go_enter Try.func58, Try.ntmps58
        go_wp2_with fail
        refine (hA _).mono ?_
        rintro e w2 ⟨rfl, b2⟩
        have bl2 := bel_trans bl b2
        have bw2 := Lib.hid (bw.out.keep b2)
        have bx2 := Lib.hid (bx.out.keep b2)
        go_wp2_with fail
        refine (hB _).mono ?_
        rintro e w3 ⟨rfl, rfl⟩
        go_wp2_with fail
        refine (hD _).mono ?_
        rintro e w3 ⟨rfl, rfl⟩
        obtain ⟨⟨f0, f1, f2⟩, f3, f4⟩ := bw2.out
        go_wp2
        refine bodyPost_ret (v := .tuple #[pz 0 (.slice none 0 0), .bool false]) (by simp [results, Try.results58, go_sem, f0, f1, f2]) rfl ?_
        rw [E.out.1, E.out.2.1, E.out.2.2]
        exact ⟨_, rfl, TRow.nil _ _ _, (bl2.setCell (by dsimp only; omega) _).setCell (by dsimp only; omega) _⟩
      · rw [hs] at hD
        have hd : mpG u d o n s = true := by unfold mpG; rw [hg, hn, hs]; rfl
        have E := Lib.hid (And.intro (mpL_yes hd).2 (And.intro (mpL_yes hd).1 hd))
        clear hd
        obtain ⟨N, rfl, hN⟩ : ∃ N : Nat, n = N ∧ N ≤ 6 := by unfold inB at hn; simp at hn; exact ⟨n.toNat, by omega, by omega⟩
        obtain ⟨S, rfl, hS⟩ : ∃ S : Nat, s = S ∧ S ≤ 10006 := by unfold inB at hs; simp at hs; exact ⟨s.toNat, by omega, by omega⟩
        simp only [Int.toNat_natCast] at E
        have hz := zN_le S hS
        clear hs hn
        go_enter Try.func58, Try.ntmps58
        go_wp2_with fail
        refine (hA _).mono ?_
        rintro e w2 ⟨rfl, b2⟩
        have bl2 := bel_trans bl b2
        have bw2 := Lib.hid (bw.out.keep b2)
        have bx2 := Lib.hid (bx.out.keep b2)
        go_wp2_with fail
        refine (hB _).mono ?_
        rintro e w3 ⟨rfl, rfl⟩
        go_wp2_with fail
        refine (hD _).mono ?_
        rintro e w3 ⟨rfl, rfl⟩
        obtain ⟨c0, c1, c2, cC⟩ := bx2.out
        have k2 := bw2.out.1.2.2
        go_wp2_with fail
        have bh3 := Lib.hid (BoxW.new w2 (.int .i64 o) (.slice none 0 0) 29)
        have bx3 := Lib.hid (bx2.out.keep (bel_alloc (Below.refl _ w2) (.cells #[.int .i64 o, .slice none 0 0] 29)))
        have bw3 := Lib.hid (bw2.out.keep (bel_alloc (Below.refl _ w2) (.cells #[.int .i64 o, .slice none 0 0] 29)))
        have hb3 := bel_alloc bl2 (.cells #[.int .i64 o, .slice none 0 0] 29)
        have hI3 : Hid (TRow 39 (w2.alloc (.cells #[.int .i64 o, .slice none 0 0] 29)) (w2.heap.size + 1) (.slice none 0 0) []) := Lib.hid (TRow.nil _ _ _)
        generalize w2.alloc (.cells #[.int .i64 o, .slice none 0 0] 29) = w3 at *
        generalize hG : w2.heap.size = G at *
        clear c0 c1 c2 cC bx2 bw2 bl2 hG bl bx bw b2
        go_loopw [9, 29] (fun zv iv wr => ∃ (k : Nat) (x : Value), k ≤ N ∧ zv = .int .i64 (zN S k : Nat) ∧ iv = .int .i64 k ∧ Hid (TRow 39 wr (G + 1) x (mkR u d o S k)) ∧ Hid (BoxW wr G (.int .i64 o) x) ∧ Hid (Box3 wr w.heap.size (.int .i64 u) (.int .i64 d) (.int .i64 o)) ∧ Hid (BoxW wr (w.heap.size + 1) (.int .i64 0) (.slice none 0 0)) ∧ Below w.heap.size w wr) (fun _ iv _ => N - (intOf iv).toNat)
        case atStart => exact ⟨0, _, by omega, rfl, rfl, hI3, bh3, bx3, bw3, hb3⟩
        case round =>
          obtain ⟨k, x, hk, rfl, rfl, hI, hbh, hbx, hbw, hbl⟩ := hrel
          obtain ⟨c0, c1, c2, cC⟩ := hbx.out
          by_cases hlt : k < N
          · have hki : (k : Int) < (N : Int) := by omega
            obtain ⟨AH, capH, rfl, hcH⟩ := hI.out.formS
            have hlk := mkR_len u d o S k
            have hR : Hid (mkR u d o S (k + 1) = mkR u d o S k ++ [mkC u d o ((zN S (k + 1) % 6 : Nat) : Int)]) := Lib.hid rfl
            have hnx := fun W => next_any (zN S k) W (hz k)
            rw [show (zN S k * 239 + 1777) % 10007 = zN S (k + 1) from rfl] at hnx
            have hz1 := hz (k + 1)
            have hcl := fun W => clueBy_any (zN S (k + 1)) u d o W hg hz1
            rcases hm : mkC u d o ((zN S (k + 1) % 6 : Nat) : Int) with ⟨y0, y1, y2⟩
            rw [hm] at hcl hR
            clear hm
            have hZ : Hid (zN S (k + 1) = zN S (k + 1)) := Lib.hid rfl
            generalize hz0 : zN S k = z0 at *
            generalize hz2 : zN S (k + 1) = z1 at *
            have HZ := Lib.hid hz2
            clear hz0 hz2 hZ
            rw [hlk] at hcH
            have hI0 : Hid (TRow 39 wr (G + 1) (.slice AH k capH) (mkR u d o S k)) := Lib.hid (by have q := hI.out; rwa [hlk] at q)
            have hH0 : Hid (BoxW wr G (.int .i64 o) (.slice AH k capH)) := Lib.hid (by have q := hbh.out; rwa [hlk] at q)
            clear hlk hI hbh hcH
            go_wp2_with fail
            refine (hnx _).mono ?_
            rintro e w4 ⟨rfl, rfl⟩
            obtain ⟨g0, g1, g2⟩ := hH0.out.1
            have k1 := hbw.out.1.2.2
            go_wp2_with fail
            refine wp_region_held_drew (S := (fun w' => w'.cell? ⟨w.heap.size + 1, 0, none⟩ = some (.int .i64 0) ∧ w'.cell? ⟨w.heap.size + 1, 1, none⟩ = some (.slice none 0 0) ∧ w.heap.size + 1 < w'.heap.size ∧ w'.cell? ⟨w.heap.size, 0, none⟩ = some (.int .i64 u) ∧ w'.cell? ⟨w.heap.size, 1, none⟩ = some (.int .i64 d) ∧ w'.cell? ⟨w.heap.size, 2, none⟩ = some (.int .i64 o) ∧ w.heap.size < w'.heap.size ∧ BW w' G ∧ Below w.heap.size w w')) (by kernel_rfl) (by (try dsimp only); first | exact h23_start hbw.out.1 hbx.out hH0.out hbl | exact h23_keepB (by assumption) hb11 (by omega) (by omega) (by omega) (by omega) | exact h23_keepB (by assumption) hb5 (by first | omega | (simp; omega)) (by first | omega | (simp; omega)) (by first | omega | (simp; omega)) (by first | omega | (simp; omega)) | exact h23_alloc (by assumption) _ | exact h23_res1 (by assumption) (by omega) (by omega) (by omega) _ | assumption) (fun hHeld => ?_)
            refine wpAnyH_take (i := 0) (oi := _) (v := ?vim_0_1) rfl (by kernel_rfl) (by kernel_rfl) (by kernel_rfl) (fun _ _ _ h => h) (Or.inl ⟨by rfl, ?yim_0_1⟩) (by assumption) ?rim_0_1
            case yim_0_1 => (intro w hSw; (try dsimp only at hSw); go_simp; try with_reducible rfl)
            try simp only [Act.put, List.setIfInBounds_toArray, List.set_cons_zero, List.set_cons_succ]
            refine wpAnyH_take (i := 2) (oi := _) (v := ?vim_2_2) rfl (by kernel_rfl) (by kernel_rfl) (by kernel_rfl) (fun _ _ _ h => h) (Or.inl ⟨by rfl, ?yim_2_2⟩) (by assumption) ?rim_2_2
            case yim_2_2 => (intro w hSw; (try dsimp only at hSw); go_simp; try with_reducible rfl)
            try simp only [Act.put, List.setIfInBounds_toArray, List.set_cons_zero, List.set_cons_succ]
            refine wpAnyH_take (i := 3) (oi := _) (v := ?vim_3_3) rfl (by kernel_rfl) (by kernel_rfl) (by kernel_rfl) (fun _ _ _ h => h) (Or.inl ⟨by rfl, ?yim_3_3⟩) (by assumption) ?rim_3_3
            case yim_3_3 => (intro w hSw; (try dsimp only at hSw); go_simp; try with_reducible rfl)
            try simp only [Act.put, List.setIfInBounds_toArray, List.set_cons_zero, List.set_cons_succ]
            refine wpAnyH_ready (rs := [1, 4]) (by kernel_rfl) (by simp) ?_
            refine AllReadyH.cons (o := _) rfl (fun K hK => ?_) ?_
            · (go_simp)
              refine hK.out _ _ ?_ (fun hHeld => ?_)
              · (try dsimp only); first | exact h23_start hbw.out.1 hbx.out hH0.out hbl | exact h23_keepB (by assumption) hb11 (by omega) (by omega) (by omega) (by omega) | exact h23_keepB (by assumption) hb5 (by first | omega | (simp; omega)) (by first | omega | (simp; omega)) (by first | omega | (simp; omega)) (by first | omega | (simp; omega)) | exact h23_alloc (by assumption) _ | exact h23_res1 (by assumption) (by omega) (by omega) (by omega) _ | assumption
              clear hK K
              try simp only [Act.put, List.setIfInBounds_toArray, List.set_cons_zero, List.set_cons_succ]
              refine wpAnyH_ready (rs := [4]) (by kernel_rfl) (by simp) ?_
              refine AllReadyH.cons (o := _) rfl (fun K hK => ?_) ?_
              · (go_simp; go_at_call 86; refine (hcl _).mono ?_; rintro e w5 ⟨rfl, hb5⟩; (first | (have hI5 := hI0.out.below (bel_undrew hb5); have hH5 := hH0.out.keep (bel_undrew hb5)) | (have hI5 := hI0.out.below hb5; have hH5 := hH0.out.keep hb5)); obtain ⟨g3, g4, g5⟩ := hH5.1)
                refine hK.out _ _ ?_ (fun hHeld => ?_)
                · (try dsimp only); first | exact h23_start hbw.out.1 hbx.out hH0.out hbl | exact h23_keepB (by assumption) hb11 (by omega) (by omega) (by omega) (by omega) | exact h23_keepB (by assumption) hb5 (by first | omega | (simp; omega)) (by first | omega | (simp; omega)) (by first | omega | (simp; omega)) (by first | omega | (simp; omega)) | exact h23_alloc (by assumption) _ | exact h23_res1 (by assumption) (by omega) (by omega) (by omega) _ | assumption
                clear hK K
                try simp only [Act.put, List.setIfInBounds_toArray, List.set_cons_zero, List.set_cons_succ]
                refine wpAnyH_ready (rs := [5]) (by kernel_rfl) (by simp) ?_
                refine AllReadyH.cons (o := _) rfl (fun K hK => ?_) ?_
                · (go_simp)
                  refine hK.out _ _ ?_ (fun hHeld => ?_)
                  · (try dsimp only); first | exact h23_start hbw.out.1 hbx.out hH0.out hbl | exact h23_keepB (by assumption) hb11 (by omega) (by omega) (by omega) (by omega) | exact h23_keepB (by assumption) hb5 (by first | omega | (simp; omega)) (by first | omega | (simp; omega)) (by first | omega | (simp; omega)) (by first | omega | (simp; omega)) | exact h23_alloc (by assumption) _ | exact h23_res1 (by assumption) (by omega) (by omega) (by omega) _ | assumption
                  clear hK K
                  try simp only [Act.put, List.setIfInBounds_toArray, List.set_cons_zero, List.set_cons_succ]
                  refine wpAnyH_ready (rs := [6]) (by kernel_rfl) (by simp) ?_
                  refine AllReadyH.cons (o := _) rfl (fun K hK => ?_) ?_
                  · (refine step_pushR 27 39 Try.underlying27 info_clue (by rfl) (.tmp 34) (.tmp 38) (by rfl) (G + 1) (.slice AH k capH) (mkR u d o S k) (by first | exact hI5.below (bel_alloc (Below.refl _ _) _) | exact (hI5.below (bel_alloc (Below.refl _ _) _)).drew1) [(y0, y1, y2)] _ (some ⟨w5.heap.size, 0, none⟩) 1 1 (by rfl) (rdT_box3 (Box3.new w5 _ _ _ _)) (by rw [mkR_len]; simp; omega) (by have := hb5.size; simp at this ⊢; omega) (by rfl) ?_; intro v11 w11 hI11 hb11 hg11; obtain ⟨A11, cap11, rfl, hc11⟩ := hI11.formS; obtain ⟨⟨d0, d1, d2⟩, d3, d4⟩ := (hH5.keep (bel_alloc (Below.refl _ _) (.cells #[.int .i64 y0, .int .i64 y1, .int .i64 y2] 39))).keepB hb11 (by omega))
                    refine hK.out _ _ ?_ (fun hHeld => ?_)
                    · (try dsimp only); first | exact h23_start hbw.out.1 hbx.out hH0.out hbl | exact h23_keepB (by assumption) hb11 (by omega) (by omega) (by omega) (by omega) | exact h23_keepB (by assumption) hb5 (by first | omega | (simp; omega)) (by first | omega | (simp; omega)) (by first | omega | (simp; omega)) (by first | omega | (simp; omega)) | exact h23_alloc (by assumption) _ | exact h23_res1 (by assumption) (by omega) (by omega) (by omega) _ | assumption
                    clear hK K
                    try simp only [Act.put, List.setIfInBounds_toArray, List.set_cons_zero, List.set_cons_succ]
                    refine wpAnyH_take (i := 7) (oi := _) (v := ?vim_7_4) rfl (by kernel_rfl) (by kernel_rfl) (by kernel_rfl) (fun _ _ _ h => h) (Or.inl ⟨by rfl, ?yim_7_4⟩) (by assumption) ?rim_7_4
                    case yim_7_4 => (intro w hSw; (try dsimp only at hSw); go_simp; try with_reducible rfl)
                    try simp only [Act.put, List.setIfInBounds_toArray, List.set_cons_zero, List.set_cons_succ]
                    refine wpAnyH_ready (rs := [8]) (by kernel_rfl) (by simp) ?_
                    refine AllReadyH.cons (o := _) rfl (fun K hK => ?_) ?_
                    · (go_simp)
                      refine hK.out _ _ ?_ (fun hHeld => ?_)
                      · (try dsimp only); first | exact h23_start hbw.out.1 hbx.out hH0.out hbl | exact h23_keepB (by assumption) hb11 (by omega) (by omega) (by omega) (by omega) | exact h23_keepB (by assumption) hb5 (by first | omega | (simp; omega)) (by first | omega | (simp; omega)) (by first | omega | (simp; omega)) (by first | omega | (simp; omega)) | exact h23_alloc (by assumption) _ | exact h23_res1 (by assumption) (by omega) (by omega) (by omega) _ | assumption
                      clear hK K
                      try simp only [Act.put, List.setIfInBounds_toArray, List.set_cons_zero, List.set_cons_succ]
                      refine wpAnyH_done (by kernel_rfl) ?_ _
                      obtain ⟨hw9, hx9, _, hbl9⟩ := h23_to (by assumption)
                      have hH9 := Lib.hid ((show BoxW w11 G (.int .i64 o) (.slice AH k capH) from ⟨⟨d0, d1, d2⟩, d3, d4⟩).set1 (.slice A11 ((mkR u d o S k).length + 1) cap11))
                      have bw9 : BoxW w11 (w.heap.size + 1) (.int .i64 0) (.slice none 0 0) := ((hbw.out.keep (by first | exact bel_undrew hb5 | exact hb5)).keep (bel_alloc (Below.refl _ _) (.cells #[.int .i64 y0, .int .i64 y1, .int .i64 y2] 39))).keepB hb11 (by omega)
                      have bw10 := Lib.hid (bw9.grown (grown_one w11 G 1 (.slice A11 ((mkR u d o S k).length + 1) cap11)) (by omega))
                      have hI9 : Hid (TRow 39 (w11.setCell ⟨G, 1, none⟩ (.slice A11 ((mkR u d o S k).length + 1) cap11)) (G + 1) (.slice A11 ((mkR u d o S k).length + 1) cap11) (mkR u d o S (k + 1))) := Lib.hid (by rw [hR.out]; have q := TRow.setOther (p := ⟨G, 1, none⟩) hI11 (by dsimp only; omega) (.slice A11 ((mkR u d o S k).length + 1) cap11); simp only [List.length_append, List.length_singleton] at q; exact q)
                      have hX9 := Lib.hid hx9
                      clear d0 d1 d2 d3 d4 g0 g1 g2 g3 g4 g5 hI11 hb11 hg11 hb5 hw9 hx9 bw9 hH5 hI5 hc11
                      generalize w11.setCell ⟨G, 1, none⟩ (.slice A11 ((mkR u d o S k).length + 1) cap11) = w12 at *
                      go_wp2_with fail
                      exact ⟨⟨k + 1, _, by omega, by rw [HZ.out], by go_num, hI9, hH9, hX9, bw10, hbl9⟩, by simp [intOf]; omega⟩
                    exact AllReadyH.nil
                  exact AllReadyH.nil
                exact AllReadyH.nil
              exact AllReadyH.nil
            refine AllReadyH.cons (o := _) rfl (fun K hK => ?_) ?_
            · (go_simp; go_at_call 86; refine (hcl _).mono ?_; rintro e w5 ⟨rfl, hb5⟩; (first | (have hI5 := hI0.out.below (bel_undrew hb5); have hH5 := hH0.out.keep (bel_undrew hb5)) | (have hI5 := hI0.out.below hb5; have hH5 := hH0.out.keep hb5)); obtain ⟨g3, g4, g5⟩ := hH5.1)
              refine hK.out _ _ ?_ (fun hHeld => ?_)
              · (try dsimp only); first | exact h23_start hbw.out.1 hbx.out hH0.out hbl | exact h23_keepB (by assumption) hb11 (by omega) (by omega) (by omega) (by omega) | exact h23_keepB (by assumption) hb5 (by first | omega | (simp; omega)) (by first | omega | (simp; omega)) (by first | omega | (simp; omega)) (by first | omega | (simp; omega)) | exact h23_alloc (by assumption) _ | exact h23_res1 (by assumption) (by omega) (by omega) (by omega) _ | assumption
              clear hK K
              try simp only [Act.put, List.setIfInBounds_toArray, List.set_cons_zero, List.set_cons_succ]
              refine wpAnyH_ready (rs := [1, 5]) (by kernel_rfl) (by simp) ?_
              refine AllReadyH.cons (o := _) rfl (fun K hK => ?_) ?_
              · (go_simp)
                refine hK.out _ _ ?_ (fun hHeld => ?_)
                · (try dsimp only); first | exact h23_start hbw.out.1 hbx.out hH0.out hbl | exact h23_keepB (by assumption) hb11 (by omega) (by omega) (by omega) (by omega) | exact h23_keepB (by assumption) hb5 (by first | omega | (simp; omega)) (by first | omega | (simp; omega)) (by first | omega | (simp; omega)) (by first | omega | (simp; omega)) | exact h23_alloc (by assumption) _ | exact h23_res1 (by assumption) (by omega) (by omega) (by omega) _ | assumption
                clear hK K
                try simp only [Act.put, List.setIfInBounds_toArray, List.set_cons_zero, List.set_cons_succ]
                refine wpAnyH_ready (rs := [5]) (by kernel_rfl) (by simp) ?_
                refine AllReadyH.cons (o := _) rfl (fun K hK => ?_) ?_
                · (go_simp)
                  refine hK.out _ _ ?_ (fun hHeld => ?_)
                  · (try dsimp only); first | exact h23_start hbw.out.1 hbx.out hH0.out hbl | exact h23_keepB (by assumption) hb11 (by omega) (by omega) (by omega) (by omega) | exact h23_keepB (by assumption) hb5 (by first | omega | (simp; omega)) (by first | omega | (simp; omega)) (by first | omega | (simp; omega)) (by first | omega | (simp; omega)) | exact h23_alloc (by assumption) _ | exact h23_res1 (by assumption) (by omega) (by omega) (by omega) _ | assumption
                  clear hK K
                  try simp only [Act.put, List.setIfInBounds_toArray, List.set_cons_zero, List.set_cons_succ]
                  refine wpAnyH_ready (rs := [6]) (by kernel_rfl) (by simp) ?_
                  refine AllReadyH.cons (o := _) rfl (fun K hK => ?_) ?_
                  · (refine step_pushR 27 39 Try.underlying27 info_clue (by rfl) (.tmp 34) (.tmp 38) (by rfl) (G + 1) (.slice AH k capH) (mkR u d o S k) (by first | exact hI5.below (bel_alloc (Below.refl _ _) _) | exact (hI5.below (bel_alloc (Below.refl _ _) _)).drew1) [(y0, y1, y2)] _ (some ⟨w5.heap.size, 0, none⟩) 1 1 (by rfl) (rdT_box3 (Box3.new w5 _ _ _ _)) (by rw [mkR_len]; simp; omega) (by have := hb5.size; simp at this ⊢; omega) (by rfl) ?_; intro v11 w11 hI11 hb11 hg11; obtain ⟨A11, cap11, rfl, hc11⟩ := hI11.formS; obtain ⟨⟨d0, d1, d2⟩, d3, d4⟩ := (hH5.keep (bel_alloc (Below.refl _ _) (.cells #[.int .i64 y0, .int .i64 y1, .int .i64 y2] 39))).keepB hb11 (by omega))
                    refine hK.out _ _ ?_ (fun hHeld => ?_)
                    · (try dsimp only); first | exact h23_start hbw.out.1 hbx.out hH0.out hbl | exact h23_keepB (by assumption) hb11 (by omega) (by omega) (by omega) (by omega) | exact h23_keepB (by assumption) hb5 (by first | omega | (simp; omega)) (by first | omega | (simp; omega)) (by first | omega | (simp; omega)) (by first | omega | (simp; omega)) | exact h23_alloc (by assumption) _ | exact h23_res1 (by assumption) (by omega) (by omega) (by omega) _ | assumption
                    clear hK K
                    try simp only [Act.put, List.setIfInBounds_toArray, List.set_cons_zero, List.set_cons_succ]
                    refine wpAnyH_take (i := 7) (oi := _) (v := ?vim_7_5) rfl (by kernel_rfl) (by kernel_rfl) (by kernel_rfl) (fun _ _ _ h => h) (Or.inl ⟨by rfl, ?yim_7_5⟩) (by assumption) ?rim_7_5
                    case yim_7_5 => (intro w hSw; (try dsimp only at hSw); go_simp; try with_reducible rfl)
                    try simp only [Act.put, List.setIfInBounds_toArray, List.set_cons_zero, List.set_cons_succ]
                    refine wpAnyH_ready (rs := [8]) (by kernel_rfl) (by simp) ?_
                    refine AllReadyH.cons (o := _) rfl (fun K hK => ?_) ?_
                    · (go_simp)
                      refine hK.out _ _ ?_ (fun hHeld => ?_)
                      · (try dsimp only); first | exact h23_start hbw.out.1 hbx.out hH0.out hbl | exact h23_keepB (by assumption) hb11 (by omega) (by omega) (by omega) (by omega) | exact h23_keepB (by assumption) hb5 (by first | omega | (simp; omega)) (by first | omega | (simp; omega)) (by first | omega | (simp; omega)) (by first | omega | (simp; omega)) | exact h23_alloc (by assumption) _ | exact h23_res1 (by assumption) (by omega) (by omega) (by omega) _ | assumption
                      clear hK K
                      try simp only [Act.put, List.setIfInBounds_toArray, List.set_cons_zero, List.set_cons_succ]
                      refine wpAnyH_done (by kernel_rfl) ?_ _
                      obtain ⟨hw9, hx9, _, hbl9⟩ := h23_to (by assumption)
                      have hH9 := Lib.hid ((show BoxW w11 G (.int .i64 o) (.slice AH k capH) from ⟨⟨d0, d1, d2⟩, d3, d4⟩).set1 (.slice A11 ((mkR u d o S k).length + 1) cap11))
                      have bw9 : BoxW w11 (w.heap.size + 1) (.int .i64 0) (.slice none 0 0) := ((hbw.out.keep (by first | exact bel_undrew hb5 | exact hb5)).keep (bel_alloc (Below.refl _ _) (.cells #[.int .i64 y0, .int .i64 y1, .int .i64 y2] 39))).keepB hb11 (by omega)
                      have bw10 := Lib.hid (bw9.grown (grown_one w11 G 1 (.slice A11 ((mkR u d o S k).length + 1) cap11)) (by omega))
                      have hI9 : Hid (TRow 39 (w11.setCell ⟨G, 1, none⟩ (.slice A11 ((mkR u d o S k).length + 1) cap11)) (G + 1) (.slice A11 ((mkR u d o S k).length + 1) cap11) (mkR u d o S (k + 1))) := Lib.hid (by rw [hR.out]; have q := TRow.setOther (p := ⟨G, 1, none⟩) hI11 (by dsimp only; omega) (.slice A11 ((mkR u d o S k).length + 1) cap11); simp only [List.length_append, List.length_singleton] at q; exact q)
                      have hX9 := Lib.hid hx9
                      clear d0 d1 d2 d3 d4 g0 g1 g2 g3 g4 g5 hI11 hb11 hg11 hb5 hw9 hx9 bw9 hH5 hI5 hc11
                      generalize w11.setCell ⟨G, 1, none⟩ (.slice A11 ((mkR u d o S k).length + 1) cap11) = w12 at *
                      go_wp2_with fail
                      exact ⟨⟨k + 1, _, by omega, by rw [HZ.out], by go_num, hI9, hH9, hX9, bw10, hbl9⟩, by simp [intOf]; omega⟩
                    exact AllReadyH.nil
                  exact AllReadyH.nil
                exact AllReadyH.nil
              refine AllReadyH.cons (o := _) rfl (fun K hK => ?_) ?_
              · (go_simp)
                refine hK.out _ _ ?_ (fun hHeld => ?_)
                · (try dsimp only); first | exact h23_start hbw.out.1 hbx.out hH0.out hbl | exact h23_keepB (by assumption) hb11 (by omega) (by omega) (by omega) (by omega) | exact h23_keepB (by assumption) hb5 (by first | omega | (simp; omega)) (by first | omega | (simp; omega)) (by first | omega | (simp; omega)) (by first | omega | (simp; omega)) | exact h23_alloc (by assumption) _ | exact h23_res1 (by assumption) (by omega) (by omega) (by omega) _ | assumption
                clear hK K
                try simp only [Act.put, List.setIfInBounds_toArray, List.set_cons_zero, List.set_cons_succ]
                refine wpAnyH_ready (rs := [1]) (by kernel_rfl) (by simp) ?_
                refine AllReadyH.cons (o := _) rfl (fun K hK => ?_) ?_
                · (go_simp)
                  refine hK.out _ _ ?_ (fun hHeld => ?_)
                  · (try dsimp only); first | exact h23_start hbw.out.1 hbx.out hH0.out hbl | exact h23_keepB (by assumption) hb11 (by omega) (by omega) (by omega) (by omega) | exact h23_keepB (by assumption) hb5 (by first | omega | (simp; omega)) (by first | omega | (simp; omega)) (by first | omega | (simp; omega)) (by first | omega | (simp; omega)) | exact h23_alloc (by assumption) _ | exact h23_res1 (by assumption) (by omega) (by omega) (by omega) _ | assumption
                  clear hK K
                  try simp only [Act.put, List.setIfInBounds_toArray, List.set_cons_zero, List.set_cons_succ]
                  refine wpAnyH_ready (rs := [6]) (by kernel_rfl) (by simp) ?_
                  refine AllReadyH.cons (o := _) rfl (fun K hK => ?_) ?_
                  · (refine step_pushR 27 39 Try.underlying27 info_clue (by rfl) (.tmp 34) (.tmp 38) (by rfl) (G + 1) (.slice AH k capH) (mkR u d o S k) (by first | exact hI5.below (bel_alloc (Below.refl _ _) _) | exact (hI5.below (bel_alloc (Below.refl _ _) _)).drew1) [(y0, y1, y2)] _ (some ⟨w5.heap.size, 0, none⟩) 1 1 (by rfl) (rdT_box3 (Box3.new w5 _ _ _ _)) (by rw [mkR_len]; simp; omega) (by have := hb5.size; simp at this ⊢; omega) (by rfl) ?_; intro v11 w11 hI11 hb11 hg11; obtain ⟨A11, cap11, rfl, hc11⟩ := hI11.formS; obtain ⟨⟨d0, d1, d2⟩, d3, d4⟩ := (hH5.keep (bel_alloc (Below.refl _ _) (.cells #[.int .i64 y0, .int .i64 y1, .int .i64 y2] 39))).keepB hb11 (by omega))
                    refine hK.out _ _ ?_ (fun hHeld => ?_)
                    · (try dsimp only); first | exact h23_start hbw.out.1 hbx.out hH0.out hbl | exact h23_keepB (by assumption) hb11 (by omega) (by omega) (by omega) (by omega) | exact h23_keepB (by assumption) hb5 (by first | omega | (simp; omega)) (by first | omega | (simp; omega)) (by first | omega | (simp; omega)) (by first | omega | (simp; omega)) | exact h23_alloc (by assumption) _ | exact h23_res1 (by assumption) (by omega) (by omega) (by omega) _ | assumption
                    clear hK K
                    try simp only [Act.put, List.setIfInBounds_toArray, List.set_cons_zero, List.set_cons_succ]
                    refine wpAnyH_take (i := 7) (oi := _) (v := ?vim_7_6) rfl (by kernel_rfl) (by kernel_rfl) (by kernel_rfl) (fun _ _ _ h => h) (Or.inl ⟨by rfl, ?yim_7_6⟩) (by assumption) ?rim_7_6
                    case yim_7_6 => (intro w hSw; (try dsimp only at hSw); go_simp; try with_reducible rfl)
                    try simp only [Act.put, List.setIfInBounds_toArray, List.set_cons_zero, List.set_cons_succ]
                    refine wpAnyH_ready (rs := [8]) (by kernel_rfl) (by simp) ?_
                    refine AllReadyH.cons (o := _) rfl (fun K hK => ?_) ?_
                    · (go_simp)
                      refine hK.out _ _ ?_ (fun hHeld => ?_)
                      · (try dsimp only); first | exact h23_start hbw.out.1 hbx.out hH0.out hbl | exact h23_keepB (by assumption) hb11 (by omega) (by omega) (by omega) (by omega) | exact h23_keepB (by assumption) hb5 (by first | omega | (simp; omega)) (by first | omega | (simp; omega)) (by first | omega | (simp; omega)) (by first | omega | (simp; omega)) | exact h23_alloc (by assumption) _ | exact h23_res1 (by assumption) (by omega) (by omega) (by omega) _ | assumption
                      clear hK K
                      try simp only [Act.put, List.setIfInBounds_toArray, List.set_cons_zero, List.set_cons_succ]
                      refine wpAnyH_done (by kernel_rfl) ?_ _
                      obtain ⟨hw9, hx9, _, hbl9⟩ := h23_to (by assumption)
                      have hH9 := Lib.hid ((show BoxW w11 G (.int .i64 o) (.slice AH k capH) from ⟨⟨d0, d1, d2⟩, d3, d4⟩).set1 (.slice A11 ((mkR u d o S k).length + 1) cap11))
                      have bw9 : BoxW w11 (w.heap.size + 1) (.int .i64 0) (.slice none 0 0) := ((hbw.out.keep (by first | exact bel_undrew hb5 | exact hb5)).keep (bel_alloc (Below.refl _ _) (.cells #[.int .i64 y0, .int .i64 y1, .int .i64 y2] 39))).keepB hb11 (by omega)
                      have bw10 := Lib.hid (bw9.grown (grown_one w11 G 1 (.slice A11 ((mkR u d o S k).length + 1) cap11)) (by omega))
                      have hI9 : Hid (TRow 39 (w11.setCell ⟨G, 1, none⟩ (.slice A11 ((mkR u d o S k).length + 1) cap11)) (G + 1) (.slice A11 ((mkR u d o S k).length + 1) cap11) (mkR u d o S (k + 1))) := Lib.hid (by rw [hR.out]; have q := TRow.setOther (p := ⟨G, 1, none⟩) hI11 (by dsimp only; omega) (.slice A11 ((mkR u d o S k).length + 1) cap11); simp only [List.length_append, List.length_singleton] at q; exact q)
                      have hX9 := Lib.hid hx9
                      clear d0 d1 d2 d3 d4 g0 g1 g2 g3 g4 g5 hI11 hb11 hg11 hb5 hw9 hx9 bw9 hH5 hI5 hc11
                      generalize w11.setCell ⟨G, 1, none⟩ (.slice A11 ((mkR u d o S k).length + 1) cap11) = w12 at *
                      go_wp2_with fail
                      exact ⟨⟨k + 1, _, by omega, by rw [HZ.out], by go_num, hI9, hH9, hX9, bw10, hbl9⟩, by simp [intOf]; omega⟩
                    exact AllReadyH.nil
                  exact AllReadyH.nil
                exact AllReadyH.nil
              exact AllReadyH.nil
            exact AllReadyH.nil
          · skip
            obtain rfl : k = N := by omega
            obtain ⟨AH, capH, rfl, hcH⟩ := hI.out.formS
            obtain ⟨⟨b0, b1, b2⟩, b3, b4⟩ := hbw.out
            obtain ⟨⟨d0, d1, d2⟩, d3, d4⟩ := hbh.out
            have hI0 := Lib.hid hI.out
            have kk1 := b2
            have HE := Lib.hid E.out
            generalize hLL : mkR u d o S k = L at *
            generalize hn : L.length = n at *
            clear hn hI hLL c0 c1 c2
            go_wp2
            refine bodyPost_ret (v := .tuple #[pz o (.slice AH n capH), .bool true]) (by simp [results, Try.results58, go_sem, b0, b1, b2]) rfl ?_
            rw [E.out.1, E.out.2.1, E.out.2.2]
            refine ⟨_, rfl, ?_, (hbl.setCell (by dsimp only; omega) _).setCell (by dsimp only; omega) _⟩
            refine (TRow.setOther ?_ (by dsimp only; omega) _).mono (b := G + 1) (by omega)
            refine TRow.setOther ?_ (by dsimp only; omega) _
            exact hI0.out
end Go.Proofs.Ytggflgmjncjmbaa
