/- Contract of StatesOfChain of the program. -/
import Derived.Test.YthnjkjdfdhdcfaaSoc2
namespace Go.Proofs.Ythnjkjdfdhdcfaa
open Go.ChangeShapes Go.WideShapes Go.ChangeAt Go.RowKit
set_option linter.unusedVariables false
set_option linter.unusedSimpArgs false

theorem rows_step0 (a b c : Int) : (rowsS a b c).take 0 ++ [[stp a b c 100 100, stp a b c 100 119]] = (rowsS a b c).take 1 := by simp [rowsS, stp, chg]
theorem rows_step1 (a b c : Int) : (rowsS a b c).take 1 ++ [[stp a b c 119 100, stp a b c 119 119]] = (rowsS a b c).take 2 := by simp [rowsS, stp, chg]

theorem ix0 (a b c : Int) : ∀ W : World, (Instr.index 109 (.agg #[.int .i64 a, .int .i64 b, .int .i64 c, .int .u8 100, .int .i64 a, .int .i64 b, .int .i64 c, .int .u8 119]) (.int .i64 0)).run Try.prog W = .ok (wth a b c 100) W := fun W => by kernel_rfl
theorem ix1 (a b c : Int) : ∀ W : World, (Instr.index 109 (.agg #[.int .i64 a, .int .i64 b, .int .i64 c, .int .u8 100, .int .i64 a, .int .i64 b, .int .i64 c, .int .u8 119]) (.int .i64 1)).run Try.prog W = .ok (wth a b c 119) W := fun W => by kernel_rfl
theorem form0 {a b c : Int} {w : World} {lo hi : Nat} {v : Value} (h : OwnM w lo hi v ((rowsS a b c).take 1)) : ∃ A cap, v = .slice A 1 cap := by
  obtain ⟨A, cap, e, _⟩ := h.formS
  exact ⟨A, cap, e⟩
theorem form1 {a b c : Int} {w : World} {lo hi : Nat} {v : Value} (h : OwnM w lo hi v ((rowsS a b c).take 2)) : ∃ A cap, v = .slice A 2 cap := by
  obtain ⟨A, cap, e, _⟩ := h.formS
  exact ⟨A, cap, e⟩
def SocF (w1 wr : World) (a b c : Int) (j : Nat) : Prop := ∃ A cap, wr.cell? ⟨w1.heap.size + 1, 0, none⟩ = some (.int .i64 c) ∧ wr.cell? ⟨w1.heap.size + 1, 1, none⟩ = some (.slice A j cap) ∧ wr.frozen? ⟨w1.heap.size + 1, 1, none⟩ = false ∧
  OwnM wr (w1.heap.size + 2) wr.heap.size (.slice A j cap) ((rowsS a b c).take j) ∧ Box8 wr w1.heap.size a b c ∧ Below w1.heap.size w1 wr ∧ w1.heap.size + 1 < wr.heap.size

set_option maxRecDepth 100000 in
set_option maxHeartbeats 6400000 in
theorem implSoc_yes (a b c : Int) (w : World) (hg : good a b c = true) :
    Calls Try.prog 66 #[chn a b c] w fun e w' => ∃ v, e = .returned (.tuple #[sts c v, .bool true]) ∧ OwnM w' w.heap.size w'.heap.size v (rowsS a b c) ∧ Below w.heap.size w w' := by
  have HR := Lib.hid (inR_of hg)
  have bx := Lib.hid (Box3.new w (.int .i64 a) (.int .i64 b) (.int .i64 c) 63)
  go_enter Try.func66, Try.ntmps66
  go_wp2_with fail
  refine (implIsChain_any a b c _).mono ?_
  rw [hg]
  rintro e w1 ⟨rfl, hb1⟩
  have hs1 := hb1.size
  obtain ⟨hc, hf⟩ := bcell hb1
  have hbl := Lib.hid (bel_trans (bel_alloc (bel_alloc (Below.refl _ w) _) _) hb1)
  have bx1 := (bx.out.keep (bel_alloc (Below.refl _ _) (.cells #[.int .i64 0, nilS] 27))).keep hb1
  have r0 := Lib.hid (show w1.cell? ⟨w.heap.size + 1, 0, none⟩ = some (.int .i64 0) by rw [hc _ _ (by simp)]; simp [go_sem])
  have r1 := Lib.hid (show w1.cell? ⟨w.heap.size + 1, 1, none⟩ = some nilS by rw [hc _ _ (by simp)]; simp [go_sem])
  have f0 := Lib.hid (show w1.frozen? ⟨w.heap.size + 1, 0, none⟩ = false by rw [hf _ _ (by simp)]; simp [go_sem])
  have f1 := Lib.hid (show w1.frozen? ⟨w.heap.size + 1, 1, none⟩ = false by rw [hf _ _ (by simp)]; simp [go_sem])
  simp at hs1
  obtain ⟨b0, b1, b2, b3⟩ := bx1
  have n5 : w.heap.size + 1 < w1.heap.size := by omega
  clear hc hf hb1 bx
  go_wp2
  clear b0 b1 b2
  go_loopw [21] (fun i wr => (i = .int .i64 0 ∧ SocF w1 wr a b c 0) ∨ (i = .int .i64 1 ∧ SocF w1 wr a b c 1) ∨ (i = .int .i64 2 ∧ SocF w1 wr a b c 2)) (fun i _ => 2 - (intOf i).toNat)
  case atStart =>
    refine .inl ⟨rfl, none, 0, ?_, ?_, ?_, OwnM.empty _ (Nat.le_refl _), ?_, bel_alloc (bel_alloc (Below.refl _ w1) _) _, by simp⟩
    · simp [go_sem]
    · simp [go_sem]
    · simp [go_sem]
    · unfold Box8
      simp [go_sem]
  case round =>
    rcases hrel with ⟨rfl, hF⟩ | ⟨rfl, hF⟩ | ⟨rfl, hF⟩
    · obtain ⟨A, cap, k0, k1, kf, ho, hbox, hb, hlt⟩ := hF
      have k4 : w1.heap.size < wr.heap.size := by omega
      have HO := Lib.hid ho
      have HX := Lib.hid hbox
      have HB := Lib.hid hb
      clear ho hbox hb
      have hix := ix0 a b c
      go_wp2_with fail
      refine wp_region_held_drew (S := fun w' => w'.cell? ⟨w1.heap.size, 0, none⟩ = some (.int .i64 a) ∧ w'.cell? ⟨w1.heap.size, 1, none⟩ = some (.int .i64 b) ∧ w'.cell? ⟨w1.heap.size, 2, none⟩ = some (.int .i64 c) ∧ w'.cell? ⟨w1.heap.size, 3, none⟩ = some (.int .u8 100) ∧ w'.cell? ⟨w1.heap.size, 4, none⟩ = some (.int .i64 a) ∧ w'.cell? ⟨w1.heap.size, 5, none⟩ = some (.int .i64 b) ∧ w'.cell? ⟨w1.heap.size, 6, none⟩ = some (.int .i64 c) ∧ w'.cell? ⟨w1.heap.size, 7, none⟩ = some (.int .u8 119) ∧ w'.cell? ⟨wr.heap.size, 0, none⟩ = some (.int .i64 a) ∧ w'.cell? ⟨wr.heap.size, 1, none⟩ = some (.int .i64 b) ∧ w'.cell? ⟨wr.heap.size, 2, none⟩ = some (.int .i64 c) ∧ w'.cell? ⟨wr.heap.size, 3, none⟩ = some (.int .u8 100)) (by kernel_rfl) (by first | assumption | exact soc_start HX.out k4 | exact soc_below (by assumption) hq (by simp; omega) (by simp) | exact soc_below (by assumption) hr (by omega) m2 | exact soc_below (by assumption) (bel_alloc (Below.refl _ _) _) (by first | omega | (simp; omega)) (by first | omega | (simp; omega)) | exact soc_blk (by assumption) (hk2 _ (by omega) (.inl (by omega))) (hk2 _ (by omega) (.inr (by omega))) | exact soc_set (by assumption) _ _ _ (by omega) (by omega)) (fun hHeld => ?_)
      refine wpAnyH_take (i := 0) (oi := _) (v := ?v0_0_1) rfl (by kernel_rfl) (by kernel_rfl) (by kernel_rfl) (fun _ _ _ h => h) (Or.inl ⟨by rfl, ?y0_0_1⟩) (by assumption) ?r0_0_1
      case y0_0_1 => (intro w hSw; (try dsimp only at hSw); go_simp; try with_reducible rfl)
      try simp only [Act.put, List.setIfInBounds_toArray, List.set_cons_zero, List.set_cons_succ]
      refine wpAnyH_take (i := 2) (oi := _) (v := ?v0_2_2) rfl (by kernel_rfl) (by kernel_rfl) (by kernel_rfl) (fun _ _ _ h => h) (Or.inl ⟨by rfl, ?y0_2_2⟩) (by assumption) ?r0_2_2
      case y0_2_2 => (intro w hSw; (try dsimp only at hSw); go_simp; try with_reducible rfl)
      try simp only [Act.put, List.setIfInBounds_toArray, List.set_cons_zero, List.set_cons_succ]
      refine wpAnyH_take (i := 3) (oi := _) (v := ?v0_3_3) rfl (by kernel_rfl) (by kernel_rfl) (by kernel_rfl) (fun _ _ _ h => h) (Or.inl ⟨by rfl, ?y0_3_3⟩) (by assumption) ?r0_3_3
      case y0_3_3 => (intro w hSw; (try dsimp only at hSw); go_simp; try with_reducible rfl)
      try simp only [Act.put, List.setIfInBounds_toArray, List.set_cons_zero, List.set_cons_succ]
      refine wpAnyH_take (i := 4) (oi := _) (v := ?v0_4_4) rfl (by kernel_rfl) (by kernel_rfl) (by kernel_rfl) (fun _ _ _ h => h) (Or.inl ⟨by rfl, ?y0_4_4⟩) (by assumption) ?r0_4_4
      case y0_4_4 => (intro w hSw; (try dsimp only at hSw); go_simp; try with_reducible rfl)
      try simp only [Act.put, List.setIfInBounds_toArray, List.set_cons_zero, List.set_cons_succ]
      refine wpAnyH_take (i := 6) (oi := _) (v := ?v0_6_5) rfl (by kernel_rfl) (by kernel_rfl) (by kernel_rfl) (fun _ _ _ h => h) (Or.inl ⟨by rfl, ?y0_6_5⟩) (by assumption) ?r0_6_5
      case y0_6_5 => (intro w hSw; (try dsimp only at hSw); go_simp; try with_reducible rfl)
      try simp only [Act.put, List.setIfInBounds_toArray, List.set_cons_zero, List.set_cons_succ]
      refine wpAnyH_take (i := 7) (oi := _) (v := ?v0_7_6) rfl (by kernel_rfl) (by kernel_rfl) (by kernel_rfl) (fun _ _ _ h => h) (Or.inl ⟨by rfl, ?y0_7_6⟩) (by assumption) ?r0_7_6
      case y0_7_6 => (intro w hSw; (try dsimp only at hSw); go_simp; try with_reducible rfl)
      try simp only [Act.put, List.setIfInBounds_toArray, List.set_cons_zero, List.set_cons_succ]
      refine wpAnyH_take (i := 8) (oi := _) (v := ?v0_8_7) rfl (by kernel_rfl) (by kernel_rfl) (by kernel_rfl) (fun _ _ _ h => h) (Or.inl ⟨by rfl, ?y0_8_7⟩) (by assumption) ?r0_8_7
      case y0_8_7 => (intro w hSw; (try dsimp only at hSw); go_simp; try with_reducible rfl)
      try simp only [Act.put, List.setIfInBounds_toArray, List.set_cons_zero, List.set_cons_succ]
      refine wpAnyH_ready (rs := [1, 5]) (by kernel_rfl) (by simp) ?_
      refine AllReadyH.cons (o := _) rfl (fun K hK => ?_) ?_
      · (go_simp)
        refine hK.out _ _ ?_ (fun hHeld => ?_)
        · (try dsimp only); first | assumption | exact soc_start HX.out k4 | exact soc_below (by assumption) hq (by simp; omega) (by simp) | exact soc_below (by assumption) hr (by omega) m2 | exact soc_below (by assumption) (bel_alloc (Below.refl _ _) _) (by first | omega | (simp; omega)) (by first | omega | (simp; omega)) | exact soc_blk (by assumption) (hk2 _ (by omega) (.inl (by omega))) (hk2 _ (by omega) (.inr (by omega))) | exact soc_set (by assumption) _ _ _ (by omega) (by omega)
        clear hK K
        try simp only [Act.put, List.setIfInBounds_toArray, List.set_cons_zero, List.set_cons_succ]
        refine wpAnyH_ready (rs := [5]) (by kernel_rfl) (by simp) ?_
        refine AllReadyH.cons (o := _) rfl (fun K hK => ?_) ?_
        · (go_simp; go_at_call 106; refine (stepTo_any a b c 100 100 _ (.inl rfl) (.inl rfl) HR.out).mono ?_; rintro e w2 ⟨rfl, hq⟩; have G2 := Lib.hid (bel_trans ((bel_alloc (Below.refl _ wr) _).drew) hq); have m2 : wr.heap.size < w2.heap.size := (Nat.lt_of_lt_of_le (by simp) hq.size); have n2 : w1.heap.size + 1 < w2.heap.size := (by omega); have c2 := (G2.out.cell (p := ⟨w1.heap.size + 1, 1, none⟩) hlt).trans k1)
          refine hK.out _ _ ?_ (fun hHeld => ?_)
          · (try dsimp only); first | assumption | exact soc_start HX.out k4 | exact soc_below (by assumption) hq (by simp; omega) (by simp) | exact soc_below (by assumption) hr (by omega) m2 | exact soc_below (by assumption) (bel_alloc (Below.refl _ _) _) (by first | omega | (simp; omega)) (by first | omega | (simp; omega)) | exact soc_blk (by assumption) (hk2 _ (by omega) (.inl (by omega))) (hk2 _ (by omega) (.inr (by omega))) | exact soc_set (by assumption) _ _ _ (by omega) (by omega)
          clear hK K
          try simp only [Act.put, List.setIfInBounds_toArray, List.set_cons_zero, List.set_cons_succ]
          refine wpAnyH_ready (rs := [9]) (by kernel_rfl) (by simp) ?_
          refine AllReadyH.cons (o := _) rfl (fun K hK => ?_) ?_
          · (go_simp; go_at_call 106; refine (stepTo_any a b c 100 119 _ (.inl rfl) (.inr rfl) HR.out).mono ?_; rintro e w3 ⟨rfl, hr⟩; have G3 := Lib.hid (bel_trans G2.out hr); have m3 : wr.heap.size < w3.heap.size := (Nat.lt_of_lt_of_le m2 hr.size); have n3 : w1.heap.size + 1 < w3.heap.size := (by omega); have c3 := (G3.out.cell (p := ⟨w1.heap.size + 1, 1, none⟩) hlt).trans k1; have c3a : ∀ o, (w3.alloc o).cell? ⟨w1.heap.size + 1, 1, none⟩ = some (.slice A 0 cap) := (fun o => ((bel_alloc (Below.refl _ w3) o).cell (p := ⟨w1.heap.size + 1, 1, none⟩) n3).trans c3); have c3b : ∀ o o', ((w3.alloc o).alloc o').cell? ⟨w1.heap.size + 1, 1, none⟩ = some (.slice A 0 cap) := (fun o o' => ((bel_alloc (bel_alloc (Below.refl _ w3) o) o').cell (p := ⟨w1.heap.size + 1, 1, none⟩) n3).trans c3); have f3 := ((bcell G3.out).2 (w1.heap.size + 1) 1 hlt).trans kf)
            refine hK.out _ _ ?_ (fun hHeld => ?_)
            · (try dsimp only); first | assumption | exact soc_start HX.out k4 | exact soc_below (by assumption) hq (by simp; omega) (by simp) | exact soc_below (by assumption) hr (by omega) m2 | exact soc_below (by assumption) (bel_alloc (Below.refl _ _) _) (by first | omega | (simp; omega)) (by first | omega | (simp; omega)) | exact soc_blk (by assumption) (hk2 _ (by omega) (.inl (by omega))) (hk2 _ (by omega) (.inr (by omega))) | exact soc_set (by assumption) _ _ _ (by omega) (by omega)
            clear hK K
            try simp only [Act.put, List.setIfInBounds_toArray, List.set_cons_zero, List.set_cons_succ]
            refine wpAnyH_ready (rs := [10]) (by kernel_rfl) (by simp) ?_
            refine AllReadyH.cons (o := _) rfl (fun K hK => ?_) ?_
            · (go_simp)
              refine hK.out _ _ ?_ (fun hHeld => ?_)
              · (try dsimp only); first | assumption | exact soc_start HX.out k4 | exact soc_below (by assumption) hq (by simp; omega) (by simp) | exact soc_below (by assumption) hr (by omega) m2 | exact soc_below (by assumption) (bel_alloc (Below.refl _ _) _) (by first | omega | (simp; omega)) (by first | omega | (simp; omega)) | exact soc_blk (by assumption) (hk2 _ (by omega) (.inl (by omega))) (hk2 _ (by omega) (.inr (by omega))) | exact soc_set (by assumption) _ _ _ (by omega) (by omega)
              clear hK K
              try simp only [Act.put, List.setIfInBounds_toArray, List.set_cons_zero, List.set_cons_succ]
              refine wpAnyH_ready (rs := [11]) (by kernel_rfl) (by simp) ?_
              refine AllReadyH.cons (o := _) rfl (fun K hK => ?_) ?_
              · (go_simp)
                refine hK.out _ _ ?_ (fun hHeld => ?_)
                · (try dsimp only); first | assumption | exact soc_start HX.out k4 | exact soc_below (by assumption) hq (by simp; omega) (by simp) | exact soc_below (by assumption) hr (by omega) m2 | exact soc_below (by assumption) (bel_alloc (Below.refl _ _) _) (by first | omega | (simp; omega)) (by first | omega | (simp; omega)) | exact soc_blk (by assumption) (hk2 _ (by omega) (.inl (by omega))) (hk2 _ (by omega) (.inr (by omega))) | exact soc_set (by assumption) _ _ _ (by omega) (by omega)
                clear hK K
                try simp only [Act.put, List.setIfInBounds_toArray, List.set_cons_zero, List.set_cons_succ]
                refine wpAnyH_ready (rs := [12]) (by kernel_rfl) (by simp) ?_
                refine AllReadyH.cons (o := _) rfl (fun K hK => ?_) ?_
                · (refine step_pushRow rfl (.tmp 25) (.tmp 35) rfl (w1.heap.size + 2) wr.heap.size (.slice A 0 cap) ((rowsS a b c).take 0) (HO.out.below G3.out (Nat.le_refl _)) (by omega) (by simp [rowsS]) (stp a b c 100 100) (stp a b c 100 119) w3.heap.size (w3.heap.size + 1) rfl rfl (by simp [Act.eval, Act.put]) (by simp [Act.eval, Act.put]) ?_; intro v4 w4 ho4 hb4 hk4 hk2; rw [rows_step0] at ho4; obtain ⟨A4, cap4, hv4⟩ := form0 ho4; subst hv4; have c4 := ((blk (hk4 (w1.heap.size + 1) (by omega) (.inl (by omega)))).1 1).trans c3; have c40 := ((blk (hk4 (w1.heap.size + 1) (by omega) (.inl (by omega)))).1 0).trans ((G3.out.cell (p := ⟨w1.heap.size + 1, 0, none⟩) hlt).trans k0); have f4 := ((blk (hk4 (w1.heap.size + 1) (by omega) (.inl (by omega)))).2 1).trans f3)
                  refine hK.out _ _ ?_ (fun hHeld => ?_)
                  · (try dsimp only); first | assumption | exact soc_start HX.out k4 | exact soc_below (by assumption) hq (by simp; omega) (by simp) | exact soc_below (by assumption) hr (by omega) m2 | exact soc_below (by assumption) (bel_alloc (Below.refl _ _) _) (by first | omega | (simp; omega)) (by first | omega | (simp; omega)) | exact soc_blk (by assumption) (hk2 _ (by omega) (.inl (by omega))) (hk2 _ (by omega) (.inr (by omega))) | exact soc_set (by assumption) _ _ _ (by omega) (by omega)
                  clear hK K
                  try simp only [Act.put, List.setIfInBounds_toArray, List.set_cons_zero, List.set_cons_succ]
                  refine wpAnyH_take (i := 13) (oi := _) (v := ?v0_13_8) rfl (by kernel_rfl) (by kernel_rfl) (by kernel_rfl) (fun _ _ _ h => h) (Or.inl ⟨by rfl, ?y0_13_8⟩) (by assumption) ?r0_13_8
                  case y0_13_8 => (intro w hSw; (try dsimp only at hSw); go_simp; try with_reducible rfl)
                  try simp only [Act.put, List.setIfInBounds_toArray, List.set_cons_zero, List.set_cons_succ]
                  refine wpAnyH_ready (rs := [14]) (by kernel_rfl) (by simp) ?_
                  refine AllReadyH.cons (o := _) rfl (fun K hK => ?_) ?_
                  · (go_simp)
                    refine hK.out _ _ ?_ (fun hHeld => ?_)
                    · (try dsimp only); first | assumption | exact soc_start HX.out k4 | exact soc_below (by assumption) hq (by simp; omega) (by simp) | exact soc_below (by assumption) hr (by omega) m2 | exact soc_below (by assumption) (bel_alloc (Below.refl _ _) _) (by first | omega | (simp; omega)) (by first | omega | (simp; omega)) | exact soc_blk (by assumption) (hk2 _ (by omega) (.inl (by omega))) (hk2 _ (by omega) (.inr (by omega))) | exact soc_set (by assumption) _ _ _ (by omega) (by omega)
                    clear hK K
                    try simp only [Act.put, List.setIfInBounds_toArray, List.set_cons_zero, List.set_cons_succ]
                    refine wpAnyH_done (by kernel_rfl) ?_ _
                    have hS := (by assumption : (w4.setCell ⟨w1.heap.size + 1, 1, none⟩ (.slice A4 1 cap4)).cell? ⟨w1.heap.size, 0, none⟩ = some (.int .i64 a) ∧ (w4.setCell ⟨w1.heap.size + 1, 1, none⟩ (.slice A4 1 cap4)).cell? ⟨w1.heap.size, 1, none⟩ = some (.int .i64 b) ∧ (w4.setCell ⟨w1.heap.size + 1, 1, none⟩ (.slice A4 1 cap4)).cell? ⟨w1.heap.size, 2, none⟩ = some (.int .i64 c) ∧ (w4.setCell ⟨w1.heap.size + 1, 1, none⟩ (.slice A4 1 cap4)).cell? ⟨w1.heap.size, 3, none⟩ = some (.int .u8 100) ∧ (w4.setCell ⟨w1.heap.size + 1, 1, none⟩ (.slice A4 1 cap4)).cell? ⟨w1.heap.size, 4, none⟩ = some (.int .i64 a) ∧ (w4.setCell ⟨w1.heap.size + 1, 1, none⟩ (.slice A4 1 cap4)).cell? ⟨w1.heap.size, 5, none⟩ = some (.int .i64 b) ∧ (w4.setCell ⟨w1.heap.size + 1, 1, none⟩ (.slice A4 1 cap4)).cell? ⟨w1.heap.size, 6, none⟩ = some (.int .i64 c) ∧ (w4.setCell ⟨w1.heap.size + 1, 1, none⟩ (.slice A4 1 cap4)).cell? ⟨w1.heap.size, 7, none⟩ = some (.int .u8 119) ∧ (w4.setCell ⟨w1.heap.size + 1, 1, none⟩ (.slice A4 1 cap4)).cell? ⟨wr.heap.size, 0, none⟩ = some (.int .i64 a) ∧ (w4.setCell ⟨w1.heap.size + 1, 1, none⟩ (.slice A4 1 cap4)).cell? ⟨wr.heap.size, 1, none⟩ = some (.int .i64 b) ∧ (w4.setCell ⟨w1.heap.size + 1, 1, none⟩ (.slice A4 1 cap4)).cell? ⟨wr.heap.size, 2, none⟩ = some (.int .i64 c) ∧ (w4.setCell ⟨w1.heap.size + 1, 1, none⟩ (.slice A4 1 cap4)).cell? ⟨wr.heap.size, 3, none⟩ = some (.int .u8 100))
                    have hbx := Lib.hid (soc_box hS)
                    have HO4 := Lib.hid ho4
                    have HB4 := Lib.hid (HB.out.trans ((G3.out.mono (show w1.heap.size ≤ wr.heap.size by omega)).trans (hb4.mono (show w1.heap.size ≤ w1.heap.size + 2 by omega))))
                    have m4 : w1.heap.size + 1 < w4.heap.size := Nat.lt_of_lt_of_le n3 hb4.size
                    clear hS ho4 hb4
                    go_wp2
                    refine ⟨.inr (.inl ⟨rfl, A4, cap4, ?_, ?_, ?_, ?_, hbx.out, ?_, ?_⟩), by simp [intOf]⟩
                    · simp [go_sem, c40, c4, f4]
                    · simp [go_sem, c40, c4, f4]
                    · simp [go_sem, c40, c4, f4]
                    · exact OwnM.more (OwnM.set_ HO4.out (by simp) _) (by simp [World.setCell]) (Nat.le_refl _)
                    · exact Below.setCell HB4.out (by simp) _
                    · simp [World.setCell]; exact m4
                  exact AllReadyH.nil
                exact AllReadyH.nil
              exact AllReadyH.nil
            exact AllReadyH.nil
          exact AllReadyH.nil
        exact AllReadyH.nil
      refine AllReadyH.cons (o := _) rfl (fun K hK => ?_) ?_
      · (go_simp; go_at_call 106; refine (stepTo_any a b c 100 100 _ (.inl rfl) (.inl rfl) HR.out).mono ?_; rintro e w2 ⟨rfl, hq⟩; have G2 := Lib.hid (bel_trans ((bel_alloc (Below.refl _ wr) _).drew) hq); have m2 : wr.heap.size < w2.heap.size := (Nat.lt_of_lt_of_le (by simp) hq.size); have n2 : w1.heap.size + 1 < w2.heap.size := (by omega); have c2 := (G2.out.cell (p := ⟨w1.heap.size + 1, 1, none⟩) hlt).trans k1)
        refine hK.out _ _ ?_ (fun hHeld => ?_)
        · (try dsimp only); first | assumption | exact soc_start HX.out k4 | exact soc_below (by assumption) hq (by simp; omega) (by simp) | exact soc_below (by assumption) hr (by omega) m2 | exact soc_below (by assumption) (bel_alloc (Below.refl _ _) _) (by first | omega | (simp; omega)) (by first | omega | (simp; omega)) | exact soc_blk (by assumption) (hk2 _ (by omega) (.inl (by omega))) (hk2 _ (by omega) (.inr (by omega))) | exact soc_set (by assumption) _ _ _ (by omega) (by omega)
        clear hK K
        try simp only [Act.put, List.setIfInBounds_toArray, List.set_cons_zero, List.set_cons_succ]
        refine wpAnyH_ready (rs := [1, 9]) (by kernel_rfl) (by simp) ?_
        refine AllReadyH.cons (o := _) rfl (fun K hK => ?_) ?_
        · (go_simp)
          refine hK.out _ _ ?_ (fun hHeld => ?_)
          · (try dsimp only); first | assumption | exact soc_start HX.out k4 | exact soc_below (by assumption) hq (by simp; omega) (by simp) | exact soc_below (by assumption) hr (by omega) m2 | exact soc_below (by assumption) (bel_alloc (Below.refl _ _) _) (by first | omega | (simp; omega)) (by first | omega | (simp; omega)) | exact soc_blk (by assumption) (hk2 _ (by omega) (.inl (by omega))) (hk2 _ (by omega) (.inr (by omega))) | exact soc_set (by assumption) _ _ _ (by omega) (by omega)
          clear hK K
          try simp only [Act.put, List.setIfInBounds_toArray, List.set_cons_zero, List.set_cons_succ]
          refine wpAnyH_ready (rs := [9]) (by kernel_rfl) (by simp) ?_
          refine AllReadyH.cons (o := _) rfl (fun K hK => ?_) ?_
          · (go_simp; go_at_call 106; refine (stepTo_any a b c 100 119 _ (.inl rfl) (.inr rfl) HR.out).mono ?_; rintro e w3 ⟨rfl, hr⟩; have G3 := Lib.hid (bel_trans G2.out hr); have m3 : wr.heap.size < w3.heap.size := (Nat.lt_of_lt_of_le m2 hr.size); have n3 : w1.heap.size + 1 < w3.heap.size := (by omega); have c3 := (G3.out.cell (p := ⟨w1.heap.size + 1, 1, none⟩) hlt).trans k1; have c3a : ∀ o, (w3.alloc o).cell? ⟨w1.heap.size + 1, 1, none⟩ = some (.slice A 0 cap) := (fun o => ((bel_alloc (Below.refl _ w3) o).cell (p := ⟨w1.heap.size + 1, 1, none⟩) n3).trans c3); have c3b : ∀ o o', ((w3.alloc o).alloc o').cell? ⟨w1.heap.size + 1, 1, none⟩ = some (.slice A 0 cap) := (fun o o' => ((bel_alloc (bel_alloc (Below.refl _ w3) o) o').cell (p := ⟨w1.heap.size + 1, 1, none⟩) n3).trans c3); have f3 := ((bcell G3.out).2 (w1.heap.size + 1) 1 hlt).trans kf)
            refine hK.out _ _ ?_ (fun hHeld => ?_)
            · (try dsimp only); first | assumption | exact soc_start HX.out k4 | exact soc_below (by assumption) hq (by simp; omega) (by simp) | exact soc_below (by assumption) hr (by omega) m2 | exact soc_below (by assumption) (bel_alloc (Below.refl _ _) _) (by first | omega | (simp; omega)) (by first | omega | (simp; omega)) | exact soc_blk (by assumption) (hk2 _ (by omega) (.inl (by omega))) (hk2 _ (by omega) (.inr (by omega))) | exact soc_set (by assumption) _ _ _ (by omega) (by omega)
            clear hK K
            try simp only [Act.put, List.setIfInBounds_toArray, List.set_cons_zero, List.set_cons_succ]
            refine wpAnyH_ready (rs := [10]) (by kernel_rfl) (by simp) ?_
            refine AllReadyH.cons (o := _) rfl (fun K hK => ?_) ?_
            · (go_simp)
              refine hK.out _ _ ?_ (fun hHeld => ?_)
              · (try dsimp only); first | assumption | exact soc_start HX.out k4 | exact soc_below (by assumption) hq (by simp; omega) (by simp) | exact soc_below (by assumption) hr (by omega) m2 | exact soc_below (by assumption) (bel_alloc (Below.refl _ _) _) (by first | omega | (simp; omega)) (by first | omega | (simp; omega)) | exact soc_blk (by assumption) (hk2 _ (by omega) (.inl (by omega))) (hk2 _ (by omega) (.inr (by omega))) | exact soc_set (by assumption) _ _ _ (by omega) (by omega)
              clear hK K
              try simp only [Act.put, List.setIfInBounds_toArray, List.set_cons_zero, List.set_cons_succ]
              refine wpAnyH_ready (rs := [11]) (by kernel_rfl) (by simp) ?_
              refine AllReadyH.cons (o := _) rfl (fun K hK => ?_) ?_
              · (go_simp)
                refine hK.out _ _ ?_ (fun hHeld => ?_)
                · (try dsimp only); first | assumption | exact soc_start HX.out k4 | exact soc_below (by assumption) hq (by simp; omega) (by simp) | exact soc_below (by assumption) hr (by omega) m2 | exact soc_below (by assumption) (bel_alloc (Below.refl _ _) _) (by first | omega | (simp; omega)) (by first | omega | (simp; omega)) | exact soc_blk (by assumption) (hk2 _ (by omega) (.inl (by omega))) (hk2 _ (by omega) (.inr (by omega))) | exact soc_set (by assumption) _ _ _ (by omega) (by omega)
                clear hK K
                try simp only [Act.put, List.setIfInBounds_toArray, List.set_cons_zero, List.set_cons_succ]
                refine wpAnyH_ready (rs := [12]) (by kernel_rfl) (by simp) ?_
                refine AllReadyH.cons (o := _) rfl (fun K hK => ?_) ?_
                · (refine step_pushRow rfl (.tmp 25) (.tmp 35) rfl (w1.heap.size + 2) wr.heap.size (.slice A 0 cap) ((rowsS a b c).take 0) (HO.out.below G3.out (Nat.le_refl _)) (by omega) (by simp [rowsS]) (stp a b c 100 100) (stp a b c 100 119) w3.heap.size (w3.heap.size + 1) rfl rfl (by simp [Act.eval, Act.put]) (by simp [Act.eval, Act.put]) ?_; intro v4 w4 ho4 hb4 hk4 hk2; rw [rows_step0] at ho4; obtain ⟨A4, cap4, hv4⟩ := form0 ho4; subst hv4; have c4 := ((blk (hk4 (w1.heap.size + 1) (by omega) (.inl (by omega)))).1 1).trans c3; have c40 := ((blk (hk4 (w1.heap.size + 1) (by omega) (.inl (by omega)))).1 0).trans ((G3.out.cell (p := ⟨w1.heap.size + 1, 0, none⟩) hlt).trans k0); have f4 := ((blk (hk4 (w1.heap.size + 1) (by omega) (.inl (by omega)))).2 1).trans f3)
                  refine hK.out _ _ ?_ (fun hHeld => ?_)
                  · (try dsimp only); first | assumption | exact soc_start HX.out k4 | exact soc_below (by assumption) hq (by simp; omega) (by simp) | exact soc_below (by assumption) hr (by omega) m2 | exact soc_below (by assumption) (bel_alloc (Below.refl _ _) _) (by first | omega | (simp; omega)) (by first | omega | (simp; omega)) | exact soc_blk (by assumption) (hk2 _ (by omega) (.inl (by omega))) (hk2 _ (by omega) (.inr (by omega))) | exact soc_set (by assumption) _ _ _ (by omega) (by omega)
                  clear hK K
                  try simp only [Act.put, List.setIfInBounds_toArray, List.set_cons_zero, List.set_cons_succ]
                  refine wpAnyH_take (i := 13) (oi := _) (v := ?v0_13_9) rfl (by kernel_rfl) (by kernel_rfl) (by kernel_rfl) (fun _ _ _ h => h) (Or.inl ⟨by rfl, ?y0_13_9⟩) (by assumption) ?r0_13_9
                  case y0_13_9 => (intro w hSw; (try dsimp only at hSw); go_simp; try with_reducible rfl)
                  try simp only [Act.put, List.setIfInBounds_toArray, List.set_cons_zero, List.set_cons_succ]
                  refine wpAnyH_ready (rs := [14]) (by kernel_rfl) (by simp) ?_
                  refine AllReadyH.cons (o := _) rfl (fun K hK => ?_) ?_
                  · (go_simp)
                    refine hK.out _ _ ?_ (fun hHeld => ?_)
                    · (try dsimp only); first | assumption | exact soc_start HX.out k4 | exact soc_below (by assumption) hq (by simp; omega) (by simp) | exact soc_below (by assumption) hr (by omega) m2 | exact soc_below (by assumption) (bel_alloc (Below.refl _ _) _) (by first | omega | (simp; omega)) (by first | omega | (simp; omega)) | exact soc_blk (by assumption) (hk2 _ (by omega) (.inl (by omega))) (hk2 _ (by omega) (.inr (by omega))) | exact soc_set (by assumption) _ _ _ (by omega) (by omega)
                    clear hK K
                    try simp only [Act.put, List.setIfInBounds_toArray, List.set_cons_zero, List.set_cons_succ]
                    refine wpAnyH_done (by kernel_rfl) ?_ _
                    have hS := (by assumption : (w4.setCell ⟨w1.heap.size + 1, 1, none⟩ (.slice A4 1 cap4)).cell? ⟨w1.heap.size, 0, none⟩ = some (.int .i64 a) ∧ (w4.setCell ⟨w1.heap.size + 1, 1, none⟩ (.slice A4 1 cap4)).cell? ⟨w1.heap.size, 1, none⟩ = some (.int .i64 b) ∧ (w4.setCell ⟨w1.heap.size + 1, 1, none⟩ (.slice A4 1 cap4)).cell? ⟨w1.heap.size, 2, none⟩ = some (.int .i64 c) ∧ (w4.setCell ⟨w1.heap.size + 1, 1, none⟩ (.slice A4 1 cap4)).cell? ⟨w1.heap.size, 3, none⟩ = some (.int .u8 100) ∧ (w4.setCell ⟨w1.heap.size + 1, 1, none⟩ (.slice A4 1 cap4)).cell? ⟨w1.heap.size, 4, none⟩ = some (.int .i64 a) ∧ (w4.setCell ⟨w1.heap.size + 1, 1, none⟩ (.slice A4 1 cap4)).cell? ⟨w1.heap.size, 5, none⟩ = some (.int .i64 b) ∧ (w4.setCell ⟨w1.heap.size + 1, 1, none⟩ (.slice A4 1 cap4)).cell? ⟨w1.heap.size, 6, none⟩ = some (.int .i64 c) ∧ (w4.setCell ⟨w1.heap.size + 1, 1, none⟩ (.slice A4 1 cap4)).cell? ⟨w1.heap.size, 7, none⟩ = some (.int .u8 119) ∧ (w4.setCell ⟨w1.heap.size + 1, 1, none⟩ (.slice A4 1 cap4)).cell? ⟨wr.heap.size, 0, none⟩ = some (.int .i64 a) ∧ (w4.setCell ⟨w1.heap.size + 1, 1, none⟩ (.slice A4 1 cap4)).cell? ⟨wr.heap.size, 1, none⟩ = some (.int .i64 b) ∧ (w4.setCell ⟨w1.heap.size + 1, 1, none⟩ (.slice A4 1 cap4)).cell? ⟨wr.heap.size, 2, none⟩ = some (.int .i64 c) ∧ (w4.setCell ⟨w1.heap.size + 1, 1, none⟩ (.slice A4 1 cap4)).cell? ⟨wr.heap.size, 3, none⟩ = some (.int .u8 100))
                    have hbx := Lib.hid (soc_box hS)
                    have HO4 := Lib.hid ho4
                    have HB4 := Lib.hid (HB.out.trans ((G3.out.mono (show w1.heap.size ≤ wr.heap.size by omega)).trans (hb4.mono (show w1.heap.size ≤ w1.heap.size + 2 by omega))))
                    have m4 : w1.heap.size + 1 < w4.heap.size := Nat.lt_of_lt_of_le n3 hb4.size
                    clear hS ho4 hb4
                    go_wp2
                    refine ⟨.inr (.inl ⟨rfl, A4, cap4, ?_, ?_, ?_, ?_, hbx.out, ?_, ?_⟩), by simp [intOf]⟩
                    · simp [go_sem, c40, c4, f4]
                    · simp [go_sem, c40, c4, f4]
                    · simp [go_sem, c40, c4, f4]
                    · exact OwnM.more (OwnM.set_ HO4.out (by simp) _) (by simp [World.setCell]) (Nat.le_refl _)
                    · exact Below.setCell HB4.out (by simp) _
                    · simp [World.setCell]; exact m4
                  exact AllReadyH.nil
                exact AllReadyH.nil
              exact AllReadyH.nil
            exact AllReadyH.nil
          exact AllReadyH.nil
        refine AllReadyH.cons (o := _) rfl (fun K hK => ?_) ?_
        · (go_simp; go_at_call 106; refine (stepTo_any a b c 100 119 _ (.inl rfl) (.inr rfl) HR.out).mono ?_; rintro e w3 ⟨rfl, hr⟩; have G3 := Lib.hid (bel_trans G2.out hr); have m3 : wr.heap.size < w3.heap.size := (Nat.lt_of_lt_of_le m2 hr.size); have n3 : w1.heap.size + 1 < w3.heap.size := (by omega); have c3 := (G3.out.cell (p := ⟨w1.heap.size + 1, 1, none⟩) hlt).trans k1; have c3a : ∀ o, (w3.alloc o).cell? ⟨w1.heap.size + 1, 1, none⟩ = some (.slice A 0 cap) := (fun o => ((bel_alloc (Below.refl _ w3) o).cell (p := ⟨w1.heap.size + 1, 1, none⟩) n3).trans c3); have c3b : ∀ o o', ((w3.alloc o).alloc o').cell? ⟨w1.heap.size + 1, 1, none⟩ = some (.slice A 0 cap) := (fun o o' => ((bel_alloc (bel_alloc (Below.refl _ w3) o) o').cell (p := ⟨w1.heap.size + 1, 1, none⟩) n3).trans c3); have f3 := ((bcell G3.out).2 (w1.heap.size + 1) 1 hlt).trans kf)
          refine hK.out _ _ ?_ (fun hHeld => ?_)
          · (try dsimp only); first | assumption | exact soc_start HX.out k4 | exact soc_below (by assumption) hq (by simp; omega) (by simp) | exact soc_below (by assumption) hr (by omega) m2 | exact soc_below (by assumption) (bel_alloc (Below.refl _ _) _) (by first | omega | (simp; omega)) (by first | omega | (simp; omega)) | exact soc_blk (by assumption) (hk2 _ (by omega) (.inl (by omega))) (hk2 _ (by omega) (.inr (by omega))) | exact soc_set (by assumption) _ _ _ (by omega) (by omega)
          clear hK K
          try simp only [Act.put, List.setIfInBounds_toArray, List.set_cons_zero, List.set_cons_succ]
          refine wpAnyH_ready (rs := [1, 10]) (by kernel_rfl) (by simp) ?_
          refine AllReadyH.cons (o := _) rfl (fun K hK => ?_) ?_
          · (go_simp)
            refine hK.out _ _ ?_ (fun hHeld => ?_)
            · (try dsimp only); first | assumption | exact soc_start HX.out k4 | exact soc_below (by assumption) hq (by simp; omega) (by simp) | exact soc_below (by assumption) hr (by omega) m2 | exact soc_below (by assumption) (bel_alloc (Below.refl _ _) _) (by first | omega | (simp; omega)) (by first | omega | (simp; omega)) | exact soc_blk (by assumption) (hk2 _ (by omega) (.inl (by omega))) (hk2 _ (by omega) (.inr (by omega))) | exact soc_set (by assumption) _ _ _ (by omega) (by omega)
            clear hK K
            try simp only [Act.put, List.setIfInBounds_toArray, List.set_cons_zero, List.set_cons_succ]
            refine wpAnyH_ready (rs := [10]) (by kernel_rfl) (by simp) ?_
            refine AllReadyH.cons (o := _) rfl (fun K hK => ?_) ?_
            · (go_simp)
              refine hK.out _ _ ?_ (fun hHeld => ?_)
              · (try dsimp only); first | assumption | exact soc_start HX.out k4 | exact soc_below (by assumption) hq (by simp; omega) (by simp) | exact soc_below (by assumption) hr (by omega) m2 | exact soc_below (by assumption) (bel_alloc (Below.refl _ _) _) (by first | omega | (simp; omega)) (by first | omega | (simp; omega)) | exact soc_blk (by assumption) (hk2 _ (by omega) (.inl (by omega))) (hk2 _ (by omega) (.inr (by omega))) | exact soc_set (by assumption) _ _ _ (by omega) (by omega)
              clear hK K
              try simp only [Act.put, List.setIfInBounds_toArray, List.set_cons_zero, List.set_cons_succ]
              refine wpAnyH_ready (rs := [11]) (by kernel_rfl) (by simp) ?_
              refine AllReadyH.cons (o := _) rfl (fun K hK => ?_) ?_
              · (go_simp)
                refine hK.out _ _ ?_ (fun hHeld => ?_)
                · (try dsimp only); first | assumption | exact soc_start HX.out k4 | exact soc_below (by assumption) hq (by simp; omega) (by simp) | exact soc_below (by assumption) hr (by omega) m2 | exact soc_below (by assumption) (bel_alloc (Below.refl _ _) _) (by first | omega | (simp; omega)) (by first | omega | (simp; omega)) | exact soc_blk (by assumption) (hk2 _ (by omega) (.inl (by omega))) (hk2 _ (by omega) (.inr (by omega))) | exact soc_set (by assumption) _ _ _ (by omega) (by omega)
                clear hK K
                try simp only [Act.put, List.setIfInBounds_toArray, List.set_cons_zero, List.set_cons_succ]
                refine wpAnyH_ready (rs := [12]) (by kernel_rfl) (by simp) ?_
                refine AllReadyH.cons (o := _) rfl (fun K hK => ?_) ?_
                · (refine step_pushRow rfl (.tmp 25) (.tmp 35) rfl (w1.heap.size + 2) wr.heap.size (.slice A 0 cap) ((rowsS a b c).take 0) (HO.out.below G3.out (Nat.le_refl _)) (by omega) (by simp [rowsS]) (stp a b c 100 100) (stp a b c 100 119) w3.heap.size (w3.heap.size + 1) rfl rfl (by simp [Act.eval, Act.put]) (by simp [Act.eval, Act.put]) ?_; intro v4 w4 ho4 hb4 hk4 hk2; rw [rows_step0] at ho4; obtain ⟨A4, cap4, hv4⟩ := form0 ho4; subst hv4; have c4 := ((blk (hk4 (w1.heap.size + 1) (by omega) (.inl (by omega)))).1 1).trans c3; have c40 := ((blk (hk4 (w1.heap.size + 1) (by omega) (.inl (by omega)))).1 0).trans ((G3.out.cell (p := ⟨w1.heap.size + 1, 0, none⟩) hlt).trans k0); have f4 := ((blk (hk4 (w1.heap.size + 1) (by omega) (.inl (by omega)))).2 1).trans f3)
                  refine hK.out _ _ ?_ (fun hHeld => ?_)
                  · (try dsimp only); first | assumption | exact soc_start HX.out k4 | exact soc_below (by assumption) hq (by simp; omega) (by simp) | exact soc_below (by assumption) hr (by omega) m2 | exact soc_below (by assumption) (bel_alloc (Below.refl _ _) _) (by first | omega | (simp; omega)) (by first | omega | (simp; omega)) | exact soc_blk (by assumption) (hk2 _ (by omega) (.inl (by omega))) (hk2 _ (by omega) (.inr (by omega))) | exact soc_set (by assumption) _ _ _ (by omega) (by omega)
                  clear hK K
                  try simp only [Act.put, List.setIfInBounds_toArray, List.set_cons_zero, List.set_cons_succ]
                  refine wpAnyH_take (i := 13) (oi := _) (v := ?v0_13_10) rfl (by kernel_rfl) (by kernel_rfl) (by kernel_rfl) (fun _ _ _ h => h) (Or.inl ⟨by rfl, ?y0_13_10⟩) (by assumption) ?r0_13_10
                  case y0_13_10 => (intro w hSw; (try dsimp only at hSw); go_simp; try with_reducible rfl)
                  try simp only [Act.put, List.setIfInBounds_toArray, List.set_cons_zero, List.set_cons_succ]
                  refine wpAnyH_ready (rs := [14]) (by kernel_rfl) (by simp) ?_
                  refine AllReadyH.cons (o := _) rfl (fun K hK => ?_) ?_
                  · (go_simp)
                    refine hK.out _ _ ?_ (fun hHeld => ?_)
                    · (try dsimp only); first | assumption | exact soc_start HX.out k4 | exact soc_below (by assumption) hq (by simp; omega) (by simp) | exact soc_below (by assumption) hr (by omega) m2 | exact soc_below (by assumption) (bel_alloc (Below.refl _ _) _) (by first | omega | (simp; omega)) (by first | omega | (simp; omega)) | exact soc_blk (by assumption) (hk2 _ (by omega) (.inl (by omega))) (hk2 _ (by omega) (.inr (by omega))) | exact soc_set (by assumption) _ _ _ (by omega) (by omega)
                    clear hK K
                    try simp only [Act.put, List.setIfInBounds_toArray, List.set_cons_zero, List.set_cons_succ]
                    refine wpAnyH_done (by kernel_rfl) ?_ _
                    have hS := (by assumption : (w4.setCell ⟨w1.heap.size + 1, 1, none⟩ (.slice A4 1 cap4)).cell? ⟨w1.heap.size, 0, none⟩ = some (.int .i64 a) ∧ (w4.setCell ⟨w1.heap.size + 1, 1, none⟩ (.slice A4 1 cap4)).cell? ⟨w1.heap.size, 1, none⟩ = some (.int .i64 b) ∧ (w4.setCell ⟨w1.heap.size + 1, 1, none⟩ (.slice A4 1 cap4)).cell? ⟨w1.heap.size, 2, none⟩ = some (.int .i64 c) ∧ (w4.setCell ⟨w1.heap.size + 1, 1, none⟩ (.slice A4 1 cap4)).cell? ⟨w1.heap.size, 3, none⟩ = some (.int .u8 100) ∧ (w4.setCell ⟨w1.heap.size + 1, 1, none⟩ (.slice A4 1 cap4)).cell? ⟨w1.heap.size, 4, none⟩ = some (.int .i64 a) ∧ (w4.setCell ⟨w1.heap.size + 1, 1, none⟩ (.slice A4 1 cap4)).cell? ⟨w1.heap.size, 5, none⟩ = some (.int .i64 b) ∧ (w4.setCell ⟨w1.heap.size + 1, 1, none⟩ (.slice A4 1 cap4)).cell? ⟨w1.heap.size, 6, none⟩ = some (.int .i64 c) ∧ (w4.setCell ⟨w1.heap.size + 1, 1, none⟩ (.slice A4 1 cap4)).cell? ⟨w1.heap.size, 7, none⟩ = some (.int .u8 119) ∧ (w4.setCell ⟨w1.heap.size + 1, 1, none⟩ (.slice A4 1 cap4)).cell? ⟨wr.heap.size, 0, none⟩ = some (.int .i64 a) ∧ (w4.setCell ⟨w1.heap.size + 1, 1, none⟩ (.slice A4 1 cap4)).cell? ⟨wr.heap.size, 1, none⟩ = some (.int .i64 b) ∧ (w4.setCell ⟨w1.heap.size + 1, 1, none⟩ (.slice A4 1 cap4)).cell? ⟨wr.heap.size, 2, none⟩ = some (.int .i64 c) ∧ (w4.setCell ⟨w1.heap.size + 1, 1, none⟩ (.slice A4 1 cap4)).cell? ⟨wr.heap.size, 3, none⟩ = some (.int .u8 100))
                    have hbx := Lib.hid (soc_box hS)
                    have HO4 := Lib.hid ho4
                    have HB4 := Lib.hid (HB.out.trans ((G3.out.mono (show w1.heap.size ≤ wr.heap.size by omega)).trans (hb4.mono (show w1.heap.size ≤ w1.heap.size + 2 by omega))))
                    have m4 : w1.heap.size + 1 < w4.heap.size := Nat.lt_of_lt_of_le n3 hb4.size
                    clear hS ho4 hb4
                    go_wp2
                    refine ⟨.inr (.inl ⟨rfl, A4, cap4, ?_, ?_, ?_, ?_, hbx.out, ?_, ?_⟩), by simp [intOf]⟩
                    · simp [go_sem, c40, c4, f4]
                    · simp [go_sem, c40, c4, f4]
                    · simp [go_sem, c40, c4, f4]
                    · exact OwnM.more (OwnM.set_ HO4.out (by simp) _) (by simp [World.setCell]) (Nat.le_refl _)
                    · exact Below.setCell HB4.out (by simp) _
                    · simp [World.setCell]; exact m4
                  exact AllReadyH.nil
                exact AllReadyH.nil
              exact AllReadyH.nil
            exact AllReadyH.nil
          refine AllReadyH.cons (o := _) rfl (fun K hK => ?_) ?_
          · (go_simp)
            refine hK.out _ _ ?_ (fun hHeld => ?_)
            · (try dsimp only); first | assumption | exact soc_start HX.out k4 | exact soc_below (by assumption) hq (by simp; omega) (by simp) | exact soc_below (by assumption) hr (by omega) m2 | exact soc_below (by assumption) (bel_alloc (Below.refl _ _) _) (by first | omega | (simp; omega)) (by first | omega | (simp; omega)) | exact soc_blk (by assumption) (hk2 _ (by omega) (.inl (by omega))) (hk2 _ (by omega) (.inr (by omega))) | exact soc_set (by assumption) _ _ _ (by omega) (by omega)
            clear hK K
            try simp only [Act.put, List.setIfInBounds_toArray, List.set_cons_zero, List.set_cons_succ]
            refine wpAnyH_ready (rs := [1, 11]) (by kernel_rfl) (by simp) ?_
            refine AllReadyH.cons (o := _) rfl (fun K hK => ?_) ?_
            · (go_simp)
              refine hK.out _ _ ?_ (fun hHeld => ?_)
              · (try dsimp only); first | assumption | exact soc_start HX.out k4 | exact soc_below (by assumption) hq (by simp; omega) (by simp) | exact soc_below (by assumption) hr (by omega) m2 | exact soc_below (by assumption) (bel_alloc (Below.refl _ _) _) (by first | omega | (simp; omega)) (by first | omega | (simp; omega)) | exact soc_blk (by assumption) (hk2 _ (by omega) (.inl (by omega))) (hk2 _ (by omega) (.inr (by omega))) | exact soc_set (by assumption) _ _ _ (by omega) (by omega)
              clear hK K
              try simp only [Act.put, List.setIfInBounds_toArray, List.set_cons_zero, List.set_cons_succ]
              refine wpAnyH_ready (rs := [11]) (by kernel_rfl) (by simp) ?_
              refine AllReadyH.cons (o := _) rfl (fun K hK => ?_) ?_
              · (go_simp)
                refine hK.out _ _ ?_ (fun hHeld => ?_)
                · (try dsimp only); first | assumption | exact soc_start HX.out k4 | exact soc_below (by assumption) hq (by simp; omega) (by simp) | exact soc_below (by assumption) hr (by omega) m2 | exact soc_below (by assumption) (bel_alloc (Below.refl _ _) _) (by first | omega | (simp; omega)) (by first | omega | (simp; omega)) | exact soc_blk (by assumption) (hk2 _ (by omega) (.inl (by omega))) (hk2 _ (by omega) (.inr (by omega))) | exact soc_set (by assumption) _ _ _ (by omega) (by omega)
                clear hK K
                try simp only [Act.put, List.setIfInBounds_toArray, List.set_cons_zero, List.set_cons_succ]
                refine wpAnyH_ready (rs := [12]) (by kernel_rfl) (by simp) ?_
                refine AllReadyH.cons (o := _) rfl (fun K hK => ?_) ?_
                · (refine step_pushRow rfl (.tmp 25) (.tmp 35) rfl (w1.heap.size + 2) wr.heap.size (.slice A 0 cap) ((rowsS a b c).take 0) (HO.out.below G3.out (Nat.le_refl _)) (by omega) (by simp [rowsS]) (stp a b c 100 100) (stp a b c 100 119) w3.heap.size (w3.heap.size + 1) rfl rfl (by simp [Act.eval, Act.put]) (by simp [Act.eval, Act.put]) ?_; intro v4 w4 ho4 hb4 hk4 hk2; rw [rows_step0] at ho4; obtain ⟨A4, cap4, hv4⟩ := form0 ho4; subst hv4; have c4 := ((blk (hk4 (w1.heap.size + 1) (by omega) (.inl (by omega)))).1 1).trans c3; have c40 := ((blk (hk4 (w1.heap.size + 1) (by omega) (.inl (by omega)))).1 0).trans ((G3.out.cell (p := ⟨w1.heap.size + 1, 0, none⟩) hlt).trans k0); have f4 := ((blk (hk4 (w1.heap.size + 1) (by omega) (.inl (by omega)))).2 1).trans f3)
                  refine hK.out _ _ ?_ (fun hHeld => ?_)
                  · (try dsimp only); first | assumption | exact soc_start HX.out k4 | exact soc_below (by assumption) hq (by simp; omega) (by simp) | exact soc_below (by assumption) hr (by omega) m2 | exact soc_below (by assumption) (bel_alloc (Below.refl _ _) _) (by first | omega | (simp; omega)) (by first | omega | (simp; omega)) | exact soc_blk (by assumption) (hk2 _ (by omega) (.inl (by omega))) (hk2 _ (by omega) (.inr (by omega))) | exact soc_set (by assumption) _ _ _ (by omega) (by omega)
                  clear hK K
                  try simp only [Act.put, List.setIfInBounds_toArray, List.set_cons_zero, List.set_cons_succ]
                  refine wpAnyH_take (i := 13) (oi := _) (v := ?v0_13_11) rfl (by kernel_rfl) (by kernel_rfl) (by kernel_rfl) (fun _ _ _ h => h) (Or.inl ⟨by rfl, ?y0_13_11⟩) (by assumption) ?r0_13_11
                  case y0_13_11 => (intro w hSw; (try dsimp only at hSw); go_simp; try with_reducible rfl)
                  try simp only [Act.put, List.setIfInBounds_toArray, List.set_cons_zero, List.set_cons_succ]
                  refine wpAnyH_ready (rs := [14]) (by kernel_rfl) (by simp) ?_
                  refine AllReadyH.cons (o := _) rfl (fun K hK => ?_) ?_
                  · (go_simp)
                    refine hK.out _ _ ?_ (fun hHeld => ?_)
                    · (try dsimp only); first | assumption | exact soc_start HX.out k4 | exact soc_below (by assumption) hq (by simp; omega) (by simp) | exact soc_below (by assumption) hr (by omega) m2 | exact soc_below (by assumption) (bel_alloc (Below.refl _ _) _) (by first | omega | (simp; omega)) (by first | omega | (simp; omega)) | exact soc_blk (by assumption) (hk2 _ (by omega) (.inl (by omega))) (hk2 _ (by omega) (.inr (by omega))) | exact soc_set (by assumption) _ _ _ (by omega) (by omega)
                    clear hK K
                    try simp only [Act.put, List.setIfInBounds_toArray, List.set_cons_zero, List.set_cons_succ]
                    refine wpAnyH_done (by kernel_rfl) ?_ _
                    have hS := (by assumption : (w4.setCell ⟨w1.heap.size + 1, 1, none⟩ (.slice A4 1 cap4)).cell? ⟨w1.heap.size, 0, none⟩ = some (.int .i64 a) ∧ (w4.setCell ⟨w1.heap.size + 1, 1, none⟩ (.slice A4 1 cap4)).cell? ⟨w1.heap.size, 1, none⟩ = some (.int .i64 b) ∧ (w4.setCell ⟨w1.heap.size + 1, 1, none⟩ (.slice A4 1 cap4)).cell? ⟨w1.heap.size, 2, none⟩ = some (.int .i64 c) ∧ (w4.setCell ⟨w1.heap.size + 1, 1, none⟩ (.slice A4 1 cap4)).cell? ⟨w1.heap.size, 3, none⟩ = some (.int .u8 100) ∧ (w4.setCell ⟨w1.heap.size + 1, 1, none⟩ (.slice A4 1 cap4)).cell? ⟨w1.heap.size, 4, none⟩ = some (.int .i64 a) ∧ (w4.setCell ⟨w1.heap.size + 1, 1, none⟩ (.slice A4 1 cap4)).cell? ⟨w1.heap.size, 5, none⟩ = some (.int .i64 b) ∧ (w4.setCell ⟨w1.heap.size + 1, 1, none⟩ (.slice A4 1 cap4)).cell? ⟨w1.heap.size, 6, none⟩ = some (.int .i64 c) ∧ (w4.setCell ⟨w1.heap.size + 1, 1, none⟩ (.slice A4 1 cap4)).cell? ⟨w1.heap.size, 7, none⟩ = some (.int .u8 119) ∧ (w4.setCell ⟨w1.heap.size + 1, 1, none⟩ (.slice A4 1 cap4)).cell? ⟨wr.heap.size, 0, none⟩ = some (.int .i64 a) ∧ (w4.setCell ⟨w1.heap.size + 1, 1, none⟩ (.slice A4 1 cap4)).cell? ⟨wr.heap.size, 1, none⟩ = some (.int .i64 b) ∧ (w4.setCell ⟨w1.heap.size + 1, 1, none⟩ (.slice A4 1 cap4)).cell? ⟨wr.heap.size, 2, none⟩ = some (.int .i64 c) ∧ (w4.setCell ⟨w1.heap.size + 1, 1, none⟩ (.slice A4 1 cap4)).cell? ⟨wr.heap.size, 3, none⟩ = some (.int .u8 100))
                    have hbx := Lib.hid (soc_box hS)
                    have HO4 := Lib.hid ho4
                    have HB4 := Lib.hid (HB.out.trans ((G3.out.mono (show w1.heap.size ≤ wr.heap.size by omega)).trans (hb4.mono (show w1.heap.size ≤ w1.heap.size + 2 by omega))))
                    have m4 : w1.heap.size + 1 < w4.heap.size := Nat.lt_of_lt_of_le n3 hb4.size
                    clear hS ho4 hb4
                    go_wp2
                    refine ⟨.inr (.inl ⟨rfl, A4, cap4, ?_, ?_, ?_, ?_, hbx.out, ?_, ?_⟩), by simp [intOf]⟩
                    · simp [go_sem, c40, c4, f4]
                    · simp [go_sem, c40, c4, f4]
                    · simp [go_sem, c40, c4, f4]
                    · exact OwnM.more (OwnM.set_ HO4.out (by simp) _) (by simp [World.setCell]) (Nat.le_refl _)
                    · exact Below.setCell HB4.out (by simp) _
                    · simp [World.setCell]; exact m4
                  exact AllReadyH.nil
                exact AllReadyH.nil
              exact AllReadyH.nil
            refine AllReadyH.cons (o := _) rfl (fun K hK => ?_) ?_
            · (go_simp)
              refine hK.out _ _ ?_ (fun hHeld => ?_)
              · (try dsimp only); first | assumption | exact soc_start HX.out k4 | exact soc_below (by assumption) hq (by simp; omega) (by simp) | exact soc_below (by assumption) hr (by omega) m2 | exact soc_below (by assumption) (bel_alloc (Below.refl _ _) _) (by first | omega | (simp; omega)) (by first | omega | (simp; omega)) | exact soc_blk (by assumption) (hk2 _ (by omega) (.inl (by omega))) (hk2 _ (by omega) (.inr (by omega))) | exact soc_set (by assumption) _ _ _ (by omega) (by omega)
              clear hK K
              try simp only [Act.put, List.setIfInBounds_toArray, List.set_cons_zero, List.set_cons_succ]
              refine wpAnyH_ready (rs := [1]) (by kernel_rfl) (by simp) ?_
              refine AllReadyH.cons (o := _) rfl (fun K hK => ?_) ?_
              · (go_simp)
                refine hK.out _ _ ?_ (fun hHeld => ?_)
                · (try dsimp only); first | assumption | exact soc_start HX.out k4 | exact soc_below (by assumption) hq (by simp; omega) (by simp) | exact soc_below (by assumption) hr (by omega) m2 | exact soc_below (by assumption) (bel_alloc (Below.refl _ _) _) (by first | omega | (simp; omega)) (by first | omega | (simp; omega)) | exact soc_blk (by assumption) (hk2 _ (by omega) (.inl (by omega))) (hk2 _ (by omega) (.inr (by omega))) | exact soc_set (by assumption) _ _ _ (by omega) (by omega)
                clear hK K
                try simp only [Act.put, List.setIfInBounds_toArray, List.set_cons_zero, List.set_cons_succ]
                refine wpAnyH_ready (rs := [12]) (by kernel_rfl) (by simp) ?_
                refine AllReadyH.cons (o := _) rfl (fun K hK => ?_) ?_
                · (refine step_pushRow rfl (.tmp 25) (.tmp 35) rfl (w1.heap.size + 2) wr.heap.size (.slice A 0 cap) ((rowsS a b c).take 0) (HO.out.below G3.out (Nat.le_refl _)) (by omega) (by simp [rowsS]) (stp a b c 100 100) (stp a b c 100 119) w3.heap.size (w3.heap.size + 1) rfl rfl (by simp [Act.eval, Act.put]) (by simp [Act.eval, Act.put]) ?_; intro v4 w4 ho4 hb4 hk4 hk2; rw [rows_step0] at ho4; obtain ⟨A4, cap4, hv4⟩ := form0 ho4; subst hv4; have c4 := ((blk (hk4 (w1.heap.size + 1) (by omega) (.inl (by omega)))).1 1).trans c3; have c40 := ((blk (hk4 (w1.heap.size + 1) (by omega) (.inl (by omega)))).1 0).trans ((G3.out.cell (p := ⟨w1.heap.size + 1, 0, none⟩) hlt).trans k0); have f4 := ((blk (hk4 (w1.heap.size + 1) (by omega) (.inl (by omega)))).2 1).trans f3)
                  refine hK.out _ _ ?_ (fun hHeld => ?_)
                  · (try dsimp only); first | assumption | exact soc_start HX.out k4 | exact soc_below (by assumption) hq (by simp; omega) (by simp) | exact soc_below (by assumption) hr (by omega) m2 | exact soc_below (by assumption) (bel_alloc (Below.refl _ _) _) (by first | omega | (simp; omega)) (by first | omega | (simp; omega)) | exact soc_blk (by assumption) (hk2 _ (by omega) (.inl (by omega))) (hk2 _ (by omega) (.inr (by omega))) | exact soc_set (by assumption) _ _ _ (by omega) (by omega)
                  clear hK K
                  try simp only [Act.put, List.setIfInBounds_toArray, List.set_cons_zero, List.set_cons_succ]
                  refine wpAnyH_take (i := 13) (oi := _) (v := ?v0_13_12) rfl (by kernel_rfl) (by kernel_rfl) (by kernel_rfl) (fun _ _ _ h => h) (Or.inl ⟨by rfl, ?y0_13_12⟩) (by assumption) ?r0_13_12
                  case y0_13_12 => (intro w hSw; (try dsimp only at hSw); go_simp; try with_reducible rfl)
                  try simp only [Act.put, List.setIfInBounds_toArray, List.set_cons_zero, List.set_cons_succ]
                  refine wpAnyH_ready (rs := [14]) (by kernel_rfl) (by simp) ?_
                  refine AllReadyH.cons (o := _) rfl (fun K hK => ?_) ?_
                  · (go_simp)
                    refine hK.out _ _ ?_ (fun hHeld => ?_)
                    · (try dsimp only); first | assumption | exact soc_start HX.out k4 | exact soc_below (by assumption) hq (by simp; omega) (by simp) | exact soc_below (by assumption) hr (by omega) m2 | exact soc_below (by assumption) (bel_alloc (Below.refl _ _) _) (by first | omega | (simp; omega)) (by first | omega | (simp; omega)) | exact soc_blk (by assumption) (hk2 _ (by omega) (.inl (by omega))) (hk2 _ (by omega) (.inr (by omega))) | exact soc_set (by assumption) _ _ _ (by omega) (by omega)
                    clear hK K
                    try simp only [Act.put, List.setIfInBounds_toArray, List.set_cons_zero, List.set_cons_succ]
                    refine wpAnyH_done (by kernel_rfl) ?_ _
                    have hS := (by assumption : (w4.setCell ⟨w1.heap.size + 1, 1, none⟩ (.slice A4 1 cap4)).cell? ⟨w1.heap.size, 0, none⟩ = some (.int .i64 a) ∧ (w4.setCell ⟨w1.heap.size + 1, 1, none⟩ (.slice A4 1 cap4)).cell? ⟨w1.heap.size, 1, none⟩ = some (.int .i64 b) ∧ (w4.setCell ⟨w1.heap.size + 1, 1, none⟩ (.slice A4 1 cap4)).cell? ⟨w1.heap.size, 2, none⟩ = some (.int .i64 c) ∧ (w4.setCell ⟨w1.heap.size + 1, 1, none⟩ (.slice A4 1 cap4)).cell? ⟨w1.heap.size, 3, none⟩ = some (.int .u8 100) ∧ (w4.setCell ⟨w1.heap.size + 1, 1, none⟩ (.slice A4 1 cap4)).cell? ⟨w1.heap.size, 4, none⟩ = some (.int .i64 a) ∧ (w4.setCell ⟨w1.heap.size + 1, 1, none⟩ (.slice A4 1 cap4)).cell? ⟨w1.heap.size, 5, none⟩ = some (.int .i64 b) ∧ (w4.setCell ⟨w1.heap.size + 1, 1, none⟩ (.slice A4 1 cap4)).cell? ⟨w1.heap.size, 6, none⟩ = some (.int .i64 c) ∧ (w4.setCell ⟨w1.heap.size + 1, 1, none⟩ (.slice A4 1 cap4)).cell? ⟨w1.heap.size, 7, none⟩ = some (.int .u8 119) ∧ (w4.setCell ⟨w1.heap.size + 1, 1, none⟩ (.slice A4 1 cap4)).cell? ⟨wr.heap.size, 0, none⟩ = some (.int .i64 a) ∧ (w4.setCell ⟨w1.heap.size + 1, 1, none⟩ (.slice A4 1 cap4)).cell? ⟨wr.heap.size, 1, none⟩ = some (.int .i64 b) ∧ (w4.setCell ⟨w1.heap.size + 1, 1, none⟩ (.slice A4 1 cap4)).cell? ⟨wr.heap.size, 2, none⟩ = some (.int .i64 c) ∧ (w4.setCell ⟨w1.heap.size + 1, 1, none⟩ (.slice A4 1 cap4)).cell? ⟨wr.heap.size, 3, none⟩ = some (.int .u8 100))
                    have hbx := Lib.hid (soc_box hS)
                    have HO4 := Lib.hid ho4
                    have HB4 := Lib.hid (HB.out.trans ((G3.out.mono (show w1.heap.size ≤ wr.heap.size by omega)).trans (hb4.mono (show w1.heap.size ≤ w1.heap.size + 2 by omega))))
                    have m4 : w1.heap.size + 1 < w4.heap.size := Nat.lt_of_lt_of_le n3 hb4.size
                    clear hS ho4 hb4
                    go_wp2
                    refine ⟨.inr (.inl ⟨rfl, A4, cap4, ?_, ?_, ?_, ?_, hbx.out, ?_, ?_⟩), by simp [intOf]⟩
                    · simp [go_sem, c40, c4, f4]
                    · simp [go_sem, c40, c4, f4]
                    · simp [go_sem, c40, c4, f4]
                    · exact OwnM.more (OwnM.set_ HO4.out (by simp) _) (by simp [World.setCell]) (Nat.le_refl _)
                    · exact Below.setCell HB4.out (by simp) _
                    · simp [World.setCell]; exact m4
                  exact AllReadyH.nil
                exact AllReadyH.nil
              exact AllReadyH.nil
            exact AllReadyH.nil
          exact AllReadyH.nil
        exact AllReadyH.nil
      exact AllReadyH.nil
    · obtain ⟨A, cap, k0, k1, kf, ho, hbox, hb, hlt⟩ := hF
      have k4 : w1.heap.size < wr.heap.size := by omega
      have HO := Lib.hid ho
      have HX := Lib.hid hbox
      have HB := Lib.hid hb
      clear ho hbox hb
      have hix := ix1 a b c
      go_wp2_with fail
      refine wp_region_held_drew (S := fun w' => w'.cell? ⟨w1.heap.size, 0, none⟩ = some (.int .i64 a) ∧ w'.cell? ⟨w1.heap.size, 1, none⟩ = some (.int .i64 b) ∧ w'.cell? ⟨w1.heap.size, 2, none⟩ = some (.int .i64 c) ∧ w'.cell? ⟨w1.heap.size, 3, none⟩ = some (.int .u8 100) ∧ w'.cell? ⟨w1.heap.size, 4, none⟩ = some (.int .i64 a) ∧ w'.cell? ⟨w1.heap.size, 5, none⟩ = some (.int .i64 b) ∧ w'.cell? ⟨w1.heap.size, 6, none⟩ = some (.int .i64 c) ∧ w'.cell? ⟨w1.heap.size, 7, none⟩ = some (.int .u8 119) ∧ w'.cell? ⟨wr.heap.size, 0, none⟩ = some (.int .i64 a) ∧ w'.cell? ⟨wr.heap.size, 1, none⟩ = some (.int .i64 b) ∧ w'.cell? ⟨wr.heap.size, 2, none⟩ = some (.int .i64 c) ∧ w'.cell? ⟨wr.heap.size, 3, none⟩ = some (.int .u8 119)) (by kernel_rfl) (by first | assumption | exact soc_start HX.out k4 | exact soc_below (by assumption) hq (by simp; omega) (by simp) | exact soc_below (by assumption) hr (by omega) m2 | exact soc_below (by assumption) (bel_alloc (Below.refl _ _) _) (by first | omega | (simp; omega)) (by first | omega | (simp; omega)) | exact soc_blk (by assumption) (hk2 _ (by omega) (.inl (by omega))) (hk2 _ (by omega) (.inr (by omega))) | exact soc_set (by assumption) _ _ _ (by omega) (by omega)) (fun hHeld => ?_)
      refine wpAnyH_take (i := 0) (oi := _) (v := ?v1_0_1) rfl (by kernel_rfl) (by kernel_rfl) (by kernel_rfl) (fun _ _ _ h => h) (Or.inl ⟨by rfl, ?y1_0_1⟩) (by assumption) ?r1_0_1
      case y1_0_1 => (intro w hSw; (try dsimp only at hSw); go_simp; try with_reducible rfl)
      try simp only [Act.put, List.setIfInBounds_toArray, List.set_cons_zero, List.set_cons_succ]
      refine wpAnyH_take (i := 2) (oi := _) (v := ?v1_2_2) rfl (by kernel_rfl) (by kernel_rfl) (by kernel_rfl) (fun _ _ _ h => h) (Or.inl ⟨by rfl, ?y1_2_2⟩) (by assumption) ?r1_2_2
      case y1_2_2 => (intro w hSw; (try dsimp only at hSw); go_simp; try with_reducible rfl)
      try simp only [Act.put, List.setIfInBounds_toArray, List.set_cons_zero, List.set_cons_succ]
      refine wpAnyH_take (i := 3) (oi := _) (v := ?v1_3_3) rfl (by kernel_rfl) (by kernel_rfl) (by kernel_rfl) (fun _ _ _ h => h) (Or.inl ⟨by rfl, ?y1_3_3⟩) (by assumption) ?r1_3_3
      case y1_3_3 => (intro w hSw; (try dsimp only at hSw); go_simp; try with_reducible rfl)
      try simp only [Act.put, List.setIfInBounds_toArray, List.set_cons_zero, List.set_cons_succ]
      refine wpAnyH_take (i := 4) (oi := _) (v := ?v1_4_4) rfl (by kernel_rfl) (by kernel_rfl) (by kernel_rfl) (fun _ _ _ h => h) (Or.inl ⟨by rfl, ?y1_4_4⟩) (by assumption) ?r1_4_4
      case y1_4_4 => (intro w hSw; (try dsimp only at hSw); go_simp; try with_reducible rfl)
      try simp only [Act.put, List.setIfInBounds_toArray, List.set_cons_zero, List.set_cons_succ]
      refine wpAnyH_take (i := 6) (oi := _) (v := ?v1_6_5) rfl (by kernel_rfl) (by kernel_rfl) (by kernel_rfl) (fun _ _ _ h => h) (Or.inl ⟨by rfl, ?y1_6_5⟩) (by assumption) ?r1_6_5
      case y1_6_5 => (intro w hSw; (try dsimp only at hSw); go_simp; try with_reducible rfl)
      try simp only [Act.put, List.setIfInBounds_toArray, List.set_cons_zero, List.set_cons_succ]
      refine wpAnyH_take (i := 7) (oi := _) (v := ?v1_7_6) rfl (by kernel_rfl) (by kernel_rfl) (by kernel_rfl) (fun _ _ _ h => h) (Or.inl ⟨by rfl, ?y1_7_6⟩) (by assumption) ?r1_7_6
      case y1_7_6 => (intro w hSw; (try dsimp only at hSw); go_simp; try with_reducible rfl)
      try simp only [Act.put, List.setIfInBounds_toArray, List.set_cons_zero, List.set_cons_succ]
      refine wpAnyH_take (i := 8) (oi := _) (v := ?v1_8_7) rfl (by kernel_rfl) (by kernel_rfl) (by kernel_rfl) (fun _ _ _ h => h) (Or.inl ⟨by rfl, ?y1_8_7⟩) (by assumption) ?r1_8_7
      case y1_8_7 => (intro w hSw; (try dsimp only at hSw); go_simp; try with_reducible rfl)
      try simp only [Act.put, List.setIfInBounds_toArray, List.set_cons_zero, List.set_cons_succ]
      refine wpAnyH_ready (rs := [1, 5]) (by kernel_rfl) (by simp) ?_
      refine AllReadyH.cons (o := _) rfl (fun K hK => ?_) ?_
      · (go_simp)
        refine hK.out _ _ ?_ (fun hHeld => ?_)
        · (try dsimp only); first | assumption | exact soc_start HX.out k4 | exact soc_below (by assumption) hq (by simp; omega) (by simp) | exact soc_below (by assumption) hr (by omega) m2 | exact soc_below (by assumption) (bel_alloc (Below.refl _ _) _) (by first | omega | (simp; omega)) (by first | omega | (simp; omega)) | exact soc_blk (by assumption) (hk2 _ (by omega) (.inl (by omega))) (hk2 _ (by omega) (.inr (by omega))) | exact soc_set (by assumption) _ _ _ (by omega) (by omega)
        clear hK K
        try simp only [Act.put, List.setIfInBounds_toArray, List.set_cons_zero, List.set_cons_succ]
        refine wpAnyH_ready (rs := [5]) (by kernel_rfl) (by simp) ?_
        refine AllReadyH.cons (o := _) rfl (fun K hK => ?_) ?_
        · (go_simp; go_at_call 106; refine (stepTo_any a b c 119 100 _ (.inr rfl) (.inl rfl) HR.out).mono ?_; rintro e w2 ⟨rfl, hq⟩; have G2 := Lib.hid (bel_trans ((bel_alloc (Below.refl _ wr) _).drew) hq); have m2 : wr.heap.size < w2.heap.size := (Nat.lt_of_lt_of_le (by simp) hq.size); have n2 : w1.heap.size + 1 < w2.heap.size := (by omega); have c2 := (G2.out.cell (p := ⟨w1.heap.size + 1, 1, none⟩) hlt).trans k1)
          refine hK.out _ _ ?_ (fun hHeld => ?_)
          · (try dsimp only); first | assumption | exact soc_start HX.out k4 | exact soc_below (by assumption) hq (by simp; omega) (by simp) | exact soc_below (by assumption) hr (by omega) m2 | exact soc_below (by assumption) (bel_alloc (Below.refl _ _) _) (by first | omega | (simp; omega)) (by first | omega | (simp; omega)) | exact soc_blk (by assumption) (hk2 _ (by omega) (.inl (by omega))) (hk2 _ (by omega) (.inr (by omega))) | exact soc_set (by assumption) _ _ _ (by omega) (by omega)
          clear hK K
          try simp only [Act.put, List.setIfInBounds_toArray, List.set_cons_zero, List.set_cons_succ]
          refine wpAnyH_ready (rs := [9]) (by kernel_rfl) (by simp) ?_
          refine AllReadyH.cons (o := _) rfl (fun K hK => ?_) ?_
          · (go_simp; go_at_call 106; refine (stepTo_any a b c 119 119 _ (.inr rfl) (.inr rfl) HR.out).mono ?_; rintro e w3 ⟨rfl, hr⟩; have G3 := Lib.hid (bel_trans G2.out hr); have m3 : wr.heap.size < w3.heap.size := (Nat.lt_of_lt_of_le m2 hr.size); have n3 : w1.heap.size + 1 < w3.heap.size := (by omega); have c3 := (G3.out.cell (p := ⟨w1.heap.size + 1, 1, none⟩) hlt).trans k1; have c3a : ∀ o, (w3.alloc o).cell? ⟨w1.heap.size + 1, 1, none⟩ = some (.slice A 1 cap) := (fun o => ((bel_alloc (Below.refl _ w3) o).cell (p := ⟨w1.heap.size + 1, 1, none⟩) n3).trans c3); have c3b : ∀ o o', ((w3.alloc o).alloc o').cell? ⟨w1.heap.size + 1, 1, none⟩ = some (.slice A 1 cap) := (fun o o' => ((bel_alloc (bel_alloc (Below.refl _ w3) o) o').cell (p := ⟨w1.heap.size + 1, 1, none⟩) n3).trans c3); have f3 := ((bcell G3.out).2 (w1.heap.size + 1) 1 hlt).trans kf)
            refine hK.out _ _ ?_ (fun hHeld => ?_)
            · (try dsimp only); first | assumption | exact soc_start HX.out k4 | exact soc_below (by assumption) hq (by simp; omega) (by simp) | exact soc_below (by assumption) hr (by omega) m2 | exact soc_below (by assumption) (bel_alloc (Below.refl _ _) _) (by first | omega | (simp; omega)) (by first | omega | (simp; omega)) | exact soc_blk (by assumption) (hk2 _ (by omega) (.inl (by omega))) (hk2 _ (by omega) (.inr (by omega))) | exact soc_set (by assumption) _ _ _ (by omega) (by omega)
            clear hK K
            try simp only [Act.put, List.setIfInBounds_toArray, List.set_cons_zero, List.set_cons_succ]
            refine wpAnyH_ready (rs := [10]) (by kernel_rfl) (by simp) ?_
            refine AllReadyH.cons (o := _) rfl (fun K hK => ?_) ?_
            · (go_simp)
              refine hK.out _ _ ?_ (fun hHeld => ?_)
              · (try dsimp only); first | assumption | exact soc_start HX.out k4 | exact soc_below (by assumption) hq (by simp; omega) (by simp) | exact soc_below (by assumption) hr (by omega) m2 | exact soc_below (by assumption) (bel_alloc (Below.refl _ _) _) (by first | omega | (simp; omega)) (by first | omega | (simp; omega)) | exact soc_blk (by assumption) (hk2 _ (by omega) (.inl (by omega))) (hk2 _ (by omega) (.inr (by omega))) | exact soc_set (by assumption) _ _ _ (by omega) (by omega)
              clear hK K
              try simp only [Act.put, List.setIfInBounds_toArray, List.set_cons_zero, List.set_cons_succ]
              refine wpAnyH_ready (rs := [11]) (by kernel_rfl) (by simp) ?_
              refine AllReadyH.cons (o := _) rfl (fun K hK => ?_) ?_
              · (go_simp)
                refine hK.out _ _ ?_ (fun hHeld => ?_)
                · (try dsimp only); first | assumption | exact soc_start HX.out k4 | exact soc_below (by assumption) hq (by simp; omega) (by simp) | exact soc_below (by assumption) hr (by omega) m2 | exact soc_below (by assumption) (bel_alloc (Below.refl _ _) _) (by first | omega | (simp; omega)) (by first | omega | (simp; omega)) | exact soc_blk (by assumption) (hk2 _ (by omega) (.inl (by omega))) (hk2 _ (by omega) (.inr (by omega))) | exact soc_set (by assumption) _ _ _ (by omega) (by omega)
                clear hK K
                try simp only [Act.put, List.setIfInBounds_toArray, List.set_cons_zero, List.set_cons_succ]
                refine wpAnyH_ready (rs := [12]) (by kernel_rfl) (by simp) ?_
                refine AllReadyH.cons (o := _) rfl (fun K hK => ?_) ?_
                · (refine step_pushRow rfl (.tmp 25) (.tmp 35) rfl (w1.heap.size + 2) wr.heap.size (.slice A 1 cap) ((rowsS a b c).take 1) (HO.out.below G3.out (Nat.le_refl _)) (by omega) (by simp [rowsS]) (stp a b c 119 100) (stp a b c 119 119) w3.heap.size (w3.heap.size + 1) rfl rfl (by simp [Act.eval, Act.put]) (by simp [Act.eval, Act.put]) ?_; intro v4 w4 ho4 hb4 hk4 hk2; rw [rows_step1] at ho4; obtain ⟨A4, cap4, hv4⟩ := form1 ho4; subst hv4; have c4 := ((blk (hk4 (w1.heap.size + 1) (by omega) (.inl (by omega)))).1 1).trans c3; have c40 := ((blk (hk4 (w1.heap.size + 1) (by omega) (.inl (by omega)))).1 0).trans ((G3.out.cell (p := ⟨w1.heap.size + 1, 0, none⟩) hlt).trans k0); have f4 := ((blk (hk4 (w1.heap.size + 1) (by omega) (.inl (by omega)))).2 1).trans f3)
                  refine hK.out _ _ ?_ (fun hHeld => ?_)
                  · (try dsimp only); first | assumption | exact soc_start HX.out k4 | exact soc_below (by assumption) hq (by simp; omega) (by simp) | exact soc_below (by assumption) hr (by omega) m2 | exact soc_below (by assumption) (bel_alloc (Below.refl _ _) _) (by first | omega | (simp; omega)) (by first | omega | (simp; omega)) | exact soc_blk (by assumption) (hk2 _ (by omega) (.inl (by omega))) (hk2 _ (by omega) (.inr (by omega))) | exact soc_set (by assumption) _ _ _ (by omega) (by omega)
                  clear hK K
                  try simp only [Act.put, List.setIfInBounds_toArray, List.set_cons_zero, List.set_cons_succ]
                  refine wpAnyH_take (i := 13) (oi := _) (v := ?v1_13_8) rfl (by kernel_rfl) (by kernel_rfl) (by kernel_rfl) (fun _ _ _ h => h) (Or.inl ⟨by rfl, ?y1_13_8⟩) (by assumption) ?r1_13_8
                  case y1_13_8 => (intro w hSw; (try dsimp only at hSw); go_simp; try with_reducible rfl)
                  try simp only [Act.put, List.setIfInBounds_toArray, List.set_cons_zero, List.set_cons_succ]
                  refine wpAnyH_ready (rs := [14]) (by kernel_rfl) (by simp) ?_
                  refine AllReadyH.cons (o := _) rfl (fun K hK => ?_) ?_
                  · (go_simp)
                    refine hK.out _ _ ?_ (fun hHeld => ?_)
                    · (try dsimp only); first | assumption | exact soc_start HX.out k4 | exact soc_below (by assumption) hq (by simp; omega) (by simp) | exact soc_below (by assumption) hr (by omega) m2 | exact soc_below (by assumption) (bel_alloc (Below.refl _ _) _) (by first | omega | (simp; omega)) (by first | omega | (simp; omega)) | exact soc_blk (by assumption) (hk2 _ (by omega) (.inl (by omega))) (hk2 _ (by omega) (.inr (by omega))) | exact soc_set (by assumption) _ _ _ (by omega) (by omega)
                    clear hK K
                    try simp only [Act.put, List.setIfInBounds_toArray, List.set_cons_zero, List.set_cons_succ]
                    refine wpAnyH_done (by kernel_rfl) ?_ _
                    have hS := (by assumption : (w4.setCell ⟨w1.heap.size + 1, 1, none⟩ (.slice A4 2 cap4)).cell? ⟨w1.heap.size, 0, none⟩ = some (.int .i64 a) ∧ (w4.setCell ⟨w1.heap.size + 1, 1, none⟩ (.slice A4 2 cap4)).cell? ⟨w1.heap.size, 1, none⟩ = some (.int .i64 b) ∧ (w4.setCell ⟨w1.heap.size + 1, 1, none⟩ (.slice A4 2 cap4)).cell? ⟨w1.heap.size, 2, none⟩ = some (.int .i64 c) ∧ (w4.setCell ⟨w1.heap.size + 1, 1, none⟩ (.slice A4 2 cap4)).cell? ⟨w1.heap.size, 3, none⟩ = some (.int .u8 100) ∧ (w4.setCell ⟨w1.heap.size + 1, 1, none⟩ (.slice A4 2 cap4)).cell? ⟨w1.heap.size, 4, none⟩ = some (.int .i64 a) ∧ (w4.setCell ⟨w1.heap.size + 1, 1, none⟩ (.slice A4 2 cap4)).cell? ⟨w1.heap.size, 5, none⟩ = some (.int .i64 b) ∧ (w4.setCell ⟨w1.heap.size + 1, 1, none⟩ (.slice A4 2 cap4)).cell? ⟨w1.heap.size, 6, none⟩ = some (.int .i64 c) ∧ (w4.setCell ⟨w1.heap.size + 1, 1, none⟩ (.slice A4 2 cap4)).cell? ⟨w1.heap.size, 7, none⟩ = some (.int .u8 119) ∧ (w4.setCell ⟨w1.heap.size + 1, 1, none⟩ (.slice A4 2 cap4)).cell? ⟨wr.heap.size, 0, none⟩ = some (.int .i64 a) ∧ (w4.setCell ⟨w1.heap.size + 1, 1, none⟩ (.slice A4 2 cap4)).cell? ⟨wr.heap.size, 1, none⟩ = some (.int .i64 b) ∧ (w4.setCell ⟨w1.heap.size + 1, 1, none⟩ (.slice A4 2 cap4)).cell? ⟨wr.heap.size, 2, none⟩ = some (.int .i64 c) ∧ (w4.setCell ⟨w1.heap.size + 1, 1, none⟩ (.slice A4 2 cap4)).cell? ⟨wr.heap.size, 3, none⟩ = some (.int .u8 119))
                    have hbx := Lib.hid (soc_box hS)
                    have HO4 := Lib.hid ho4
                    have HB4 := Lib.hid (HB.out.trans ((G3.out.mono (show w1.heap.size ≤ wr.heap.size by omega)).trans (hb4.mono (show w1.heap.size ≤ w1.heap.size + 2 by omega))))
                    have m4 : w1.heap.size + 1 < w4.heap.size := Nat.lt_of_lt_of_le n3 hb4.size
                    clear hS ho4 hb4
                    go_wp2
                    refine ⟨.inr (.inr ⟨rfl, A4, cap4, ?_, ?_, ?_, ?_, hbx.out, ?_, ?_⟩), by simp [intOf]⟩
                    · simp [go_sem, c40, c4, f4]
                    · simp [go_sem, c40, c4, f4]
                    · simp [go_sem, c40, c4, f4]
                    · exact OwnM.more (OwnM.set_ HO4.out (by simp) _) (by simp [World.setCell]) (Nat.le_refl _)
                    · exact Below.setCell HB4.out (by simp) _
                    · simp [World.setCell]; exact m4
                  exact AllReadyH.nil
                exact AllReadyH.nil
              exact AllReadyH.nil
            exact AllReadyH.nil
          exact AllReadyH.nil
        exact AllReadyH.nil
      refine AllReadyH.cons (o := _) rfl (fun K hK => ?_) ?_
      · (go_simp; go_at_call 106; refine (stepTo_any a b c 119 100 _ (.inr rfl) (.inl rfl) HR.out).mono ?_; rintro e w2 ⟨rfl, hq⟩; have G2 := Lib.hid (bel_trans ((bel_alloc (Below.refl _ wr) _).drew) hq); have m2 : wr.heap.size < w2.heap.size := (Nat.lt_of_lt_of_le (by simp) hq.size); have n2 : w1.heap.size + 1 < w2.heap.size := (by omega); have c2 := (G2.out.cell (p := ⟨w1.heap.size + 1, 1, none⟩) hlt).trans k1)
        refine hK.out _ _ ?_ (fun hHeld => ?_)
        · (try dsimp only); first | assumption | exact soc_start HX.out k4 | exact soc_below (by assumption) hq (by simp; omega) (by simp) | exact soc_below (by assumption) hr (by omega) m2 | exact soc_below (by assumption) (bel_alloc (Below.refl _ _) _) (by first | omega | (simp; omega)) (by first | omega | (simp; omega)) | exact soc_blk (by assumption) (hk2 _ (by omega) (.inl (by omega))) (hk2 _ (by omega) (.inr (by omega))) | exact soc_set (by assumption) _ _ _ (by omega) (by omega)
        clear hK K
        try simp only [Act.put, List.setIfInBounds_toArray, List.set_cons_zero, List.set_cons_succ]
        refine wpAnyH_ready (rs := [1, 9]) (by kernel_rfl) (by simp) ?_
        refine AllReadyH.cons (o := _) rfl (fun K hK => ?_) ?_
        · (go_simp)
          refine hK.out _ _ ?_ (fun hHeld => ?_)
          · (try dsimp only); first | assumption | exact soc_start HX.out k4 | exact soc_below (by assumption) hq (by simp; omega) (by simp) | exact soc_below (by assumption) hr (by omega) m2 | exact soc_below (by assumption) (bel_alloc (Below.refl _ _) _) (by first | omega | (simp; omega)) (by first | omega | (simp; omega)) | exact soc_blk (by assumption) (hk2 _ (by omega) (.inl (by omega))) (hk2 _ (by omega) (.inr (by omega))) | exact soc_set (by assumption) _ _ _ (by omega) (by omega)
          clear hK K
          try simp only [Act.put, List.setIfInBounds_toArray, List.set_cons_zero, List.set_cons_succ]
          refine wpAnyH_ready (rs := [9]) (by kernel_rfl) (by simp) ?_
          refine AllReadyH.cons (o := _) rfl (fun K hK => ?_) ?_
          · (go_simp; go_at_call 106; refine (stepTo_any a b c 119 119 _ (.inr rfl) (.inr rfl) HR.out).mono ?_; rintro e w3 ⟨rfl, hr⟩; have G3 := Lib.hid (bel_trans G2.out hr); have m3 : wr.heap.size < w3.heap.size := (Nat.lt_of_lt_of_le m2 hr.size); have n3 : w1.heap.size + 1 < w3.heap.size := (by omega); have c3 := (G3.out.cell (p := ⟨w1.heap.size + 1, 1, none⟩) hlt).trans k1; have c3a : ∀ o, (w3.alloc o).cell? ⟨w1.heap.size + 1, 1, none⟩ = some (.slice A 1 cap) := (fun o => ((bel_alloc (Below.refl _ w3) o).cell (p := ⟨w1.heap.size + 1, 1, none⟩) n3).trans c3); have c3b : ∀ o o', ((w3.alloc o).alloc o').cell? ⟨w1.heap.size + 1, 1, none⟩ = some (.slice A 1 cap) := (fun o o' => ((bel_alloc (bel_alloc (Below.refl _ w3) o) o').cell (p := ⟨w1.heap.size + 1, 1, none⟩) n3).trans c3); have f3 := ((bcell G3.out).2 (w1.heap.size + 1) 1 hlt).trans kf)
            refine hK.out _ _ ?_ (fun hHeld => ?_)
            · (try dsimp only); first | assumption | exact soc_start HX.out k4 | exact soc_below (by assumption) hq (by simp; omega) (by simp) | exact soc_below (by assumption) hr (by omega) m2 | exact soc_below (by assumption) (bel_alloc (Below.refl _ _) _) (by first | omega | (simp; omega)) (by first | omega | (simp; omega)) | exact soc_blk (by assumption) (hk2 _ (by omega) (.inl (by omega))) (hk2 _ (by omega) (.inr (by omega))) | exact soc_set (by assumption) _ _ _ (by omega) (by omega)
            clear hK K
            try simp only [Act.put, List.setIfInBounds_toArray, List.set_cons_zero, List.set_cons_succ]
            refine wpAnyH_ready (rs := [10]) (by kernel_rfl) (by simp) ?_
            refine AllReadyH.cons (o := _) rfl (fun K hK => ?_) ?_
            · (go_simp)
              refine hK.out _ _ ?_ (fun hHeld => ?_)
              · (try dsimp only); first | assumption | exact soc_start HX.out k4 | exact soc_below (by assumption) hq (by simp; omega) (by simp) | exact soc_below (by assumption) hr (by omega) m2 | exact soc_below (by assumption) (bel_alloc (Below.refl _ _) _) (by first | omega | (simp; omega)) (by first | omega | (simp; omega)) | exact soc_blk (by assumption) (hk2 _ (by omega) (.inl (by omega))) (hk2 _ (by omega) (.inr (by omega))) | exact soc_set (by assumption) _ _ _ (by omega) (by omega)
              clear hK K
              try simp only [Act.put, List.setIfInBounds_toArray, List.set_cons_zero, List.set_cons_succ]
              refine wpAnyH_ready (rs := [11]) (by kernel_rfl) (by simp) ?_
              refine AllReadyH.cons (o := _) rfl (fun K hK => ?_) ?_
              · (go_simp)
                refine hK.out _ _ ?_ (fun hHeld => ?_)
                · (try dsimp only); first | assumption | exact soc_start HX.out k4 | exact soc_below (by assumption) hq (by simp; omega) (by simp) | exact soc_below (by assumption) hr (by omega) m2 | exact soc_below (by assumption) (bel_alloc (Below.refl _ _) _) (by first | omega | (simp; omega)) (by first | omega | (simp; omega)) | exact soc_blk (by assumption) (hk2 _ (by omega) (.inl (by omega))) (hk2 _ (by omega) (.inr (by omega))) | exact soc_set (by assumption) _ _ _ (by omega) (by omega)
                clear hK K
                try simp only [Act.put, List.setIfInBounds_toArray, List.set_cons_zero, List.set_cons_succ]
                refine wpAnyH_ready (rs := [12]) (by kernel_rfl) (by simp) ?_
                refine AllReadyH.cons (o := _) rfl (fun K hK => ?_) ?_
                · (refine step_pushRow rfl (.tmp 25) (.tmp 35) rfl (w1.heap.size + 2) wr.heap.size (.slice A 1 cap) ((rowsS a b c).take 1) (HO.out.below G3.out (Nat.le_refl _)) (by omega) (by simp [rowsS]) (stp a b c 119 100) (stp a b c 119 119) w3.heap.size (w3.heap.size + 1) rfl rfl (by simp [Act.eval, Act.put]) (by simp [Act.eval, Act.put]) ?_; intro v4 w4 ho4 hb4 hk4 hk2; rw [rows_step1] at ho4; obtain ⟨A4, cap4, hv4⟩ := form1 ho4; subst hv4; have c4 := ((blk (hk4 (w1.heap.size + 1) (by omega) (.inl (by omega)))).1 1).trans c3; have c40 := ((blk (hk4 (w1.heap.size + 1) (by omega) (.inl (by omega)))).1 0).trans ((G3.out.cell (p := ⟨w1.heap.size + 1, 0, none⟩) hlt).trans k0); have f4 := ((blk (hk4 (w1.heap.size + 1) (by omega) (.inl (by omega)))).2 1).trans f3)
                  refine hK.out _ _ ?_ (fun hHeld => ?_)
                  · (try dsimp only); first | assumption | exact soc_start HX.out k4 | exact soc_below (by assumption) hq (by simp; omega) (by simp) | exact soc_below (by assumption) hr (by omega) m2 | exact soc_below (by assumption) (bel_alloc (Below.refl _ _) _) (by first | omega | (simp; omega)) (by first | omega | (simp; omega)) | exact soc_blk (by assumption) (hk2 _ (by omega) (.inl (by omega))) (hk2 _ (by omega) (.inr (by omega))) | exact soc_set (by assumption) _ _ _ (by omega) (by omega)
                  clear hK K
                  try simp only [Act.put, List.setIfInBounds_toArray, List.set_cons_zero, List.set_cons_succ]
                  refine wpAnyH_take (i := 13) (oi := _) (v := ?v1_13_9) rfl (by kernel_rfl) (by kernel_rfl) (by kernel_rfl) (fun _ _ _ h => h) (Or.inl ⟨by rfl, ?y1_13_9⟩) (by assumption) ?r1_13_9
                  case y1_13_9 => (intro w hSw; (try dsimp only at hSw); go_simp; try with_reducible rfl)
                  try simp only [Act.put, List.setIfInBounds_toArray, List.set_cons_zero, List.set_cons_succ]
                  refine wpAnyH_ready (rs := [14]) (by kernel_rfl) (by simp) ?_
                  refine AllReadyH.cons (o := _) rfl (fun K hK => ?_) ?_
                  · (go_simp)
                    refine hK.out _ _ ?_ (fun hHeld => ?_)
                    · (try dsimp only); first | assumption | exact soc_start HX.out k4 | exact soc_below (by assumption) hq (by simp; omega) (by simp) | exact soc_below (by assumption) hr (by omega) m2 | exact soc_below (by assumption) (bel_alloc (Below.refl _ _) _) (by first | omega | (simp; omega)) (by first | omega | (simp; omega)) | exact soc_blk (by assumption) (hk2 _ (by omega) (.inl (by omega))) (hk2 _ (by omega) (.inr (by omega))) | exact soc_set (by assumption) _ _ _ (by omega) (by omega)
                    clear hK K
                    try simp only [Act.put, List.setIfInBounds_toArray, List.set_cons_zero, List.set_cons_succ]
                    refine wpAnyH_done (by kernel_rfl) ?_ _
                    have hS := (by assumption : (w4.setCell ⟨w1.heap.size + 1, 1, none⟩ (.slice A4 2 cap4)).cell? ⟨w1.heap.size, 0, none⟩ = some (.int .i64 a) ∧ (w4.setCell ⟨w1.heap.size + 1, 1, none⟩ (.slice A4 2 cap4)).cell? ⟨w1.heap.size, 1, none⟩ = some (.int .i64 b) ∧ (w4.setCell ⟨w1.heap.size + 1, 1, none⟩ (.slice A4 2 cap4)).cell? ⟨w1.heap.size, 2, none⟩ = some (.int .i64 c) ∧ (w4.setCell ⟨w1.heap.size + 1, 1, none⟩ (.slice A4 2 cap4)).cell? ⟨w1.heap.size, 3, none⟩ = some (.int .u8 100) ∧ (w4.setCell ⟨w1.heap.size + 1, 1, none⟩ (.slice A4 2 cap4)).cell? ⟨w1.heap.size, 4, none⟩ = some (.int .i64 a) ∧ (w4.setCell ⟨w1.heap.size + 1, 1, none⟩ (.slice A4 2 cap4)).cell? ⟨w1.heap.size, 5, none⟩ = some (.int .i64 b) ∧ (w4.setCell ⟨w1.heap.size + 1, 1, none⟩ (.slice A4 2 cap4)).cell? ⟨w1.heap.size, 6, none⟩ = some (.int .i64 c) ∧ (w4.setCell ⟨w1.heap.size + 1, 1, none⟩ (.slice A4 2 cap4)).cell? ⟨w1.heap.size, 7, none⟩ = some (.int .u8 119) ∧ (w4.setCell ⟨w1.heap.size + 1, 1, none⟩ (.slice A4 2 cap4)).cell? ⟨wr.heap.size, 0, none⟩ = some (.int .i64 a) ∧ (w4.setCell ⟨w1.heap.size + 1, 1, none⟩ (.slice A4 2 cap4)).cell? ⟨wr.heap.size, 1, none⟩ = some (.int .i64 b) ∧ (w4.setCell ⟨w1.heap.size + 1, 1, none⟩ (.slice A4 2 cap4)).cell? ⟨wr.heap.size, 2, none⟩ = some (.int .i64 c) ∧ (w4.setCell ⟨w1.heap.size + 1, 1, none⟩ (.slice A4 2 cap4)).cell? ⟨wr.heap.size, 3, none⟩ = some (.int .u8 119))
                    have hbx := Lib.hid (soc_box hS)
                    have HO4 := Lib.hid ho4
                    have HB4 := Lib.hid (HB.out.trans ((G3.out.mono (show w1.heap.size ≤ wr.heap.size by omega)).trans (hb4.mono (show w1.heap.size ≤ w1.heap.size + 2 by omega))))
                    have m4 : w1.heap.size + 1 < w4.heap.size := Nat.lt_of_lt_of_le n3 hb4.size
                    clear hS ho4 hb4
                    go_wp2
                    refine ⟨.inr (.inr ⟨rfl, A4, cap4, ?_, ?_, ?_, ?_, hbx.out, ?_, ?_⟩), by simp [intOf]⟩
                    · simp [go_sem, c40, c4, f4]
                    · simp [go_sem, c40, c4, f4]
                    · simp [go_sem, c40, c4, f4]
                    · exact OwnM.more (OwnM.set_ HO4.out (by simp) _) (by simp [World.setCell]) (Nat.le_refl _)
                    · exact Below.setCell HB4.out (by simp) _
                    · simp [World.setCell]; exact m4
                  exact AllReadyH.nil
                exact AllReadyH.nil
              exact AllReadyH.nil
            exact AllReadyH.nil
          exact AllReadyH.nil
        refine AllReadyH.cons (o := _) rfl (fun K hK => ?_) ?_
        · (go_simp; go_at_call 106; refine (stepTo_any a b c 119 119 _ (.inr rfl) (.inr rfl) HR.out).mono ?_; rintro e w3 ⟨rfl, hr⟩; have G3 := Lib.hid (bel_trans G2.out hr); have m3 : wr.heap.size < w3.heap.size := (Nat.lt_of_lt_of_le m2 hr.size); have n3 : w1.heap.size + 1 < w3.heap.size := (by omega); have c3 := (G3.out.cell (p := ⟨w1.heap.size + 1, 1, none⟩) hlt).trans k1; have c3a : ∀ o, (w3.alloc o).cell? ⟨w1.heap.size + 1, 1, none⟩ = some (.slice A 1 cap) := (fun o => ((bel_alloc (Below.refl _ w3) o).cell (p := ⟨w1.heap.size + 1, 1, none⟩) n3).trans c3); have c3b : ∀ o o', ((w3.alloc o).alloc o').cell? ⟨w1.heap.size + 1, 1, none⟩ = some (.slice A 1 cap) := (fun o o' => ((bel_alloc (bel_alloc (Below.refl _ w3) o) o').cell (p := ⟨w1.heap.size + 1, 1, none⟩) n3).trans c3); have f3 := ((bcell G3.out).2 (w1.heap.size + 1) 1 hlt).trans kf)
          refine hK.out _ _ ?_ (fun hHeld => ?_)
          · (try dsimp only); first | assumption | exact soc_start HX.out k4 | exact soc_below (by assumption) hq (by simp; omega) (by simp) | exact soc_below (by assumption) hr (by omega) m2 | exact soc_below (by assumption) (bel_alloc (Below.refl _ _) _) (by first | omega | (simp; omega)) (by first | omega | (simp; omega)) | exact soc_blk (by assumption) (hk2 _ (by omega) (.inl (by omega))) (hk2 _ (by omega) (.inr (by omega))) | exact soc_set (by assumption) _ _ _ (by omega) (by omega)
          clear hK K
          try simp only [Act.put, List.setIfInBounds_toArray, List.set_cons_zero, List.set_cons_succ]
          refine wpAnyH_ready (rs := [1, 10]) (by kernel_rfl) (by simp) ?_
          refine AllReadyH.cons (o := _) rfl (fun K hK => ?_) ?_
          · (go_simp)
            refine hK.out _ _ ?_ (fun hHeld => ?_)
            · (try dsimp only); first | assumption | exact soc_start HX.out k4 | exact soc_below (by assumption) hq (by simp; omega) (by simp) | exact soc_below (by assumption) hr (by omega) m2 | exact soc_below (by assumption) (bel_alloc (Below.refl _ _) _) (by first | omega | (simp; omega)) (by first | omega | (simp; omega)) | exact soc_blk (by assumption) (hk2 _ (by omega) (.inl (by omega))) (hk2 _ (by omega) (.inr (by omega))) | exact soc_set (by assumption) _ _ _ (by omega) (by omega)
            clear hK K
            try simp only [Act.put, List.setIfInBounds_toArray, List.set_cons_zero, List.set_cons_succ]
            refine wpAnyH_ready (rs := [10]) (by kernel_rfl) (by simp) ?_
            refine AllReadyH.cons (o := _) rfl (fun K hK => ?_) ?_
            · (go_simp)
              refine hK.out _ _ ?_ (fun hHeld => ?_)
              · (try dsimp only); first | assumption | exact soc_start HX.out k4 | exact soc_below (by assumption) hq (by simp; omega) (by simp) | exact soc_below (by assumption) hr (by omega) m2 | exact soc_below (by assumption) (bel_alloc (Below.refl _ _) _) (by first | omega | (simp; omega)) (by first | omega | (simp; omega)) | exact soc_blk (by assumption) (hk2 _ (by omega) (.inl (by omega))) (hk2 _ (by omega) (.inr (by omega))) | exact soc_set (by assumption) _ _ _ (by omega) (by omega)
              clear hK K
              try simp only [Act.put, List.setIfInBounds_toArray, List.set_cons_zero, List.set_cons_succ]
              refine wpAnyH_ready (rs := [11]) (by kernel_rfl) (by simp) ?_
              refine AllReadyH.cons (o := _) rfl (fun K hK => ?_) ?_
              · (go_simp)
                refine hK.out _ _ ?_ (fun hHeld => ?_)
                · (try dsimp only); first | assumption | exact soc_start HX.out k4 | exact soc_below (by assumption) hq (by simp; omega) (by simp) | exact soc_below (by assumption) hr (by omega) m2 | exact soc_below (by assumption) (bel_alloc (Below.refl _ _) _) (by first | omega | (simp; omega)) (by first | omega | (simp; omega)) | exact soc_blk (by assumption) (hk2 _ (by omega) (.inl (by omega))) (hk2 _ (by omega) (.inr (by omega))) | exact soc_set (by assumption) _ _ _ (by omega) (by omega)
                clear hK K
                try simp only [Act.put, List.setIfInBounds_toArray, List.set_cons_zero, List.set_cons_succ]
                refine wpAnyH_ready (rs := [12]) (by kernel_rfl) (by simp) ?_
                refine AllReadyH.cons (o := _) rfl (fun K hK => ?_) ?_
                · (refine step_pushRow rfl (.tmp 25) (.tmp 35) rfl (w1.heap.size + 2) wr.heap.size (.slice A 1 cap) ((rowsS a b c).take 1) (HO.out.below G3.out (Nat.le_refl _)) (by omega) (by simp [rowsS]) (stp a b c 119 100) (stp a b c 119 119) w3.heap.size (w3.heap.size + 1) rfl rfl (by simp [Act.eval, Act.put]) (by simp [Act.eval, Act.put]) ?_; intro v4 w4 ho4 hb4 hk4 hk2; rw [rows_step1] at ho4; obtain ⟨A4, cap4, hv4⟩ := form1 ho4; subst hv4; have c4 := ((blk (hk4 (w1.heap.size + 1) (by omega) (.inl (by omega)))).1 1).trans c3; have c40 := ((blk (hk4 (w1.heap.size + 1) (by omega) (.inl (by omega)))).1 0).trans ((G3.out.cell (p := ⟨w1.heap.size + 1, 0, none⟩) hlt).trans k0); have f4 := ((blk (hk4 (w1.heap.size + 1) (by omega) (.inl (by omega)))).2 1).trans f3)
                  refine hK.out _ _ ?_ (fun hHeld => ?_)
                  · (try dsimp only); first | assumption | exact soc_start HX.out k4 | exact soc_below (by assumption) hq (by simp; omega) (by simp) | exact soc_below (by assumption) hr (by omega) m2 | exact soc_below (by assumption) (bel_alloc (Below.refl _ _) _) (by first | omega | (simp; omega)) (by first | omega | (simp; omega)) | exact soc_blk (by assumption) (hk2 _ (by omega) (.inl (by omega))) (hk2 _ (by omega) (.inr (by omega))) | exact soc_set (by assumption) _ _ _ (by omega) (by omega)
                  clear hK K
                  try simp only [Act.put, List.setIfInBounds_toArray, List.set_cons_zero, List.set_cons_succ]
                  refine wpAnyH_take (i := 13) (oi := _) (v := ?v1_13_10) rfl (by kernel_rfl) (by kernel_rfl) (by kernel_rfl) (fun _ _ _ h => h) (Or.inl ⟨by rfl, ?y1_13_10⟩) (by assumption) ?r1_13_10
                  case y1_13_10 => (intro w hSw; (try dsimp only at hSw); go_simp; try with_reducible rfl)
                  try simp only [Act.put, List.setIfInBounds_toArray, List.set_cons_zero, List.set_cons_succ]
                  refine wpAnyH_ready (rs := [14]) (by kernel_rfl) (by simp) ?_
                  refine AllReadyH.cons (o := _) rfl (fun K hK => ?_) ?_
                  · (go_simp)
                    refine hK.out _ _ ?_ (fun hHeld => ?_)
                    · (try dsimp only); first | assumption | exact soc_start HX.out k4 | exact soc_below (by assumption) hq (by simp; omega) (by simp) | exact soc_below (by assumption) hr (by omega) m2 | exact soc_below (by assumption) (bel_alloc (Below.refl _ _) _) (by first | omega | (simp; omega)) (by first | omega | (simp; omega)) | exact soc_blk (by assumption) (hk2 _ (by omega) (.inl (by omega))) (hk2 _ (by omega) (.inr (by omega))) | exact soc_set (by assumption) _ _ _ (by omega) (by omega)
                    clear hK K
                    try simp only [Act.put, List.setIfInBounds_toArray, List.set_cons_zero, List.set_cons_succ]
                    refine wpAnyH_done (by kernel_rfl) ?_ _
                    have hS := (by assumption : (w4.setCell ⟨w1.heap.size + 1, 1, none⟩ (.slice A4 2 cap4)).cell? ⟨w1.heap.size, 0, none⟩ = some (.int .i64 a) ∧ (w4.setCell ⟨w1.heap.size + 1, 1, none⟩ (.slice A4 2 cap4)).cell? ⟨w1.heap.size, 1, none⟩ = some (.int .i64 b) ∧ (w4.setCell ⟨w1.heap.size + 1, 1, none⟩ (.slice A4 2 cap4)).cell? ⟨w1.heap.size, 2, none⟩ = some (.int .i64 c) ∧ (w4.setCell ⟨w1.heap.size + 1, 1, none⟩ (.slice A4 2 cap4)).cell? ⟨w1.heap.size, 3, none⟩ = some (.int .u8 100) ∧ (w4.setCell ⟨w1.heap.size + 1, 1, none⟩ (.slice A4 2 cap4)).cell? ⟨w1.heap.size, 4, none⟩ = some (.int .i64 a) ∧ (w4.setCell ⟨w1.heap.size + 1, 1, none⟩ (.slice A4 2 cap4)).cell? ⟨w1.heap.size, 5, none⟩ = some (.int .i64 b) ∧ (w4.setCell ⟨w1.heap.size + 1, 1, none⟩ (.slice A4 2 cap4)).cell? ⟨w1.heap.size, 6, none⟩ = some (.int .i64 c) ∧ (w4.setCell ⟨w1.heap.size + 1, 1, none⟩ (.slice A4 2 cap4)).cell? ⟨w1.heap.size, 7, none⟩ = some (.int .u8 119) ∧ (w4.setCell ⟨w1.heap.size + 1, 1, none⟩ (.slice A4 2 cap4)).cell? ⟨wr.heap.size, 0, none⟩ = some (.int .i64 a) ∧ (w4.setCell ⟨w1.heap.size + 1, 1, none⟩ (.slice A4 2 cap4)).cell? ⟨wr.heap.size, 1, none⟩ = some (.int .i64 b) ∧ (w4.setCell ⟨w1.heap.size + 1, 1, none⟩ (.slice A4 2 cap4)).cell? ⟨wr.heap.size, 2, none⟩ = some (.int .i64 c) ∧ (w4.setCell ⟨w1.heap.size + 1, 1, none⟩ (.slice A4 2 cap4)).cell? ⟨wr.heap.size, 3, none⟩ = some (.int .u8 119))
                    have hbx := Lib.hid (soc_box hS)
                    have HO4 := Lib.hid ho4
                    have HB4 := Lib.hid (HB.out.trans ((G3.out.mono (show w1.heap.size ≤ wr.heap.size by omega)).trans (hb4.mono (show w1.heap.size ≤ w1.heap.size + 2 by omega))))
                    have m4 : w1.heap.size + 1 < w4.heap.size := Nat.lt_of_lt_of_le n3 hb4.size
                    clear hS ho4 hb4
                    go_wp2
                    refine ⟨.inr (.inr ⟨rfl, A4, cap4, ?_, ?_, ?_, ?_, hbx.out, ?_, ?_⟩), by simp [intOf]⟩
                    · simp [go_sem, c40, c4, f4]
                    · simp [go_sem, c40, c4, f4]
                    · simp [go_sem, c40, c4, f4]
                    · exact OwnM.more (OwnM.set_ HO4.out (by simp) _) (by simp [World.setCell]) (Nat.le_refl _)
                    · exact Below.setCell HB4.out (by simp) _
                    · simp [World.setCell]; exact m4
                  exact AllReadyH.nil
                exact AllReadyH.nil
              exact AllReadyH.nil
            exact AllReadyH.nil
          refine AllReadyH.cons (o := _) rfl (fun K hK => ?_) ?_
          · (go_simp)
            refine hK.out _ _ ?_ (fun hHeld => ?_)
            · (try dsimp only); first | assumption | exact soc_start HX.out k4 | exact soc_below (by assumption) hq (by simp; omega) (by simp) | exact soc_below (by assumption) hr (by omega) m2 | exact soc_below (by assumption) (bel_alloc (Below.refl _ _) _) (by first | omega | (simp; omega)) (by first | omega | (simp; omega)) | exact soc_blk (by assumption) (hk2 _ (by omega) (.inl (by omega))) (hk2 _ (by omega) (.inr (by omega))) | exact soc_set (by assumption) _ _ _ (by omega) (by omega)
            clear hK K
            try simp only [Act.put, List.setIfInBounds_toArray, List.set_cons_zero, List.set_cons_succ]
            refine wpAnyH_ready (rs := [1, 11]) (by kernel_rfl) (by simp) ?_
            refine AllReadyH.cons (o := _) rfl (fun K hK => ?_) ?_
            · (go_simp)
              refine hK.out _ _ ?_ (fun hHeld => ?_)
              · (try dsimp only); first | assumption | exact soc_start HX.out k4 | exact soc_below (by assumption) hq (by simp; omega) (by simp) | exact soc_below (by assumption) hr (by omega) m2 | exact soc_below (by assumption) (bel_alloc (Below.refl _ _) _) (by first | omega | (simp; omega)) (by first | omega | (simp; omega)) | exact soc_blk (by assumption) (hk2 _ (by omega) (.inl (by omega))) (hk2 _ (by omega) (.inr (by omega))) | exact soc_set (by assumption) _ _ _ (by omega) (by omega)
              clear hK K
              try simp only [Act.put, List.setIfInBounds_toArray, List.set_cons_zero, List.set_cons_succ]
              refine wpAnyH_ready (rs := [11]) (by kernel_rfl) (by simp) ?_
              refine AllReadyH.cons (o := _) rfl (fun K hK => ?_) ?_
              · (go_simp)
                refine hK.out _ _ ?_ (fun hHeld => ?_)
                · (try dsimp only); first | assumption | exact soc_start HX.out k4 | exact soc_below (by assumption) hq (by simp; omega) (by simp) | exact soc_below (by assumption) hr (by omega) m2 | exact soc_below (by assumption) (bel_alloc (Below.refl _ _) _) (by first | omega | (simp; omega)) (by first | omega | (simp; omega)) | exact soc_blk (by assumption) (hk2 _ (by omega) (.inl (by omega))) (hk2 _ (by omega) (.inr (by omega))) | exact soc_set (by assumption) _ _ _ (by omega) (by omega)
                clear hK K
                try simp only [Act.put, List.setIfInBounds_toArray, List.set_cons_zero, List.set_cons_succ]
                refine wpAnyH_ready (rs := [12]) (by kernel_rfl) (by simp) ?_
                refine AllReadyH.cons (o := _) rfl (fun K hK => ?_) ?_
                · (refine step_pushRow rfl (.tmp 25) (.tmp 35) rfl (w1.heap.size + 2) wr.heap.size (.slice A 1 cap) ((rowsS a b c).take 1) (HO.out.below G3.out (Nat.le_refl _)) (by omega) (by simp [rowsS]) (stp a b c 119 100) (stp a b c 119 119) w3.heap.size (w3.heap.size + 1) rfl rfl (by simp [Act.eval, Act.put]) (by simp [Act.eval, Act.put]) ?_; intro v4 w4 ho4 hb4 hk4 hk2; rw [rows_step1] at ho4; obtain ⟨A4, cap4, hv4⟩ := form1 ho4; subst hv4; have c4 := ((blk (hk4 (w1.heap.size + 1) (by omega) (.inl (by omega)))).1 1).trans c3; have c40 := ((blk (hk4 (w1.heap.size + 1) (by omega) (.inl (by omega)))).1 0).trans ((G3.out.cell (p := ⟨w1.heap.size + 1, 0, none⟩) hlt).trans k0); have f4 := ((blk (hk4 (w1.heap.size + 1) (by omega) (.inl (by omega)))).2 1).trans f3)
                  refine hK.out _ _ ?_ (fun hHeld => ?_)
                  · (try dsimp only); first | assumption | exact soc_start HX.out k4 | exact soc_below (by assumption) hq (by simp; omega) (by simp) | exact soc_below (by assumption) hr (by omega) m2 | exact soc_below (by assumption) (bel_alloc (Below.refl _ _) _) (by first | omega | (simp; omega)) (by first | omega | (simp; omega)) | exact soc_blk (by assumption) (hk2 _ (by omega) (.inl (by omega))) (hk2 _ (by omega) (.inr (by omega))) | exact soc_set (by assumption) _ _ _ (by omega) (by omega)
                  clear hK K
                  try simp only [Act.put, List.setIfInBounds_toArray, List.set_cons_zero, List.set_cons_succ]
                  refine wpAnyH_take (i := 13) (oi := _) (v := ?v1_13_11) rfl (by kernel_rfl) (by kernel_rfl) (by kernel_rfl) (fun _ _ _ h => h) (Or.inl ⟨by rfl, ?y1_13_11⟩) (by assumption) ?r1_13_11
                  case y1_13_11 => (intro w hSw; (try dsimp only at hSw); go_simp; try with_reducible rfl)
                  try simp only [Act.put, List.setIfInBounds_toArray, List.set_cons_zero, List.set_cons_succ]
                  refine wpAnyH_ready (rs := [14]) (by kernel_rfl) (by simp) ?_
                  refine AllReadyH.cons (o := _) rfl (fun K hK => ?_) ?_
                  · (go_simp)
                    refine hK.out _ _ ?_ (fun hHeld => ?_)
                    · (try dsimp only); first | assumption | exact soc_start HX.out k4 | exact soc_below (by assumption) hq (by simp; omega) (by simp) | exact soc_below (by assumption) hr (by omega) m2 | exact soc_below (by assumption) (bel_alloc (Below.refl _ _) _) (by first | omega | (simp; omega)) (by first | omega | (simp; omega)) | exact soc_blk (by assumption) (hk2 _ (by omega) (.inl (by omega))) (hk2 _ (by omega) (.inr (by omega))) | exact soc_set (by assumption) _ _ _ (by omega) (by omega)
                    clear hK K
                    try simp only [Act.put, List.setIfInBounds_toArray, List.set_cons_zero, List.set_cons_succ]
                    refine wpAnyH_done (by kernel_rfl) ?_ _
                    have hS := (by assumption : (w4.setCell ⟨w1.heap.size + 1, 1, none⟩ (.slice A4 2 cap4)).cell? ⟨w1.heap.size, 0, none⟩ = some (.int .i64 a) ∧ (w4.setCell ⟨w1.heap.size + 1, 1, none⟩ (.slice A4 2 cap4)).cell? ⟨w1.heap.size, 1, none⟩ = some (.int .i64 b) ∧ (w4.setCell ⟨w1.heap.size + 1, 1, none⟩ (.slice A4 2 cap4)).cell? ⟨w1.heap.size, 2, none⟩ = some (.int .i64 c) ∧ (w4.setCell ⟨w1.heap.size + 1, 1, none⟩ (.slice A4 2 cap4)).cell? ⟨w1.heap.size, 3, none⟩ = some (.int .u8 100) ∧ (w4.setCell ⟨w1.heap.size + 1, 1, none⟩ (.slice A4 2 cap4)).cell? ⟨w1.heap.size, 4, none⟩ = some (.int .i64 a) ∧ (w4.setCell ⟨w1.heap.size + 1, 1, none⟩ (.slice A4 2 cap4)).cell? ⟨w1.heap.size, 5, none⟩ = some (.int .i64 b) ∧ (w4.setCell ⟨w1.heap.size + 1, 1, none⟩ (.slice A4 2 cap4)).cell? ⟨w1.heap.size, 6, none⟩ = some (.int .i64 c) ∧ (w4.setCell ⟨w1.heap.size + 1, 1, none⟩ (.slice A4 2 cap4)).cell? ⟨w1.heap.size, 7, none⟩ = some (.int .u8 119) ∧ (w4.setCell ⟨w1.heap.size + 1, 1, none⟩ (.slice A4 2 cap4)).cell? ⟨wr.heap.size, 0, none⟩ = some (.int .i64 a) ∧ (w4.setCell ⟨w1.heap.size + 1, 1, none⟩ (.slice A4 2 cap4)).cell? ⟨wr.heap.size, 1, none⟩ = some (.int .i64 b) ∧ (w4.setCell ⟨w1.heap.size + 1, 1, none⟩ (.slice A4 2 cap4)).cell? ⟨wr.heap.size, 2, none⟩ = some (.int .i64 c) ∧ (w4.setCell ⟨w1.heap.size + 1, 1, none⟩ (.slice A4 2 cap4)).cell? ⟨wr.heap.size, 3, none⟩ = some (.int .u8 119))
                    have hbx := Lib.hid (soc_box hS)
                    have HO4 := Lib.hid ho4
                    have HB4 := Lib.hid (HB.out.trans ((G3.out.mono (show w1.heap.size ≤ wr.heap.size by omega)).trans (hb4.mono (show w1.heap.size ≤ w1.heap.size + 2 by omega))))
                    have m4 : w1.heap.size + 1 < w4.heap.size := Nat.lt_of_lt_of_le n3 hb4.size
                    clear hS ho4 hb4
                    go_wp2
                    refine ⟨.inr (.inr ⟨rfl, A4, cap4, ?_, ?_, ?_, ?_, hbx.out, ?_, ?_⟩), by simp [intOf]⟩
                    · simp [go_sem, c40, c4, f4]
                    · simp [go_sem, c40, c4, f4]
                    · simp [go_sem, c40, c4, f4]
                    · exact OwnM.more (OwnM.set_ HO4.out (by simp) _) (by simp [World.setCell]) (Nat.le_refl _)
                    · exact Below.setCell HB4.out (by simp) _
                    · simp [World.setCell]; exact m4
                  exact AllReadyH.nil
                exact AllReadyH.nil
              exact AllReadyH.nil
            refine AllReadyH.cons (o := _) rfl (fun K hK => ?_) ?_
            · (go_simp)
              refine hK.out _ _ ?_ (fun hHeld => ?_)
              · (try dsimp only); first | assumption | exact soc_start HX.out k4 | exact soc_below (by assumption) hq (by simp; omega) (by simp) | exact soc_below (by assumption) hr (by omega) m2 | exact soc_below (by assumption) (bel_alloc (Below.refl _ _) _) (by first | omega | (simp; omega)) (by first | omega | (simp; omega)) | exact soc_blk (by assumption) (hk2 _ (by omega) (.inl (by omega))) (hk2 _ (by omega) (.inr (by omega))) | exact soc_set (by assumption) _ _ _ (by omega) (by omega)
              clear hK K
              try simp only [Act.put, List.setIfInBounds_toArray, List.set_cons_zero, List.set_cons_succ]
              refine wpAnyH_ready (rs := [1]) (by kernel_rfl) (by simp) ?_
              refine AllReadyH.cons (o := _) rfl (fun K hK => ?_) ?_
              · (go_simp)
                refine hK.out _ _ ?_ (fun hHeld => ?_)
                · (try dsimp only); first | assumption | exact soc_start HX.out k4 | exact soc_below (by assumption) hq (by simp; omega) (by simp) | exact soc_below (by assumption) hr (by omega) m2 | exact soc_below (by assumption) (bel_alloc (Below.refl _ _) _) (by first | omega | (simp; omega)) (by first | omega | (simp; omega)) | exact soc_blk (by assumption) (hk2 _ (by omega) (.inl (by omega))) (hk2 _ (by omega) (.inr (by omega))) | exact soc_set (by assumption) _ _ _ (by omega) (by omega)
                clear hK K
                try simp only [Act.put, List.setIfInBounds_toArray, List.set_cons_zero, List.set_cons_succ]
                refine wpAnyH_ready (rs := [12]) (by kernel_rfl) (by simp) ?_
                refine AllReadyH.cons (o := _) rfl (fun K hK => ?_) ?_
                · (refine step_pushRow rfl (.tmp 25) (.tmp 35) rfl (w1.heap.size + 2) wr.heap.size (.slice A 1 cap) ((rowsS a b c).take 1) (HO.out.below G3.out (Nat.le_refl _)) (by omega) (by simp [rowsS]) (stp a b c 119 100) (stp a b c 119 119) w3.heap.size (w3.heap.size + 1) rfl rfl (by simp [Act.eval, Act.put]) (by simp [Act.eval, Act.put]) ?_; intro v4 w4 ho4 hb4 hk4 hk2; rw [rows_step1] at ho4; obtain ⟨A4, cap4, hv4⟩ := form1 ho4; subst hv4; have c4 := ((blk (hk4 (w1.heap.size + 1) (by omega) (.inl (by omega)))).1 1).trans c3; have c40 := ((blk (hk4 (w1.heap.size + 1) (by omega) (.inl (by omega)))).1 0).trans ((G3.out.cell (p := ⟨w1.heap.size + 1, 0, none⟩) hlt).trans k0); have f4 := ((blk (hk4 (w1.heap.size + 1) (by omega) (.inl (by omega)))).2 1).trans f3)
                  refine hK.out _ _ ?_ (fun hHeld => ?_)
                  · (try dsimp only); first | assumption | exact soc_start HX.out k4 | exact soc_below (by assumption) hq (by simp; omega) (by simp) | exact soc_below (by assumption) hr (by omega) m2 | exact soc_below (by assumption) (bel_alloc (Below.refl _ _) _) (by first | omega | (simp; omega)) (by first | omega | (simp; omega)) | exact soc_blk (by assumption) (hk2 _ (by omega) (.inl (by omega))) (hk2 _ (by omega) (.inr (by omega))) | exact soc_set (by assumption) _ _ _ (by omega) (by omega)
                  clear hK K
                  try simp only [Act.put, List.setIfInBounds_toArray, List.set_cons_zero, List.set_cons_succ]
                  refine wpAnyH_take (i := 13) (oi := _) (v := ?v1_13_12) rfl (by kernel_rfl) (by kernel_rfl) (by kernel_rfl) (fun _ _ _ h => h) (Or.inl ⟨by rfl, ?y1_13_12⟩) (by assumption) ?r1_13_12
                  case y1_13_12 => (intro w hSw; (try dsimp only at hSw); go_simp; try with_reducible rfl)
                  try simp only [Act.put, List.setIfInBounds_toArray, List.set_cons_zero, List.set_cons_succ]
                  refine wpAnyH_ready (rs := [14]) (by kernel_rfl) (by simp) ?_
                  refine AllReadyH.cons (o := _) rfl (fun K hK => ?_) ?_
                  · (go_simp)
                    refine hK.out _ _ ?_ (fun hHeld => ?_)
                    · (try dsimp only); first | assumption | exact soc_start HX.out k4 | exact soc_below (by assumption) hq (by simp; omega) (by simp) | exact soc_below (by assumption) hr (by omega) m2 | exact soc_below (by assumption) (bel_alloc (Below.refl _ _) _) (by first | omega | (simp; omega)) (by first | omega | (simp; omega)) | exact soc_blk (by assumption) (hk2 _ (by omega) (.inl (by omega))) (hk2 _ (by omega) (.inr (by omega))) | exact soc_set (by assumption) _ _ _ (by omega) (by omega)
                    clear hK K
                    try simp only [Act.put, List.setIfInBounds_toArray, List.set_cons_zero, List.set_cons_succ]
                    refine wpAnyH_done (by kernel_rfl) ?_ _
                    have hS := (by assumption : (w4.setCell ⟨w1.heap.size + 1, 1, none⟩ (.slice A4 2 cap4)).cell? ⟨w1.heap.size, 0, none⟩ = some (.int .i64 a) ∧ (w4.setCell ⟨w1.heap.size + 1, 1, none⟩ (.slice A4 2 cap4)).cell? ⟨w1.heap.size, 1, none⟩ = some (.int .i64 b) ∧ (w4.setCell ⟨w1.heap.size + 1, 1, none⟩ (.slice A4 2 cap4)).cell? ⟨w1.heap.size, 2, none⟩ = some (.int .i64 c) ∧ (w4.setCell ⟨w1.heap.size + 1, 1, none⟩ (.slice A4 2 cap4)).cell? ⟨w1.heap.size, 3, none⟩ = some (.int .u8 100) ∧ (w4.setCell ⟨w1.heap.size + 1, 1, none⟩ (.slice A4 2 cap4)).cell? ⟨w1.heap.size, 4, none⟩ = some (.int .i64 a) ∧ (w4.setCell ⟨w1.heap.size + 1, 1, none⟩ (.slice A4 2 cap4)).cell? ⟨w1.heap.size, 5, none⟩ = some (.int .i64 b) ∧ (w4.setCell ⟨w1.heap.size + 1, 1, none⟩ (.slice A4 2 cap4)).cell? ⟨w1.heap.size, 6, none⟩ = some (.int .i64 c) ∧ (w4.setCell ⟨w1.heap.size + 1, 1, none⟩ (.slice A4 2 cap4)).cell? ⟨w1.heap.size, 7, none⟩ = some (.int .u8 119) ∧ (w4.setCell ⟨w1.heap.size + 1, 1, none⟩ (.slice A4 2 cap4)).cell? ⟨wr.heap.size, 0, none⟩ = some (.int .i64 a) ∧ (w4.setCell ⟨w1.heap.size + 1, 1, none⟩ (.slice A4 2 cap4)).cell? ⟨wr.heap.size, 1, none⟩ = some (.int .i64 b) ∧ (w4.setCell ⟨w1.heap.size + 1, 1, none⟩ (.slice A4 2 cap4)).cell? ⟨wr.heap.size, 2, none⟩ = some (.int .i64 c) ∧ (w4.setCell ⟨w1.heap.size + 1, 1, none⟩ (.slice A4 2 cap4)).cell? ⟨wr.heap.size, 3, none⟩ = some (.int .u8 119))
                    have hbx := Lib.hid (soc_box hS)
                    have HO4 := Lib.hid ho4
                    have HB4 := Lib.hid (HB.out.trans ((G3.out.mono (show w1.heap.size ≤ wr.heap.size by omega)).trans (hb4.mono (show w1.heap.size ≤ w1.heap.size + 2 by omega))))
                    have m4 : w1.heap.size + 1 < w4.heap.size := Nat.lt_of_lt_of_le n3 hb4.size
                    clear hS ho4 hb4
                    go_wp2
                    refine ⟨.inr (.inr ⟨rfl, A4, cap4, ?_, ?_, ?_, ?_, hbx.out, ?_, ?_⟩), by simp [intOf]⟩
                    · simp [go_sem, c40, c4, f4]
                    · simp [go_sem, c40, c4, f4]
                    · simp [go_sem, c40, c4, f4]
                    · exact OwnM.more (OwnM.set_ HO4.out (by simp) _) (by simp [World.setCell]) (Nat.le_refl _)
                    · exact Below.setCell HB4.out (by simp) _
                    · simp [World.setCell]; exact m4
                  exact AllReadyH.nil
                exact AllReadyH.nil
              exact AllReadyH.nil
            exact AllReadyH.nil
          exact AllReadyH.nil
        exact AllReadyH.nil
      exact AllReadyH.nil
    · obtain ⟨A, cap, k0, k1, kf, ho, hbox, hb, hlt⟩ := hF
      have HO := Lib.hid ho
      have HB := Lib.hid hb
      clear ho hbox hb
      have r0 := ((bcell HB.out).1 _ _ n5).trans r0.out
      have r1 := ((bcell HB.out).1 _ _ n5).trans r1.out
      have f0 := ((bcell HB.out).2 _ _ n5).trans f0.out
      have f1 := ((bcell HB.out).2 _ _ n5).trans f1.out
      go_wp2
      have q : OwnM wr (w1.heap.size + 2) wr.heap.size (.slice A 2 cap) (rowsS a b c) := HO.out
      refine bodyPost_ret (v := .tuple #[sts c (.slice A 2 cap), .bool true]) (by simp [results, Try.results66, go_sem, r0, r1, f0, f1]) rfl ⟨_, rfl, ?_, ?_⟩
      · refine OwnM.low (lo := w1.heap.size + 2) ?_ (by omega)
        refine OwnM.more (OwnM.set_ (OwnM.set_ q (by first | (dsimp only; omega) | (simp; omega)) _) (by first | (dsimp only; omega) | (simp; omega)) _) (by simp [World.setCell]) (Nat.le_refl _)
      · refine Below.setCell ?_ (by first | (dsimp only; omega) | simp) _
        refine Below.setCell ?_ (by first | (dsimp only; omega) | simp) _
        exact bel_trans hbl.out HB.out
theorem implSoc_any (a b c : Int) (w : World) :
    Calls Try.prog 66 #[chn a b c] w fun e w' => ∃ v, e = .returned (.tuple #[sts (lS a b c) v, .bool (good a b c)]) ∧ OwnM w' w.heap.size w'.heap.size v (mS a b c) ∧ Below w.heap.size w w' := by
  cases hg : good a b c with
  | true =>
    have e1 : lS a b c = c := by simp [lS, hg]
    have e2 : mS a b c = rowsS a b c := by simp [mS, hg]
    rw [e1, e2]
    exact implSoc_yes a b c w hg
  | false =>
    have e1 : lS a b c = 0 := by simp [lS, hg]
    have e2 : mS a b c = [] := by simp [mS, hg]
    rw [e1, e2]
    go_enter Try.func66, Try.ntmps66
    go_wp2_with fail
    refine (implIsChain_any a b c _).mono ?_
    rw [hg]
    rintro e w1 ⟨rfl, hb1⟩
    have hs1 := hb1.size
    obtain ⟨hc, hf⟩ := bcell hb1
    simp at hs1
    have hbl := bel_trans (bel_alloc (bel_alloc (Below.refl _ w) _) _) hb1
    go_wp2
    refine bodyPost_ret (v := .tuple #[sts 0 nilS, .bool false]) (by simp [results, Try.results66, go_sem, hc, hs1]) rfl ⟨_, rfl, OwnM.empty _ (Nat.le_refl _), ?_⟩
    refine Below.setCell ?_ (by first | (dsimp only; omega) | simp) _
    refine Below.setCell ?_ (by first | (dsimp only; omega) | simp) _
    exact hbl
end Go.Proofs.Ythnjkjdfdhdcfaa
