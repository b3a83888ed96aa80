/- BoldWithin, TimidWithin, MostWithin: the contracts of the model, and the walks. -/
import Derived.Test.YtfogipdhipipfaaSkZ
import Derived.Shelf.RegionOpenPlain
import Derived.Deep.CutRange
namespace Go.Proofs.Ytfogipdhipipfaa
set_option linter.unusedSimpArgs false
open Go.ChangeShapes Go.WideShapes Go.ChangeAt Go.RowKit
set_option linter.unusedVariables false

theorem rowF_form {w : World} {b n : Nat} {v : Value} {F : Nat → Int} (h : IRow w b v (rowF n F)) : ∃ g cap, v = .slice (some ⟨g, 0, none⟩) (n + 1) cap ∧ ∀ k, k ≤ n → w.cell? ⟨g, k, none⟩ = some (.int .i64 (F k)) := by
  rcases h.form with ⟨hx, _⟩ | ⟨hx, g, cap, rfl, _, _, hlc, hcm⟩
  · have := rowF_len n F
    rw [hx] at this; simp at this
  · rw [rowF_len] at h ⊢
    exact ⟨g, cap, rfl, fun k hk => (rowF_cell h k hk).1⟩
set_option maxRecDepth 100000 in
set_option maxHeartbeats 6400000 in
theorem skChance_any (kind : Nat) (H O G P N : Nat) (T : Int) (w : World) (hT : (O : Int) - (H : Int) = T) (h1 : 1 ≤ H) (h2 : H < O) (h3 : O ≤ 10) (h4 : 1 ≤ G) (h5 : G ≤ 16) (h6 : P ≤ G) (h7 : N ≤ 6)
    (hw0 : ∀ W : World, Calls Try.prog 71 #[cn H O, .int .i64 G, .int .i64 N, .int .i64 kind] W (RowOne (rowF G (wP H T kind G N)) W)) :
    Calls Try.prog 57 #[cn H O, sk P G, .int .i64 N, .int .i64 kind] w fun e w' => e = .returned (.tuple #[.int .i64 (low (wP H T kind G N P) (wP H T kind G N P) (pwI O N)), .int .i64 (low (pwI O N) (wP H T kind G N P) (pwI O N))]) ∧ Below w.heap.size w w' := by
  have bc0 := Lib.hid ((Box2.new w (.int .i64 (H : Int)) (.int .i64 (O : Int)) 32).keep (bel_alloc (Below.refl _ (w.alloc (.cells #[.int .i64 (H : Int), .int .i64 (O : Int)] 32))) (.cells #[.int .i64 (P : Int), .int .i64 (G : Int)] 25)))
  have bs0 := Lib.hid (Box2.new (w.alloc (.cells #[.int .i64 (H : Int), .int .i64 (O : Int)] 32)) (.int .i64 (P : Int)) (.int .i64 (G : Int)) 25)
  have bl0 := Lib.hid (bel_trans (bel_alloc (Below.refl _ w) (.cells #[.int .i64 (H : Int), .int .i64 (O : Int)] 32)) (bel_alloc (Below.refl _ (w.alloc (.cells #[.int .i64 (H : Int), .int .i64 (O : Int)] 32))) (.cells #[.int .i64 (P : Int), .int .i64 (G : Int)] 25)))
  rw [← size1] at bs0
  obtain ⟨cc0, cd0, ck0⟩ := bc0.out
  obtain ⟨cs0, ct0, cl0⟩ := bs0.out
  have hpo := Lib.hid (fun W => skPower_any O N W (by omega) (by omega) (by omega))
  have hb0 := (wP_in (H := (H : Int)) (T := T) kind (by omega) (by omega) G N P).1
  have hb1 := wP_bd (H := (H : Int)) (T := T) (O := O) kind G N P (by omega) (by omega) (by omega)
  have hb2 := pwI_pos O N (by omega)
  have hb3 := (pwI_in O h3 N (by omega)).2
  have htl := Lib.hid (fun W => cnLow_big (wP H T kind G N P) (pwI O N) W hb0 hb2 (by omega) (by omega))
  have hwi : Hid (∀ W : World, Calls Try.prog 71 #[cn H O, .int .i64 G, .int .i64 N, .int .i64 kind] W fun e w' => ∃ gv cap, e = .returned (.slice (some ⟨gv, 0, none⟩) (G + 1) cap) ∧ w'.cell? ⟨gv, P, none⟩ = some (.int .i64 (wP H T kind G N P)) ∧ Below W.heap.size W w') := Lib.hid (fun W => (hw0 W).mono (fun e w' x => by
    obtain ⟨v, rfl, hI, hb⟩ := x
    obtain ⟨gv, cap, rfl, hc⟩ := rowF_form hI
    exact ⟨gv, cap, rfl, hc P h6, hb⟩))
  clear hb0 hb1 hb2 hb3 hw0 hT
  generalize low (wP H T kind G N P) (wP H T kind G N P) (pwI O N) = L1 at *
  generalize low (pwI O N) (wP H T kind G N P) (pwI O N) = L2 at *
  generalize wP H T kind G N P = F at *
  generalize pwI O N = Z at *
  have b17 : (P : Int) < (G : Int) + 1 := by omega
  obtain ⟨K9, hK9⟩ : ∃ K9, K9 = (kind : Int) := ⟨_, rfl⟩
  rw [← hK9] at hwi ⊢
  clear hK9
  go_enter Try.func57, Try.ntmps57
  go_wp2_with fail
  clear cc0 cd0 ck0 cs0 ct0 cl0
  refine wp_region_held_drew (S := fun w' => w'.cell? ⟨w.heap.size, 0, none⟩ = some (.int .i64 (H : Int)) ∧ w'.cell? ⟨w.heap.size, 1, none⟩ = some (.int .i64 (O : Int)) ∧ w.heap.size < w'.heap.size ∧ w'.cell? ⟨w.heap.size + 1, 0, none⟩ = some (.int .i64 (P : Int)) ∧ w'.cell? ⟨w.heap.size + 1, 1, none⟩ = some (.int .i64 (G : Int)) ∧ w.heap.size + 1 < w'.heap.size ∧ Below w.heap.size w w') (by kernel_rfl) (by exact h22_start bc0.out bs0.out bl0.out) (fun hHeld => ?_)
  refine wpAnyH_take (i := 0) (oi := _) (v := ?v1) rfl (by kernel_rfl) (by kernel_rfl) (by kernel_rfl) (fun _ _ _ h => h) (Or.inl ⟨by rfl, ?y1⟩) (by assumption) ?r1
  case y1 => (intro w hSw; (try dsimp only at hSw); go_simp; try with_reducible rfl)
  try simp only [Act.put, List.setIfInBounds_toArray, List.set_cons_zero, List.set_cons_succ]
  refine wpAnyH_take (i := 1) (oi := _) (v := ?v2) rfl (by kernel_rfl) (by kernel_rfl) (by kernel_rfl) (fun _ _ _ h => h) (Or.inl ⟨by rfl, ?y2⟩) (by assumption) ?r2
  case y2 => (intro w hSw; (try dsimp only at hSw); go_simp; try with_reducible rfl)
  try simp only [Act.put, List.setIfInBounds_toArray, List.set_cons_zero, List.set_cons_succ]
  refine wpAnyH_take (i := 2) (oi := _) (v := ?v3) rfl (by kernel_rfl) (by kernel_rfl) (by kernel_rfl) (fun _ _ _ h => h) (Or.inl ⟨by rfl, ?y3⟩) (by assumption) ?r3
  case y3 => (intro w hSw; (try dsimp only at hSw); go_simp; try with_reducible rfl)
  try simp only [Act.put, List.setIfInBounds_toArray, List.set_cons_zero, List.set_cons_succ]
  refine wpAnyH_take (i := 3) (oi := _) (v := ?v4) rfl (by kernel_rfl) (by kernel_rfl) (by kernel_rfl) (fun _ _ _ h => h) (Or.inl ⟨by rfl, ?y4⟩) (by assumption) ?r4
  case y4 => (intro w hSw; (try dsimp only at hSw); go_simp; try with_reducible rfl)
  try simp only [Act.put, List.setIfInBounds_toArray, List.set_cons_zero, List.set_cons_succ]
  refine wpAnyH_take (i := 4) (oi := _) (v := ?v5) rfl (by kernel_rfl) (by kernel_rfl) (by kernel_rfl) (fun _ _ _ h => h) (Or.inl ⟨by rfl, ?y5⟩) (by assumption) ?r5
  case y5 => (intro w hSw; (try dsimp only at hSw); go_simp; try with_reducible rfl)
  try simp only [Act.put, List.setIfInBounds_toArray, List.set_cons_zero, List.set_cons_succ]
  refine wpAnyH_take (i := 6) (oi := _) (v := ?v6) rfl (by kernel_rfl) (by kernel_rfl) (by kernel_rfl) (fun _ _ _ h => h) (Or.inl ⟨by rfl, ?y6⟩) (by assumption) ?r6
  case y6 => (intro w hSw; (try dsimp only at hSw); go_simp; try with_reducible rfl)
  try simp only [Act.put, List.setIfInBounds_toArray, List.set_cons_zero, List.set_cons_succ]
  refine wpAnyH_take (i := 7) (oi := _) (v := ?v7) rfl (by kernel_rfl) (by kernel_rfl) (by kernel_rfl) (fun _ _ _ h => h) (Or.inl ⟨by rfl, ?y7⟩) (by assumption) ?r7
  case y7 => (intro w hSw; (try dsimp only at hSw); go_simp; try with_reducible rfl)
  try simp only [Act.put, List.setIfInBounds_toArray, List.set_cons_zero, List.set_cons_succ]
  refine wpAnyH_take (i := 10) (oi := _) (v := ?v8) rfl (by kernel_rfl) (by kernel_rfl) (by kernel_rfl) (fun _ _ _ h => h) (Or.inl ⟨by rfl, ?y8⟩) (by assumption) ?r8
  case y8 => (intro w hSw; (try dsimp only at hSw); go_simp; try with_reducible rfl)
  try simp only [Act.put, List.setIfInBounds_toArray, List.set_cons_zero, List.set_cons_succ]
  refine wpAnyH_take (i := 11) (oi := _) (v := ?v9) rfl (by kernel_rfl) (by kernel_rfl) (by kernel_rfl) (fun _ _ _ h => h) (Or.inl ⟨by rfl, ?y9⟩) (by assumption) ?r9
  case y9 => (intro w hSw; (try dsimp only at hSw); go_simp; try with_reducible rfl)
  try simp only [Act.put, List.setIfInBounds_toArray, List.set_cons_zero, List.set_cons_succ]
  refine wpAnyH_take (i := 12) (oi := _) (v := ?v10) rfl (by kernel_rfl) (by kernel_rfl) (by kernel_rfl) (fun _ _ _ h => h) (Or.inl ⟨by rfl, ?y10⟩) (by assumption) ?r10
  case y10 => (intro w hSw; (try dsimp only at hSw); go_simp; try with_reducible rfl)
  try simp only [Act.put, List.setIfInBounds_toArray, List.set_cons_zero, List.set_cons_succ]
  refine wpAnyH_ready (rs := [5]) (by kernel_rfl) (by simp) ?_
  refine AllReadyH.cons (o := _) rfl (fun K hK => ?_) ?_
  · (go_simp; go_at_call 71; refine (hwi.out _).mono ?_; rintro e w3 ⟨gv, cap, rfl, y0, hb3⟩)
    refine hK.out _ _ ?_ (fun hHeld => ?_)
    · (try dsimp only); first | assumption | exact h22_keep (by assumption) hb3 | exact h22_drewN (by assumption) _
    clear hK K
    try simp only [Act.put, List.setIfInBounds_toArray, List.set_cons_zero, List.set_cons_succ]
    refine wpAnyH_take (i := 8) (oi := _) (v := ?v11) rfl (by kernel_rfl) (by kernel_rfl) (by kernel_rfl) (fun _ _ _ h => h) (Or.inl ⟨by rfl, ?y11⟩) (by assumption) ?r11
    case y11 => (intro w hSw; (try dsimp only at hSw); go_simp; try with_reducible rfl)
    try simp only [Act.put, List.setIfInBounds_toArray, List.set_cons_zero, List.set_cons_succ]
    refine wpAnyH_ready (rs := [9, 13]) (by kernel_rfl) (by simp) ?_
    refine AllReadyH.cons (o := _) rfl (fun K hK => ?_) ?_
    · (go_simp)
      refine hK.out _ _ ?_ (fun hHeld => ?_)
      · (try dsimp only); first | assumption | exact h22_keep (by assumption) hb3 | exact h22_drewN (by assumption) _
      clear hK K
      try simp only [Act.put, List.setIfInBounds_toArray, List.set_cons_zero, List.set_cons_succ]
      refine wpAnyH_ready (rs := [13]) (by kernel_rfl) (by simp) ?_
      refine AllReadyH.cons (o := _) rfl (fun K hK => ?_) ?_
      · (go_simp; go_at_call 66; refine (hpo.out _).mono ?_; rintro e w4 ⟨rfl, rfl⟩)
        refine hK.out _ _ ?_ (fun hHeld => ?_)
        · (try dsimp only); first | assumption | exact h22_keep (by assumption) hb3 | exact h22_drewN (by assumption) _
        clear hK K
        try simp only [Act.put, List.setIfInBounds_toArray, List.set_cons_zero, List.set_cons_succ]
        refine wpAnyH_ready (rs := [14]) (by kernel_rfl) (by simp) ?_
        refine AllReadyH.cons (o := _) rfl (fun K hK => ?_) ?_
        · (go_simp; go_at_call 48; refine (htl.out _).mono ?_; rintro e w5 ⟨rfl, n5, rfl⟩)
          refine hK.out _ _ ?_ (fun hHeld => ?_)
          · (try dsimp only); first | assumption | exact h22_keep (by assumption) hb3 | exact h22_drewN (by assumption) _
          clear hK K
          try simp only [Act.put, List.setIfInBounds_toArray, List.set_cons_zero, List.set_cons_succ]
          refine wpAnyH_take (i := 15) (oi := _) (v := ?v12) rfl (by kernel_rfl) (by kernel_rfl) (by kernel_rfl) (fun _ _ _ h => h) (Or.inl ⟨by rfl, ?y12⟩) (by assumption) ?r12
          case y12 => (intro w hSw; (try dsimp only at hSw); go_simp; try with_reducible rfl)
          try simp only [Act.put, List.setIfInBounds_toArray, List.set_cons_zero, List.set_cons_succ]
          refine wpAnyH_take (i := 16) (oi := _) (v := ?v13) rfl (by kernel_rfl) (by kernel_rfl) (by kernel_rfl) (fun _ _ _ h => h) (Or.inl ⟨by rfl, ?y13⟩) (by assumption) ?r13
          case y13 => (intro w hSw; (try dsimp only at hSw); go_simp; try with_reducible rfl)
          try simp only [Act.put, List.setIfInBounds_toArray, List.set_cons_zero, List.set_cons_succ]
          refine wpAnyH_ready (rs := [17]) (by kernel_rfl) (by simp) ?_
          refine AllReadyH.cons (o := _) rfl (fun K hK => ?_) ?_
          · (go_simp)
            refine hK.out _ _ ?_ (fun hHeld => ?_)
            · (try dsimp only); first | assumption | exact h22_keep (by assumption) hb3 | exact h22_drewN (by assumption) _
            clear hK K
            try simp only [Act.put, List.setIfInBounds_toArray, List.set_cons_zero, List.set_cons_succ]
            refine wpAnyH_ready (rs := [18]) (by kernel_rfl) (by simp) ?_
            refine AllReadyH.cons (o := _) rfl (fun K hK => ?_) ?_
            · (go_simp)
              refine hK.out _ _ ?_ (fun hHeld => ?_)
              · (try dsimp only); first | assumption | exact h22_keep (by assumption) hb3 | exact h22_drewN (by assumption) _
              clear hK K
              try simp only [Act.put, List.setIfInBounds_toArray, List.set_cons_zero, List.set_cons_succ]
              refine wpAnyH_done (by kernel_rfl) ?_ _
              obtain ⟨hbc, hbs, hbl⟩ := h22_below (by assumption)
              clear hbc hbs
              go_wp2
              go_ret2
              exact ⟨rfl, hbl⟩
            exact AllReadyH.nil
          exact AllReadyH.nil
        exact AllReadyH.nil
      exact AllReadyH.nil
    refine AllReadyH.cons (o := _) rfl (fun K hK => ?_) ?_
    · (go_simp; go_at_call 66; refine (hpo.out _).mono ?_; rintro e w4 ⟨rfl, rfl⟩)
      refine hK.out _ _ ?_ (fun hHeld => ?_)
      · (try dsimp only); first | assumption | exact h22_keep (by assumption) hb3 | exact h22_drewN (by assumption) _
      clear hK K
      try simp only [Act.put, List.setIfInBounds_toArray, List.set_cons_zero, List.set_cons_succ]
      refine wpAnyH_ready (rs := [9]) (by kernel_rfl) (by simp) ?_
      refine AllReadyH.cons (o := _) rfl (fun K hK => ?_) ?_
      · (go_simp)
        refine hK.out _ _ ?_ (fun hHeld => ?_)
        · (try dsimp only); first | assumption | exact h22_keep (by assumption) hb3 | exact h22_drewN (by assumption) _
        clear hK K
        try simp only [Act.put, List.setIfInBounds_toArray, List.set_cons_zero, List.set_cons_succ]
        refine wpAnyH_ready (rs := [14]) (by kernel_rfl) (by simp) ?_
        refine AllReadyH.cons (o := _) rfl (fun K hK => ?_) ?_
        · (go_simp; go_at_call 48; refine (htl.out _).mono ?_; rintro e w5 ⟨rfl, n5, rfl⟩)
          refine hK.out _ _ ?_ (fun hHeld => ?_)
          · (try dsimp only); first | assumption | exact h22_keep (by assumption) hb3 | exact h22_drewN (by assumption) _
          clear hK K
          try simp only [Act.put, List.setIfInBounds_toArray, List.set_cons_zero, List.set_cons_succ]
          refine wpAnyH_take (i := 15) (oi := _) (v := ?v14) rfl (by kernel_rfl) (by kernel_rfl) (by kernel_rfl) (fun _ _ _ h => h) (Or.inl ⟨by rfl, ?y14⟩) (by assumption) ?r14
          case y14 => (intro w hSw; (try dsimp only at hSw); go_simp; try with_reducible rfl)
          try simp only [Act.put, List.setIfInBounds_toArray, List.set_cons_zero, List.set_cons_succ]
          refine wpAnyH_take (i := 16) (oi := _) (v := ?v15) rfl (by kernel_rfl) (by kernel_rfl) (by kernel_rfl) (fun _ _ _ h => h) (Or.inl ⟨by rfl, ?y15⟩) (by assumption) ?r15
          case y15 => (intro w hSw; (try dsimp only at hSw); go_simp; try with_reducible rfl)
          try simp only [Act.put, List.setIfInBounds_toArray, List.set_cons_zero, List.set_cons_succ]
          refine wpAnyH_ready (rs := [17]) (by kernel_rfl) (by simp) ?_
          refine AllReadyH.cons (o := _) rfl (fun K hK => ?_) ?_
          · (go_simp)
            refine hK.out _ _ ?_ (fun hHeld => ?_)
            · (try dsimp only); first | assumption | exact h22_keep (by assumption) hb3 | exact h22_drewN (by assumption) _
            clear hK K
            try simp only [Act.put, List.setIfInBounds_toArray, List.set_cons_zero, List.set_cons_succ]
            refine wpAnyH_ready (rs := [18]) (by kernel_rfl) (by simp) ?_
            refine AllReadyH.cons (o := _) rfl (fun K hK => ?_) ?_
            · (go_simp)
              refine hK.out _ _ ?_ (fun hHeld => ?_)
              · (try dsimp only); first | assumption | exact h22_keep (by assumption) hb3 | exact h22_drewN (by assumption) _
              clear hK K
              try simp only [Act.put, List.setIfInBounds_toArray, List.set_cons_zero, List.set_cons_succ]
              refine wpAnyH_done (by kernel_rfl) ?_ _
              obtain ⟨hbc, hbs, hbl⟩ := h22_below (by assumption)
              clear hbc hbs
              go_wp2
              go_ret2
              exact ⟨rfl, hbl⟩
            exact AllReadyH.nil
          exact AllReadyH.nil
        exact AllReadyH.nil
      exact AllReadyH.nil
    exact AllReadyH.nil
  exact AllReadyH.nil
theorem skPlays_any (h o p g n : Int) (w : World) :
    Calls Try.prog 56 #[cn h o, sk p g, .int .i64 n] w fun e w' => e = .returned (.bool (wiQ h o p g n)) ∧ Below w.heap.size w w' := by
  have bc0 := Lib.hid ((Box2.new w (.int .i64 h) (.int .i64 o) 32).keep (bel_alloc (Below.refl _ (w.alloc (.cells #[.int .i64 h, .int .i64 o] 32))) (.cells #[.int .i64 p, .int .i64 g] 25)))
  have bs0 := Lib.hid (Box2.new (w.alloc (.cells #[.int .i64 h, .int .i64 o] 32)) (.int .i64 p) (.int .i64 g) 25)
  have bl0 := Lib.hid (bel_trans (bel_alloc (Below.refl _ w) (.cells #[.int .i64 h, .int .i64 o] 32)) (bel_alloc (Below.refl _ (w.alloc (.cells #[.int .i64 h, .int .i64 o] 32))) (.cells #[.int .i64 p, .int .i64 g] 25)))
  rw [← size1] at bs0
  obtain ⟨cc0, cd0, ck0⟩ := bc0.out
  obtain ⟨cs0, ct0, cl0⟩ := bs0.out
  cases h1 : csG h o p g
  · rw [show wiQ h o p g n = false from by unfold wiQ cpG; rw [← Bool.and_assoc, show (coinG h o && skG p g) = csG h o p g from rfl, h1]; rfl]
    go_enter Try.func56, Try.ntmps56
    go_wp2_with fail
    refine (skAsked_any _ _ _ _ _).mono ?_
    rintro e w1 ⟨rfl, hb1⟩
    rw [h1]
    go_wp2_with fail
    go_ret
    exact ⟨rfl, bel_trans bl0.out hb1⟩
  · rw [show wiQ h o p g n = inB n 0 6 from by unfold wiQ cpG; rw [← Bool.and_assoc, show (coinG h o && skG p g) = csG h o p g from rfl, h1]; rfl]
    go_enter Try.func56, Try.ntmps56
    go_wp2_with fail
    refine (skAsked_any _ _ _ _ _).mono ?_
    rintro e w1 ⟨rfl, hb1⟩
    rw [h1]
    go_wp2_with fail
    refine (l1In_any _ _ _ _).mono ?_
    rintro e w2 ⟨rfl, rfl⟩
    go_wp2_with fail
    go_ret
    exact ⟨rfl, bel_trans bl0.out hb1⟩
set_option maxRecDepth 100000 in
set_option maxHeartbeats 3200000 in
theorem specTimidWithin_any (h o p g n : Int) (w : World) :
    Calls Try.prog 29 #[cn h o, sk p g, .int .i64 n] w fun e w' => e = .returned (ansWI 0 h o p g n) ∧ Below w.heap.size w w' := by
  cases hc : wiQ h o p g n
  · rw [ansWI_no hc]
    have bc0 := Lib.hid ((Box2.new w (.int .i64 h) (.int .i64 o) 32).keep (bel_alloc (Below.refl _ (w.alloc (.cells #[.int .i64 h, .int .i64 o] 32))) (.cells #[.int .i64 p, .int .i64 g] 25)))
    have bs0 := Lib.hid (Box2.new (w.alloc (.cells #[.int .i64 h, .int .i64 o] 32)) (.int .i64 p) (.int .i64 g) 25)
    have bl0 := Lib.hid (bel_trans (bel_alloc (Below.refl _ w) (.cells #[.int .i64 h, .int .i64 o] 32)) (bel_alloc (Below.refl _ (w.alloc (.cells #[.int .i64 h, .int .i64 o] 32))) (.cells #[.int .i64 p, .int .i64 g] 25)))
    rw [← size1] at bs0
    obtain ⟨cc0, cd0, ck0⟩ := bc0.out
    obtain ⟨cs0, ct0, cl0⟩ := bs0.out
    go_enter Try.func29, Try.ntmps29
    go_wp2_with fail
    refine (skPlays_any _ _ _ _ _ _).mono ?_
    rintro e w1 ⟨rfl, hb1⟩
    rw [hc]
    go_wp2_with fail
    go_ret3
    exact ⟨rfl, bel_trans bl0.out hb1⟩
  · obtain ⟨hc1, hc2, H, O, G, P, N, rfl, rfl, rfl, rfl, rfl, h1, h2, h3, h4, h5, h6, h7⟩ := wi_nat hc
    obtain ⟨T, hT⟩ : ∃ T : Int, (O : Int) - (H : Int) = T := ⟨_, rfl⟩
    rw [ansWI_yes hc hT]
    have bc0 := Lib.hid ((Box2.new w (.int .i64 (H : Int)) (.int .i64 (O : Int)) 32).keep (bel_alloc (Below.refl _ (w.alloc (.cells #[.int .i64 (H : Int), .int .i64 (O : Int)] 32))) (.cells #[.int .i64 (P : Int), .int .i64 (G : Int)] 25)))
    have bs0 := Lib.hid (Box2.new (w.alloc (.cells #[.int .i64 (H : Int), .int .i64 (O : Int)] 32)) (.int .i64 (P : Int)) (.int .i64 (G : Int)) 25)
    have bl0 := Lib.hid (bel_trans (bel_alloc (Below.refl _ w) (.cells #[.int .i64 (H : Int), .int .i64 (O : Int)] 32)) (bel_alloc (Below.refl _ (w.alloc (.cells #[.int .i64 (H : Int), .int .i64 (O : Int)] 32))) (.cells #[.int .i64 (P : Int), .int .i64 (G : Int)] 25)))
    rw [← size1] at bs0
    obtain ⟨cc0, cd0, ck0⟩ := bc0.out
    obtain ⟨cs0, ct0, cl0⟩ := bs0.out
    have hch := Lib.hid (fun W => skChance_any 0 H O G P N T W hT h1 h2 h3 h4 h5 h6 h7 (fun W => skWithin0_any H T O G N W hc1 hT h4 h5 h7))
    clear hT
    generalize low (wP H T 0 G N P) (wP H T 0 G N P) (pwI O N) = L1 at *
    generalize low (pwI O N) (wP H T 0 G N P) (pwI O N) = L2 at *
    go_enter Try.func29, Try.ntmps29
    go_wp2_with fail
    refine (skPlays_any _ _ _ _ _ _).mono ?_
    rintro e w1 ⟨rfl, hb1⟩
    rw [hc]
    have bc1 := Lib.hid (bc0.out.keep hb1)
    have bs1 := Lib.hid (bs0.out.keep hb1)
    have bl1 := Lib.hid (bel_trans bl0.out hb1)
    clear hb1
    obtain ⟨cc1, cd1, ck1⟩ := bc1.out
    obtain ⟨cs1, ct1, cl1⟩ := bs1.out
    go_wp2_with fail
    refine (hch.out _).mono ?_
    rintro e w2 ⟨rfl, hb2⟩
    go_wp2_with fail
    go_ret3
    exact ⟨rfl, bel_trans bl1.out hb2⟩

set_option maxRecDepth 100000 in
set_option maxHeartbeats 3200000 in
theorem walkExactTimidWithin (h o p g n : Int) (w : World) (zh : (Lit.int .i64 h).wf = true) (zo : (Lit.int .i64 o).wf = true) (zp : (Lit.int .i64 p).wf = true) (zg : (Lit.int .i64 g).wf = true) (zn : (Lit.int .i64 n).wf = true) :
    Calls Try.prog 9 #[cn h o, sk p g, .int .i64 n] w fun e w' => e = .returned (.bool true) ∧ Below w.heap.size w w' := by
  clear zh zo zp zg zn
  obtain ⟨x, y, ok, hv⟩ := ansWI_form 0 h o p g n
  have Hv := Lib.hid hv
  clear hv
  have hbA0 := bel_alloc (Below.refl _ w) (.cells #[.int .i64 h, .int .i64 o] 29)
  have bc_0 := Lib.hid (Box2.new w (.int .i64 h) (.int .i64 o) 29)
  have hbA1 := bel_alloc (Below.refl _ (w.alloc (.cells #[.int .i64 h, .int .i64 o] 29))) (.cells #[.int .i64 p, .int .i64 g] 23)
  have bs_0 := Lib.hid (Box2.new (w.alloc (.cells #[.int .i64 h, .int .i64 o] 29)) (.int .i64 p) (.int .i64 g) 23)
  have bc_0 := Lib.hid (bc_0.out.keep hbA1)
  rw [← size1] at bs_0
  have bl_0 := Lib.hid (bel_trans hbA0 hbA1)
  clear hbA0 hbA1
  go_enter Try.func9, Try.ntmps9
  obtain ⟨cc0, cd0, ck0⟩ := bc_0.out
  obtain ⟨cs0, ct0, cl0⟩ := bs_0.out
  go_wp2_with fail
  go_region_held3 (fun w' => w'.cell? ⟨w.heap.size, 0, none⟩ = some (.int .i64 h) ∧ w'.cell? ⟨w.heap.size, 1, none⟩ = some (.int .i64 o) ∧ w.heap.size < w'.heap.size ∧ w'.cell? ⟨w.heap.size + 1, 0, none⟩ = some (.int .i64 p) ∧ w'.cell? ⟨w.heap.size + 1, 1, none⟩ = some (.int .i64 g) ∧ w.heap.size + 1 < w'.heap.size ∧ Below w.heap.size w w')
    (first | exact h22_start bc_0.out bs_0.out bl_0.out | exact h22_keep (by assumption) hb1 | exact h22_keep (by assumption) hb2 | exact h22_keep (by assumption) hb3 | exact h22_drewN (by assumption) _ | assumption | go_keep)
    (first | (go_at_call 19; refine (toCoin_any _ _ _).mono ?_; rintro e w1 ⟨rfl, hb1⟩) | (go_at_call 16; refine (toStakes_any _ _ _).mono ?_; rintro e w2 ⟨rfl, hb2⟩) | (go_at_call 29; refine (specTimidWithin_any h o p g n _).mono ?_; rw [Hv.out]; rintro e w3 ⟨rfl, hb3⟩))
  all_goals
    obtain ⟨hbc, hbs, hbl⟩ := h22_below (by assumption)
    have bc_1 := Lib.hid hbc
    have bs_1 := Lib.hid hbs
    have bl_1 := Lib.hid hbl
    clear hbc hbs hbl
    obtain ⟨cc1, cd1, ck1⟩ := bc_1.out
    obtain ⟨cs1, ct1, cl1⟩ := bs_1.out
    go_wp2_with fail
    go_region_held3 (fun w' => w'.cell? ⟨w.heap.size, 0, none⟩ = some (.int .i64 h) ∧ w'.cell? ⟨w.heap.size, 1, none⟩ = some (.int .i64 o) ∧ w.heap.size < w'.heap.size ∧ w'.cell? ⟨w.heap.size + 1, 0, none⟩ = some (.int .i64 p) ∧ w'.cell? ⟨w.heap.size + 1, 1, none⟩ = some (.int .i64 g) ∧ w.heap.size + 1 < w'.heap.size ∧ Below w.heap.size w w')
      (first | exact h22_start bc_1.out bs_1.out bl_1.out | exact h22_keep (by assumption) hb4 | exact h22_keep (by assumption) hb5 | exact h22_keep (by assumption) hb6 | exact h22_drewN (by assumption) _ | assumption | go_keep)
      (first | (go_at_call 19; refine (toCoin_any _ _ _).mono ?_; rintro e w4 ⟨rfl, hb4⟩) | (go_at_call 16; refine (toStakes_any _ _ _).mono ?_; rintro e w5 ⟨rfl, hb5⟩) | (go_at_call 30; refine (implTimidWithin_any h o p g n _).mono ?_; rw [Hv.out]; rintro e w6 ⟨rfl, hb6⟩))
    all_goals
      obtain ⟨hbc, hbs, hbl⟩ := h22_below (by assumption)
      have bc_2 := Lib.hid hbc
      have bs_2 := Lib.hid hbs
      have bl_2 := Lib.hid hbl
      clear hbc hbs hbl
      obtain ⟨cc2, cd2, ck2⟩ := bc_2.out
      obtain ⟨cs2, ct2, cl2⟩ := bs_2.out
      go_wp2_with fail
      go_ret
      exact ⟨rfl, bl_2.out⟩

set_option maxRecDepth 100000 in
set_option maxHeartbeats 3200000 in
theorem specBoldWithin_any (h o p g n : Int) (w : World) :
    Calls Try.prog 27 #[cn h o, sk p g, .int .i64 n] w fun e w' => e = .returned (ansWI 1 h o p g n) ∧ Below w.heap.size w w' := by
  cases hc : wiQ h o p g n
  · rw [ansWI_no hc]
    have bc0 := Lib.hid ((Box2.new w (.int .i64 h) (.int .i64 o) 32).keep (bel_alloc (Below.refl _ (w.alloc (.cells #[.int .i64 h, .int .i64 o] 32))) (.cells #[.int .i64 p, .int .i64 g] 25)))
    have bs0 := Lib.hid (Box2.new (w.alloc (.cells #[.int .i64 h, .int .i64 o] 32)) (.int .i64 p) (.int .i64 g) 25)
    have bl0 := Lib.hid (bel_trans (bel_alloc (Below.refl _ w) (.cells #[.int .i64 h, .int .i64 o] 32)) (bel_alloc (Below.refl _ (w.alloc (.cells #[.int .i64 h, .int .i64 o] 32))) (.cells #[.int .i64 p, .int .i64 g] 25)))
    rw [← size1] at bs0
    obtain ⟨cc0, cd0, ck0⟩ := bc0.out
    obtain ⟨cs0, ct0, cl0⟩ := bs0.out
    go_enter Try.func27, Try.ntmps27
    go_wp2_with fail
    refine (skPlays_any _ _ _ _ _ _).mono ?_
    rintro e w1 ⟨rfl, hb1⟩
    rw [hc]
    go_wp2_with fail
    go_ret3
    exact ⟨rfl, bel_trans bl0.out hb1⟩
  · obtain ⟨hc1, hc2, H, O, G, P, N, rfl, rfl, rfl, rfl, rfl, h1, h2, h3, h4, h5, h6, h7⟩ := wi_nat hc
    obtain ⟨T, hT⟩ : ∃ T : Int, (O : Int) - (H : Int) = T := ⟨_, rfl⟩
    rw [ansWI_yes hc hT]
    have bc0 := Lib.hid ((Box2.new w (.int .i64 (H : Int)) (.int .i64 (O : Int)) 32).keep (bel_alloc (Below.refl _ (w.alloc (.cells #[.int .i64 (H : Int), .int .i64 (O : Int)] 32))) (.cells #[.int .i64 (P : Int), .int .i64 (G : Int)] 25)))
    have bs0 := Lib.hid (Box2.new (w.alloc (.cells #[.int .i64 (H : Int), .int .i64 (O : Int)] 32)) (.int .i64 (P : Int)) (.int .i64 (G : Int)) 25)
    have bl0 := Lib.hid (bel_trans (bel_alloc (Below.refl _ w) (.cells #[.int .i64 (H : Int), .int .i64 (O : Int)] 32)) (bel_alloc (Below.refl _ (w.alloc (.cells #[.int .i64 (H : Int), .int .i64 (O : Int)] 32))) (.cells #[.int .i64 (P : Int), .int .i64 (G : Int)] 25)))
    rw [← size1] at bs0
    obtain ⟨cc0, cd0, ck0⟩ := bc0.out
    obtain ⟨cs0, ct0, cl0⟩ := bs0.out
    have hch := Lib.hid (fun W => skChance_any 1 H O G P N T W hT h1 h2 h3 h4 h5 h6 h7 (fun W => skWithin1_any H T O G N W hc1 hT h4 h5 h7))
    clear hT
    generalize low (wP H T 1 G N P) (wP H T 1 G N P) (pwI O N) = L1 at *
    generalize low (pwI O N) (wP H T 1 G N P) (pwI O N) = L2 at *
    go_enter Try.func27, Try.ntmps27
    go_wp2_with fail
    refine (skPlays_any _ _ _ _ _ _).mono ?_
    rintro e w1 ⟨rfl, hb1⟩
    rw [hc]
    have bc1 := Lib.hid (bc0.out.keep hb1)
    have bs1 := Lib.hid (bs0.out.keep hb1)
    have bl1 := Lib.hid (bel_trans bl0.out hb1)
    clear hb1
    obtain ⟨cc1, cd1, ck1⟩ := bc1.out
    obtain ⟨cs1, ct1, cl1⟩ := bs1.out
    go_wp2_with fail
    refine (hch.out _).mono ?_
    rintro e w2 ⟨rfl, hb2⟩
    go_wp2_with fail
    go_ret3
    exact ⟨rfl, bel_trans bl1.out hb2⟩

set_option maxRecDepth 100000 in
set_option maxHeartbeats 3200000 in
theorem walkExactBoldWithin (h o p g n : Int) (w : World) (zh : (Lit.int .i64 h).wf = true) (zo : (Lit.int .i64 o).wf = true) (zp : (Lit.int .i64 p).wf = true) (zg : (Lit.int .i64 g).wf = true) (zn : (Lit.int .i64 n).wf = true) :
    Calls Try.prog 8 #[cn h o, sk p g, .int .i64 n] w fun e w' => e = .returned (.bool true) ∧ Below w.heap.size w w' := by
  clear zh zo zp zg zn
  obtain ⟨x, y, ok, hv⟩ := ansWI_form 1 h o p g n
  have Hv := Lib.hid hv
  clear hv
  have hbA0 := bel_alloc (Below.refl _ w) (.cells #[.int .i64 h, .int .i64 o] 29)
  have bc_0 := Lib.hid (Box2.new w (.int .i64 h) (.int .i64 o) 29)
  have hbA1 := bel_alloc (Below.refl _ (w.alloc (.cells #[.int .i64 h, .int .i64 o] 29))) (.cells #[.int .i64 p, .int .i64 g] 23)
  have bs_0 := Lib.hid (Box2.new (w.alloc (.cells #[.int .i64 h, .int .i64 o] 29)) (.int .i64 p) (.int .i64 g) 23)
  have bc_0 := Lib.hid (bc_0.out.keep hbA1)
  rw [← size1] at bs_0
  have bl_0 := Lib.hid (bel_trans hbA0 hbA1)
  clear hbA0 hbA1
  go_enter Try.func8, Try.ntmps8
  obtain ⟨cc0, cd0, ck0⟩ := bc_0.out
  obtain ⟨cs0, ct0, cl0⟩ := bs_0.out
  go_wp2_with fail
  go_region_held3 (fun w' => w'.cell? ⟨w.heap.size, 0, none⟩ = some (.int .i64 h) ∧ w'.cell? ⟨w.heap.size, 1, none⟩ = some (.int .i64 o) ∧ w.heap.size < w'.heap.size ∧ w'.cell? ⟨w.heap.size + 1, 0, none⟩ = some (.int .i64 p) ∧ w'.cell? ⟨w.heap.size + 1, 1, none⟩ = some (.int .i64 g) ∧ w.heap.size + 1 < w'.heap.size ∧ Below w.heap.size w w')
    (first | exact h22_start bc_0.out bs_0.out bl_0.out | exact h22_keep (by assumption) hb1 | exact h22_keep (by assumption) hb2 | exact h22_keep (by assumption) hb3 | exact h22_drewN (by assumption) _ | assumption | go_keep)
    (first | (go_at_call 19; refine (toCoin_any _ _ _).mono ?_; rintro e w1 ⟨rfl, hb1⟩) | (go_at_call 16; refine (toStakes_any _ _ _).mono ?_; rintro e w2 ⟨rfl, hb2⟩) | (go_at_call 27; refine (specBoldWithin_any h o p g n _).mono ?_; rw [Hv.out]; rintro e w3 ⟨rfl, hb3⟩))
  all_goals
    obtain ⟨hbc, hbs, hbl⟩ := h22_below (by assumption)
    have bc_1 := Lib.hid hbc
    have bs_1 := Lib.hid hbs
    have bl_1 := Lib.hid hbl
    clear hbc hbs hbl
    obtain ⟨cc1, cd1, ck1⟩ := bc_1.out
    obtain ⟨cs1, ct1, cl1⟩ := bs_1.out
    go_wp2_with fail
    go_region_held3 (fun w' => w'.cell? ⟨w.heap.size, 0, none⟩ = some (.int .i64 h) ∧ w'.cell? ⟨w.heap.size, 1, none⟩ = some (.int .i64 o) ∧ w.heap.size < w'.heap.size ∧ w'.cell? ⟨w.heap.size + 1, 0, none⟩ = some (.int .i64 p) ∧ w'.cell? ⟨w.heap.size + 1, 1, none⟩ = some (.int .i64 g) ∧ w.heap.size + 1 < w'.heap.size ∧ Below w.heap.size w w')
      (first | exact h22_start bc_1.out bs_1.out bl_1.out | exact h22_keep (by assumption) hb4 | exact h22_keep (by assumption) hb5 | exact h22_keep (by assumption) hb6 | exact h22_drewN (by assumption) _ | assumption | go_keep)
      (first | (go_at_call 19; refine (toCoin_any _ _ _).mono ?_; rintro e w4 ⟨rfl, hb4⟩) | (go_at_call 16; refine (toStakes_any _ _ _).mono ?_; rintro e w5 ⟨rfl, hb5⟩) | (go_at_call 28; refine (implBoldWithin_any h o p g n _).mono ?_; rw [Hv.out]; rintro e w6 ⟨rfl, hb6⟩))
    all_goals
      obtain ⟨hbc, hbs, hbl⟩ := h22_below (by assumption)
      have bc_2 := Lib.hid hbc
      have bs_2 := Lib.hid hbs
      have bl_2 := Lib.hid hbl
      clear hbc hbs hbl
      obtain ⟨cc2, cd2, ck2⟩ := bc_2.out
      obtain ⟨cs2, ct2, cl2⟩ := bs_2.out
      go_wp2_with fail
      go_ret
      exact ⟨rfl, bl_2.out⟩

set_option maxRecDepth 100000 in
set_option maxHeartbeats 3200000 in
theorem specMostWithin_any (h o p g n : Int) (w : World) :
    Calls Try.prog 31 #[cn h o, sk p g, .int .i64 n] w fun e w' => e = .returned (ansWI 2 h o p g n) ∧ Below w.heap.size w w' := by
  cases hc : wiQ h o p g n
  · rw [ansWI_no hc]
    have bc0 := Lib.hid ((Box2.new w (.int .i64 h) (.int .i64 o) 32).keep (bel_alloc (Below.refl _ (w.alloc (.cells #[.int .i64 h, .int .i64 o] 32))) (.cells #[.int .i64 p, .int .i64 g] 25)))
    have bs0 := Lib.hid (Box2.new (w.alloc (.cells #[.int .i64 h, .int .i64 o] 32)) (.int .i64 p) (.int .i64 g) 25)
    have bl0 := Lib.hid (bel_trans (bel_alloc (Below.refl _ w) (.cells #[.int .i64 h, .int .i64 o] 32)) (bel_alloc (Below.refl _ (w.alloc (.cells #[.int .i64 h, .int .i64 o] 32))) (.cells #[.int .i64 p, .int .i64 g] 25)))
    rw [← size1] at bs0
    obtain ⟨cc0, cd0, ck0⟩ := bc0.out
    obtain ⟨cs0, ct0, cl0⟩ := bs0.out
    go_enter Try.func31, Try.ntmps31
    go_wp2_with fail
    refine (skPlays_any _ _ _ _ _ _).mono ?_
    rintro e w1 ⟨rfl, hb1⟩
    rw [hc]
    go_wp2_with fail
    go_ret3
    exact ⟨rfl, bel_trans bl0.out hb1⟩
  · obtain ⟨hc1, hc2, H, O, G, P, N, rfl, rfl, rfl, rfl, rfl, h1, h2, h3, h4, h5, h6, h7⟩ := wi_nat hc
    obtain ⟨T, hT⟩ : ∃ T : Int, (O : Int) - (H : Int) = T := ⟨_, rfl⟩
    rw [ansWI_yes hc hT]
    have bc0 := Lib.hid ((Box2.new w (.int .i64 (H : Int)) (.int .i64 (O : Int)) 32).keep (bel_alloc (Below.refl _ (w.alloc (.cells #[.int .i64 (H : Int), .int .i64 (O : Int)] 32))) (.cells #[.int .i64 (P : Int), .int .i64 (G : Int)] 25)))
    have bs0 := Lib.hid (Box2.new (w.alloc (.cells #[.int .i64 (H : Int), .int .i64 (O : Int)] 32)) (.int .i64 (P : Int)) (.int .i64 (G : Int)) 25)
    have bl0 := Lib.hid (bel_trans (bel_alloc (Below.refl _ w) (.cells #[.int .i64 (H : Int), .int .i64 (O : Int)] 32)) (bel_alloc (Below.refl _ (w.alloc (.cells #[.int .i64 (H : Int), .int .i64 (O : Int)] 32))) (.cells #[.int .i64 (P : Int), .int .i64 (G : Int)] 25)))
    rw [← size1] at bs0
    obtain ⟨cc0, cd0, ck0⟩ := bc0.out
    obtain ⟨cs0, ct0, cl0⟩ := bs0.out
    have hch := Lib.hid (fun W => skChance_any 2 H O G P N T W hT h1 h2 h3 h4 h5 h6 h7 (fun W => skWithin2_any H T O G N W hc1 hT h4 h5 h7))
    clear hT
    generalize low (wP H T 2 G N P) (wP H T 2 G N P) (pwI O N) = L1 at *
    generalize low (pwI O N) (wP H T 2 G N P) (pwI O N) = L2 at *
    go_enter Try.func31, Try.ntmps31
    go_wp2_with fail
    refine (skPlays_any _ _ _ _ _ _).mono ?_
    rintro e w1 ⟨rfl, hb1⟩
    rw [hc]
    have bc1 := Lib.hid (bc0.out.keep hb1)
    have bs1 := Lib.hid (bs0.out.keep hb1)
    have bl1 := Lib.hid (bel_trans bl0.out hb1)
    clear hb1
    obtain ⟨cc1, cd1, ck1⟩ := bc1.out
    obtain ⟨cs1, ct1, cl1⟩ := bs1.out
    go_wp2_with fail
    refine (hch.out _).mono ?_
    rintro e w2 ⟨rfl, hb2⟩
    go_wp2_with fail
    go_ret3
    exact ⟨rfl, bel_trans bl1.out hb2⟩

set_option maxRecDepth 100000 in
set_option maxHeartbeats 3200000 in
theorem walkExactMostWithin (h o p g n : Int) (w : World) (zh : (Lit.int .i64 h).wf = true) (zo : (Lit.int .i64 o).wf = true) (zp : (Lit.int .i64 p).wf = true) (zg : (Lit.int .i64 g).wf = true) (zn : (Lit.int .i64 n).wf = true) :
    Calls Try.prog 10 #[cn h o, sk p g, .int .i64 n] w fun e w' => e = .returned (.bool true) ∧ Below w.heap.size w w' := by
  clear zh zo zp zg zn
  obtain ⟨x, y, ok, hv⟩ := ansWI_form 2 h o p g n
  have Hv := Lib.hid hv
  clear hv
  have hbA0 := bel_alloc (Below.refl _ w) (.cells #[.int .i64 h, .int .i64 o] 29)
  have bc_0 := Lib.hid (Box2.new w (.int .i64 h) (.int .i64 o) 29)
  have hbA1 := bel_alloc (Below.refl _ (w.alloc (.cells #[.int .i64 h, .int .i64 o] 29))) (.cells #[.int .i64 p, .int .i64 g] 23)
  have bs_0 := Lib.hid (Box2.new (w.alloc (.cells #[.int .i64 h, .int .i64 o] 29)) (.int .i64 p) (.int .i64 g) 23)
  have bc_0 := Lib.hid (bc_0.out.keep hbA1)
  rw [← size1] at bs_0
  have bl_0 := Lib.hid (bel_trans hbA0 hbA1)
  clear hbA0 hbA1
  go_enter Try.func10, Try.ntmps10
  obtain ⟨cc0, cd0, ck0⟩ := bc_0.out
  obtain ⟨cs0, ct0, cl0⟩ := bs_0.out
  go_wp2_with fail
  go_region_held3 (fun w' => w'.cell? ⟨w.heap.size, 0, none⟩ = some (.int .i64 h) ∧ w'.cell? ⟨w.heap.size, 1, none⟩ = some (.int .i64 o) ∧ w.heap.size < w'.heap.size ∧ w'.cell? ⟨w.heap.size + 1, 0, none⟩ = some (.int .i64 p) ∧ w'.cell? ⟨w.heap.size + 1, 1, none⟩ = some (.int .i64 g) ∧ w.heap.size + 1 < w'.heap.size ∧ Below w.heap.size w w')
    (first | exact h22_start bc_0.out bs_0.out bl_0.out | exact h22_keep (by assumption) hb1 | exact h22_keep (by assumption) hb2 | exact h22_keep (by assumption) hb3 | exact h22_drewN (by assumption) _ | assumption | go_keep)
    (first | (go_at_call 19; refine (toCoin_any _ _ _).mono ?_; rintro e w1 ⟨rfl, hb1⟩) | (go_at_call 16; refine (toStakes_any _ _ _).mono ?_; rintro e w2 ⟨rfl, hb2⟩) | (go_at_call 31; refine (specMostWithin_any h o p g n _).mono ?_; rw [Hv.out]; rintro e w3 ⟨rfl, hb3⟩))
  all_goals
    obtain ⟨hbc, hbs, hbl⟩ := h22_below (by assumption)
    have bc_1 := Lib.hid hbc
    have bs_1 := Lib.hid hbs
    have bl_1 := Lib.hid hbl
    clear hbc hbs hbl
    obtain ⟨cc1, cd1, ck1⟩ := bc_1.out
    obtain ⟨cs1, ct1, cl1⟩ := bs_1.out
    go_wp2_with fail
    go_region_held3 (fun w' => w'.cell? ⟨w.heap.size, 0, none⟩ = some (.int .i64 h) ∧ w'.cell? ⟨w.heap.size, 1, none⟩ = some (.int .i64 o) ∧ w.heap.size < w'.heap.size ∧ w'.cell? ⟨w.heap.size + 1, 0, none⟩ = some (.int .i64 p) ∧ w'.cell? ⟨w.heap.size + 1, 1, none⟩ = some (.int .i64 g) ∧ w.heap.size + 1 < w'.heap.size ∧ Below w.heap.size w w')
      (first | exact h22_start bc_1.out bs_1.out bl_1.out | exact h22_keep (by assumption) hb4 | exact h22_keep (by assumption) hb5 | exact h22_keep (by assumption) hb6 | exact h22_drewN (by assumption) _ | assumption | go_keep)
      (first | (go_at_call 19; refine (toCoin_any _ _ _).mono ?_; rintro e w4 ⟨rfl, hb4⟩) | (go_at_call 16; refine (toStakes_any _ _ _).mono ?_; rintro e w5 ⟨rfl, hb5⟩) | (go_at_call 32; refine (implMostWithin_any h o p g n _).mono ?_; rw [Hv.out]; rintro e w6 ⟨rfl, hb6⟩))
    all_goals
      obtain ⟨hbc, hbs, hbl⟩ := h22_below (by assumption)
      have bc_2 := Lib.hid hbc
      have bs_2 := Lib.hid hbs
      have bl_2 := Lib.hid hbl
      clear hbc hbs hbl
      obtain ⟨cc2, cd2, ck2⟩ := bc_2.out
      obtain ⟨cs2, ct2, cl2⟩ := bs_2.out
      go_wp2_with fail
      go_ret
      exact ⟨rfl, bl_2.out⟩

end Go.Proofs.Ytfogipdhipipfaa
