/- Sure numbers: contracts of the program and of its model. -/
import Derived.Test.YtggflgmjncjmbaaPzR
namespace Go.Proofs.Ytggflgmjncjmbaa
set_option linter.unusedSimpArgs false
open Go.ChangeShapes Go.WideShapes Go.ChangeAt Go.RowKit
set_option linter.unusedVariables false

theorem solD_nn (o : Nat) (ts : List Tri) (w : Nat) : ∀ d, ∀ x ∈ solD o ts w d, 0 ≤ x.1 ∧ 0 ≤ x.2.1
  | 0 => by simp [solD]
  | d + 1 => by
    intro x hx
    unfold solD at hx
    split at hx
    · rcases List.mem_append.1 hx with h | h
      · exact solD_nn o ts w d x h
      · simp at h
        rw [h]
        exact ⟨by simp, by simp⟩
    · exact solD_nn o ts w d x hx
theorem solW_nn (o : Nat) (ts : List Tri) : ∀ w, ∀ x ∈ solW o ts w, 0 ≤ x.1 ∧ 0 ≤ x.2.1
  | 0 => by simp [solW]
  | w + 1 => by
    intro x hx
    unfold solW at hx
    rcases List.mem_append.1 hx with h | h
    · exact solW_nn o ts w x h
    · exact solD_nn o ts w _ x h
theorem solA_nn (o : Int) (ts : List Tri) (k : Nat) (hk : k < (solA o ts).length) : 0 ≤ ((solA o ts).getD k tz).1 ∧ 0 ≤ ((solA o ts).getD k tz).2.1 := by
  have hm : (solA o ts).getD k tz ∈ solA o ts := by
    rw [List.getD_eq_getElem?_getD, List.getElem?_eq_getElem hk]
    exact List.getElem_mem hk
  revert hm
  generalize (solA o ts).getD k tz = x
  intro hm
  unfold solA at hm
  split at hm
  · exact solW_nn _ _ _ x hm
  · cases hm
/-- A number if it is that of the first k ones, or -1. -/
def sureP (p : Tri → Int) (xs : List Tri) (f : Int) : Nat → Int
  | 0 => f
  | k + 1 => if p (xs.getD k tz) = f then sureP p xs f k else -1
theorem sureP_two (p : Tri → Int) (xs : List Tri) (f : Int) : ∀ k, sureP p xs f k = f ∨ sureP p xs f k = -1
  | 0 => .inl rfl
  | k + 1 => by
    unfold sureP
    split
    · exact sureP_two p xs f k
    · exact .inr rfl
theorem sureP_same {p : Tri → Int} {xs : List Tri} {f : Int} {k : Nat} {x : Int} (hx : p (xs.getD k tz) = x) (h0 : 0 ≤ x) (h : x = sureP p xs f k) : sureP p xs f (k + 1) = sureP p xs f k := by
  conv => lhs; unfold sureP
  rcases sureP_two p xs f k with e | e
  · rw [if_pos (by rw [hx, h, e])]
  · rw [h, e] at h0; omega
theorem sureP_other {p : Tri → Int} {xs : List Tri} {f : Int} {k : Nat} {x : Int} (hx : p (xs.getD k tz) = x) (h : ¬ x = sureP p xs f k) : sureP p xs f (k + 1) = -1 := by
  conv => lhs; unfold sureP
  rcases sureP_two p xs f k with e | e
  · rw [if_neg (by rw [hx]; rw [e] at h; exact h)]
  · split
    · exact e
    · rfl
theorem sureP_eq {p : Tri → Int} {xs : List Tri} {f : Int} {k : Nat} {x : Int} (hx : p (xs.getD k tz) = x) (h : x = f) : sureP p xs f (k + 1) = sureP p xs f k := by
  conv => lhs; unfold sureP
  rw [if_pos (by rw [hx, h])]
theorem sureP_ne {p : Tri → Int} {xs : List Tri} {f : Int} {k : Nat} {x : Int} (hx : p (xs.getD k tz) = x) (h : ¬ x = f) : sureP p xs f (k + 1) = -1 := by
  conv => lhs; unfold sureP
  rw [if_neg (by rw [hx]; exact h)]
def pW (x : Tri) : Int := x.1
def pD (x : Tri) : Int := x.2.1
def ansSure (o : Int) (ts : List Tri) : Value :=
  if 0 < (solA o ts).length then .tuple #[.int .i64 (sureP pW (solA o ts) (fst3 (solA o ts)).1 (solA o ts).length), .int .i64 (sureP pD (solA o ts) (fst3 (solA o ts)).2.1 (solA o ts).length), .bool true] else failV
theorem ansSure_form (o : Int) (ts : List Tri) : ∃ (x y : Int) (k : Bool), ansSure o ts = .tuple #[.int .i64 x, .int .i64 y, .bool k] := by
  unfold ansSure
  split
  · exact ⟨_, _, _, rfl⟩
  · exact ⟨0, 0, false, rfl⟩
set_option maxRecDepth 100000 in
set_option maxHeartbeats 3200000 in
theorem implSure_any (o : Int) (ts : List Tri) (v : Value) (B : Nat) (w : World) (h : RdT w B v ts) (hB : B ≤ w.heap.size) :
    Calls Try.prog 38 #[pz o v] w fun e w' => e = .returned (ansSure o ts) ∧ Below w.heap.size w w' := by
  have bl := Lib.hid (bel_alloc (Below.refl _ w) (.cells #[.int .i64 o, v] 29))
  have bx := Lib.hid (Box2.new w (.int .i64 o) v 29)
  have H := Lib.hid (h.below bl.out hB)
  obtain ⟨A, cap, rfl, _, _⟩ := h.form
  clear h
  have hF := fun W (hR : RdT W B (.slice A ts.length cap) ts) (hz : B ≤ W.heap.size) => implFst_any o ts _ B W hR hz
  unfold ansFst at hF
  by_cases h0 : 0 < (solA o ts).length
  · have hg : pzG o ts = true := by
      cases hq : pzG o ts
      · rw [solA_no hq] at h0; simp at h0
      · rfl
    rw [show ansSure o ts = .tuple #[.int .i64 (sureP pW (solA o ts) (fst3 (solA o ts)).1 (solA o ts).length), .int .i64 (sureP pD (solA o ts) (fst3 (solA o ts)).2.1 (solA o ts).length), .bool true] from by unfold ansSure; rw [if_pos h0]]
    rw [show decide (0 < (solA o ts).length) = true from by simpa using h0] at hF
    have hlen := solA_len o ts
    have hS := fun W (hR : RdT W B (.slice A ts.length cap) ts) (hz : B ≤ W.heap.size) => pSolsI_any o ts _ B W hR hz hg
    generalize solA o ts = xs at *
    generalize (fst3 xs).1 = X at *
    generalize (fst3 xs).2.1 = Y at *
    generalize (fst3 xs).2.2 = Z at *
    generalize hN : xs.length = N at *
    have HN := Lib.hid hN
    clear hN
    go_enter Try.func38, Try.ntmps38
    go_wp2_with fail
    refine (hF _ H.out (by simp; omega)).mono ?_
    rintro e w1 ⟨rfl, b1⟩
    have hb1 := bel_trans bl.out b1
    have bx1 := Lib.hid (bx.out.keep b1)
    have H1 := Lib.hid (H.out.below b1 (by simp; omega))
    obtain ⟨c0, c1, ck⟩ := bx1.out
    have f1 := Lib.hid (Box3.new w1 (.int .i64 X) (.int .i64 Y) (.int .i64 Z) 41)
    have hne0 := World.new_ne w1 ⟨w.heap.size, 0, none⟩ c0
    have hz1 := hb1.size
    go_wp2_with fail
    go_quiet (fail)
    go_wp2_with fail
    refine (hS _ (by first | exact H1.out.below (bel_alloc (Below.refl _ _) _) (by omega) | exact (H1.out.below (bel_alloc (Below.refl _ _) _) (by omega)).drewN _ | exact (H1.out.below (bel_alloc (Below.refl _ _) _) (by omega)).drewN 1) (by simp; omega)).mono ?_
    rintro e w2 ⟨v2, rfl, r2, b2⟩
    obtain ⟨A2, cap2, rfl, hl2, hm2⟩ := r2.rd.form
    rw [HN.out]
    have R2 := Lib.hid r2
    unfold maxLen at hm2
    clear r2 c0 c1 ck hne0
    have hb2 := bel_trans (bel_drewN (bel_alloc hb1 (.cells #[.int .i64 X, .int .i64 Y, .int .i64 Z] 41)) nq) b2
    have f2 : Hid (Box3 w2 w1.heap.size (.int .i64 X) (.int .i64 Y) (.int .i64 Z)) := Lib.hid (f1.out.keep (show Below (w1.alloc (.cells #[.int .i64 X, .int .i64 Y, .int .i64 Z] 41)).heap.size (w1.alloc (.cells #[.int .i64 X, .int .i64 Y, .int .i64 Z] 41)) w2 from bel_undrewN b2))
    go_wp2_with fail
    go_loopw [7, 8, 25] (fun x y i wr => ∃ k : Nat, k ≤ N ∧ i = .int .i64 k ∧ x = .int .i64 (sureP pW xs X k) ∧ y = .int .i64 (sureP pD xs Y k) ∧ Hid (Box3 wr w1.heap.size (.int .i64 X) (.int .i64 Y) (.int .i64 Z)) ∧ Below w2.heap.size w2 wr) (fun _ _ i _ => N - (intOf i).toNat)
    case atStart => exact ⟨0, by omega, rfl, rfl, rfl, f2, Below.refl _ _⟩
    case round =>
      obtain ⟨k, hk, rfl, rfl, rfl, hf, hbl⟩ := hrel
      by_cases hlt : k < N
      · have hkx : k < xs.length := by rw [HN.out]; exact hlt
        obtain ⟨ad, x, y, z, rfl, hab, hxyz, d0, d1, d2⟩ := (R2.out.rd.below hbl (Nat.le_refl _)).at3 hkx
        have hx : pW (xs.getD k tz) = x := by rw [hxyz]; rfl
        have hy : pD (xs.getD k tz) = y := by rw [hxyz]; rfl
        obtain ⟨e0, e1, e2, ek⟩ := hf.out
        have hf2 := Lib.hid (hf.out.keep (bel_alloc (Below.refl _ _) (.cells #[.int .i64 x, .int .i64 y, .int .i64 z] 41)))
        have hbl2 := hbl.alloc hbl.size (.cells #[.int .i64 x, .int .i64 y, .int .i64 z] 41)
        have hnx : ∃ u, u = sureP pW xs X (k + 1) := ⟨_, rfl⟩
        clear hxyz
        by_cases q1 : x = X
        · by_cases q2 : y = Y
          · have s1 := Lib.hid (sureP_eq (k := k) hx q1)
            have s2 := Lib.hid (sureP_eq (k := k) hy q2)
            have n1 : (x != X) = false := by simpa using q1
            have n2 : (y != Y) = false := by simpa using q2
            clear hx hy q1 q2 hnx
            go_wp2
            clear e0 e1 e2 d0 d1 d2
            exact ⟨⟨k + 1, by omega, by go_num, by rw [s1.out], by rw [s2.out], hf2, hbl2⟩, by simp [intOf]; omega⟩
          · have s1 := Lib.hid (sureP_eq (k := k) hx q1)
            have s2 := Lib.hid (sureP_ne (k := k) hy q2)
            have n1 : (x != X) = false := by simpa using q1
            have n2 : (y != Y) = true := by simpa using q2
            clear hx hy q1 q2 hnx
            go_wp2
            clear e0 e1 e2 d0 d1 d2
            exact ⟨⟨k + 1, by omega, by go_num, by rw [s1.out], by rw [s2.out], hf2, hbl2⟩, by simp [intOf]; omega⟩
        · by_cases q2 : y = Y
          · have s1 := Lib.hid (sureP_ne (k := k) hx q1)
            have s2 := Lib.hid (sureP_eq (k := k) hy q2)
            have n1 : (x != X) = true := by simpa using q1
            have n2 : (y != Y) = false := by simpa using q2
            clear hx hy q1 q2 hnx
            go_wp2
            clear e0 e1 e2 d0 d1 d2
            exact ⟨⟨k + 1, by omega, by go_num, by rw [s1.out], by rw [s2.out], hf2, hbl2⟩, by simp [intOf]; omega⟩
          · have s1 := Lib.hid (sureP_ne (k := k) hx q1)
            have s2 := Lib.hid (sureP_ne (k := k) hy q2)
            have n1 : (x != X) = true := by simpa using q1
            have n2 : (y != Y) = true := by simpa using q2
            clear hx hy q1 q2 hnx
            go_wp2
            clear e0 e1 e2 d0 d1 d2
            exact ⟨⟨k + 1, by omega, by go_num, by rw [s1.out], by rw [s2.out], hf2, hbl2⟩, by simp [intOf]; omega⟩
      · obtain rfl : k = N := by omega
        go_wp2
        go_ret3
        exact ⟨rfl, bel_trans hb2 hbl⟩
  · rw [show ansSure o ts = failV from by unfold ansSure; rw [if_neg h0]]
    rw [show decide (0 < (solA o ts).length) = false from by simpa using h0] at hF
    unfold failV
    go_enter Try.func38, Try.ntmps38
    go_wp2_with fail
    refine (hF _ H.out (by simp; omega)).mono ?_
    rintro e w1 ⟨rfl, b1⟩
    have hb1 := bel_trans bl.out b1
    go_wp2
    go_ret3
    exact ⟨rfl, by repeat (first | assumption | with_reducible exact Below.refl _ _ | refine bel_alloc ?_ _ | refine bel_drewN ?_ _ | refine Below.drew ?_ | (refine Below.setCell ?_ (by simp) _) | (refine bel_trans ?_ (by assumption)))⟩
set_option maxRecDepth 100000 in
set_option maxHeartbeats 3200000 in
theorem specSure_any (o : Int) (ts : List Tri) (v : Value) (B : Nat) (w : World) (h : RdT w B v ts) (hB : B ≤ w.heap.size) :
    Calls Try.prog 37 #[pz o v] w fun e w' => e = .returned (ansSure o ts) ∧ Below w.heap.size w w' := by
  have bl := Lib.hid (bel_alloc (Below.refl _ w) (.cells #[.int .i64 o, v] 29))
  have bx := Lib.hid (Box2.new w (.int .i64 o) v 29)
  have H := Lib.hid (h.below bl.out hB)
  obtain ⟨A, cap, rfl, _, _⟩ := h.form
  clear h
  cases hg : pzG o ts
  · rw [show ansSure o ts = failV from by unfold ansSure; rw [if_neg (by rw [solA_no hg]; simp)]]
    unfold failV
    go_enter Try.func37, Try.ntmps37
    go_wp2_with fail
    refine (pzGood_any o ts _ B _ H.out (by simp; omega)).mono ?_
    rintro e w1 ⟨rfl, b1⟩
    rw [hg]
    go_wp2
    go_ret3
    exact ⟨rfl, bel_trans bl.out b1⟩
  · have hS := fun W (hR : RdT W B (.slice A ts.length cap) ts) (hz : B ≤ W.heap.size) => pzAllI_any o ts _ B W hR hz hg
    by_cases h0 : 0 < (solA o ts).length
    · rw [show ansSure o ts = .tuple #[.int .i64 (sureP pW (solA o ts) (fst3 (solA o ts)).1 (solA o ts).length), .int .i64 (sureP pD (solA o ts) (fst3 (solA o ts)).2.1 (solA o ts).length), .bool true] from by unfold ansSure; rw [if_pos h0]]
      have hnn := Lib.hid (fun k hk => solA_nn o ts k hk)
      have hlen := solA_len o ts
      generalize solA o ts = xs at *
      generalize hX : (fst3 xs).1 = X at *
      have HX := Lib.hid hX
      clear hX
      generalize hY : (fst3 xs).2.1 = Y at *
      have HY := Lib.hid hY
      clear hY
      generalize hZ : (fst3 xs).2.2 = Z at *
      have HZ := Lib.hid hZ
      clear hZ
      generalize hN : xs.length = N at *
      have HN := Lib.hid hN
      clear hN
      have hlz : ¬ (N : Int) = 0 := by omega
      go_enter Try.func37, Try.ntmps37
      go_wp2_with fail
      refine (pzGood_any o ts _ B _ H.out (by simp; omega)).mono ?_
      rintro e w1 ⟨rfl, b1⟩
      rw [hg]
      have hb1 := bel_trans bl.out b1
      have H1 := Lib.hid (H.out.below b1 (by simp; omega))
      obtain ⟨c0, c1, ck⟩ := bx.out.keep b1
      have hz1 := hb1.size
      go_wp2_with fail
      refine (hS _ H1.out (by omega)).mono ?_
      rintro e w2 ⟨v2, rfl, r2, b2⟩
      have hb2 := bel_trans hb1 b2
      clear c0 c1 ck
      obtain ⟨g, cap2, rfl, hbg, c0, c1, c2, hgz⟩ := fst_at r2 (by rw [HN.out]; exact h0)
      rw [HN.out]
      have R2 := Lib.hid (show RdT w2 w2.heap.size (.slice (some ⟨g, 0, none⟩) N cap2) xs from by have := r2.rd; rwa [HN.out] at this)
      clear r2
      rw [HX.out] at c0
      rw [HY.out] at c1
      rw [HZ.out] at c2
      have hN0 : (0 : Int) < (N : Int) := by omega
      go_wp2_with fail
      go_quiet (fail)
      clear c0 c1 c2
      go_wp2_with fail
      go_loopw [6, 7, 31] (fun x y i wr => ∃ k : Nat, k ≤ N ∧ i = .int .i64 k ∧ x = .int .i64 (sureP pW xs X k) ∧ y = .int .i64 (sureP pD xs Y k) ∧ Below w2.heap.size w2 wr) (fun _ _ i _ => N - (intOf i).toNat)
      case atStart => exact ⟨0, by omega, rfl, rfl, rfl, bel_drewN (Below.refl _ _) _⟩
      case round =>
        obtain ⟨k, hk, rfl, rfl, rfl, hbl⟩ := hrel
        by_cases hlt : k < N
        · have hkx : k < xs.length := by rw [HN.out]; exact hlt
          have hN2 : (k : Int) < (N : Int) := by omega
          obtain ⟨ad, x, y, z, hade, hab, hxyz, d0, d1, d2⟩ := (R2.out.below hbl (Nat.le_refl _)).at3 hkx
          injection hade with hade
          subst hade
          obtain ⟨x0, y0⟩ := hnn.out k hlt
          rw [hxyz] at x0 y0
          have hx : pW (xs.getD k tz) = x := by rw [hxyz]; rfl
          have hy : pD (xs.getD k tz) = y := by rw [hxyz]; rfl
          rw [Addr.add_lit, Nat.zero_add] at d0 d1 d2
          have hbl2 := hbl.alloc hbl.size (.cells #[.int .i64 x, .int .i64 y, .int .i64 z] 41)
          have hU : Hid (sureP pW xs X k = sureP pW xs X k) := Lib.hid rfl
          clear hxyz hU
          obtain ⟨U, hU0⟩ : ∃ U, U = sureP pW xs X k := ⟨_, rfl⟩
          obtain ⟨V, hV0⟩ : ∃ V, V = sureP pD xs Y k := ⟨_, rfl⟩
          have hU := Lib.hid hU0
          have hV := Lib.hid hV0
          have x0 : 0 ≤ x := x0
          have y0 : 0 ≤ y := y0
          rw [← hU0, ← hV0]
          by_cases q1 : x = U
          · by_cases q2 : y = V
            · rw [hU0] at q1; rw [hV0] at q2
              have s1 := Lib.hid (sureP_same (k := k) hx x0 q1)
              have s2 := Lib.hid (sureP_same (k := k) hy y0 q2)
              rw [← hU0] at q1; rw [← hV0] at q2
              have n1 : (x != U) = false := by simpa using q1
              have n2 : (y != V) = false := by simpa using q2
              clear hx hy q1 q2 hU0 hV0
              go_wp2
              clear d0 d1 d2
              exact ⟨⟨k + 1, by omega, by go_num, by rw [s1.out, ← hU.out], by rw [s2.out, ← hV.out], hbl2⟩, by simp [intOf]; omega⟩
            · rw [hU0] at q1; rw [hV0] at q2
              have s1 := Lib.hid (sureP_same (k := k) hx x0 q1)
              have s2 := Lib.hid (sureP_other (k := k) hy q2)
              rw [← hU0] at q1; rw [← hV0] at q2
              have n1 : (x != U) = false := by simpa using q1
              have n2 : (y != V) = true := by simpa using q2
              clear hx hy q1 q2 hU0 hV0
              go_wp2
              clear d0 d1 d2
              exact ⟨⟨k + 1, by omega, by go_num, by rw [s1.out, ← hU.out], by rw [s2.out], hbl2⟩, by simp [intOf]; omega⟩
          · by_cases q2 : y = V
            · rw [hU0] at q1; rw [hV0] at q2
              have s1 := Lib.hid (sureP_other (k := k) hx q1)
              have s2 := Lib.hid (sureP_same (k := k) hy y0 q2)
              rw [← hU0] at q1; rw [← hV0] at q2
              have n1 : (x != U) = true := by simpa using q1
              have n2 : (y != V) = false := by simpa using q2
              clear hx hy q1 q2 hU0 hV0
              go_wp2
              clear d0 d1 d2
              exact ⟨⟨k + 1, by omega, by go_num, by rw [s1.out], by rw [s2.out, ← hV.out], hbl2⟩, by simp [intOf]; omega⟩
            · rw [hU0] at q1; rw [hV0] at q2
              have s1 := Lib.hid (sureP_other (k := k) hx q1)
              have s2 := Lib.hid (sureP_other (k := k) hy q2)
              rw [← hU0] at q1; rw [← hV0] at q2
              have n1 : (x != U) = true := by simpa using q1
              have n2 : (y != V) = true := by simpa using q2
              clear hx hy q1 q2 hU0 hV0
              go_wp2
              clear d0 d1 d2
              exact ⟨⟨k + 1, by omega, by go_num, by rw [s1.out], by rw [s2.out], hbl2⟩, by simp [intOf]; omega⟩
        · obtain rfl : k = N := by omega
          go_wp2
          go_ret3
          exact ⟨rfl, bel_trans hb2 hbl⟩
    · rw [show ansSure o ts = failV from by unfold ansSure; rw [if_neg h0]]
      have he : solA o ts = [] := List.length_eq_zero_iff.1 (by omega)
      rw [he] at hS
      unfold failV
      go_enter Try.func37, Try.ntmps37
      go_wp2_with fail
      refine (pzGood_any o ts _ B _ H.out (by simp; omega)).mono ?_
      rintro e w1 ⟨rfl, b1⟩
      rw [hg]
      have hb1 := bel_trans bl.out b1
      have H1 := Lib.hid (H.out.below b1 (by simp; omega))
      obtain ⟨c0, c1, ck⟩ := bx.out.keep b1
      have hz1 := hb1.size
      go_wp2_with fail
      refine (hS _ H1.out (by omega)).mono ?_
      rintro e w2 ⟨v2, rfl, r2, b2⟩
      obtain ⟨A2, cap2, rfl, _, _⟩ := r2.rd.form
      clear r2 c0 c1
      go_wp2
      go_ret3
      exact ⟨rfl, bel_trans hb1 b2⟩
end Go.Proofs.Ytggflgmjncjmbaa
