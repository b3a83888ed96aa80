/- MeanUntil: the contracts of the program and of its model, and the law's walk. -/
import Derived.Test.YtkehgokgngimgaaAny
namespace Go.Proofs.Ytkehgokgngimgaa
open Go.ChangeShapes Go.WideShapes Go.ChangeAt Go.RowKit
set_option linter.unusedVariables false

def oneV : Value := .tuple #[.int .i64 1, .int .i64 1, .bool true]
def ansSame (a b d : Int) : Value := if chg a b d == 0 then oneV else if a + b - chg a b d == 0 then failV else lowV (a + b) (a + b - chg a b d)
def ansUntil (a b c : Int) (s t : ByteArray) : Value := if good a b c && dayS s && dayS t then (if s.toList == t.toList then ansSame a b (sgn s 0) else ansRun a b c s) else failV
theorem ansUntil_form (a b c : Int) (s t : ByteArray) : ∃ (x y : Int) (o : Bool), ansUntil a b c s t = .tuple #[.int .i64 x, .int .i64 y, .bool o] :=
  if_form _ (if_form _ (if_form _ ⟨1, 1, true, rfl⟩ (if_form _ failV_form (lowV_form _ _))) (ansRun_form _ _ _ _)) failV_form
theorem held3_alloc {w W : World} {k : Nat} {x y z : Value} (h : W.cell? ⟨k, 0, none⟩ = some x ∧ W.cell? ⟨k, 1, none⟩ = some y ∧ W.cell? ⟨k, 2, none⟩ = some z ∧ k < W.heap.size ∧ Below w.heap.size w W) (o : Obj) :
    (W.alloc o).cell? ⟨k, 0, none⟩ = some x ∧ (W.alloc o).cell? ⟨k, 1, none⟩ = some y ∧ (W.alloc o).cell? ⟨k, 2, none⟩ = some z ∧ k < (W.alloc o).heap.size ∧ Below w.heap.size w (W.alloc o) :=
  held3_keep h (bel_alloc (Below.refl _ _) _)
theorem held3_set {w W : World} {k : Nat} {x y z : Value} (h : W.cell? ⟨k, 0, none⟩ = some x ∧ W.cell? ⟨k, 1, none⟩ = some y ∧ W.cell? ⟨k, 2, none⟩ = some z ∧ k < W.heap.size ∧ Below w.heap.size w W) (p : Addr) (v : Value) (hp : k < p.block) (hw : w.heap.size ≤ p.block) :
    (W.setCell p v).cell? ⟨k, 0, none⟩ = some x ∧ (W.setCell p v).cell? ⟨k, 1, none⟩ = some y ∧ (W.setCell p v).cell? ⟨k, 2, none⟩ = some z ∧ k < (W.setCell p v).heap.size ∧ Below w.heap.size w (W.setCell p v) := by
  have hb : Below (k + 1) W (W.setCell p v) := (Below.refl _ _).setCell (by omega) v
  obtain ⟨a1, a2, a3, a4, hl⟩ := h
  refine ⟨(hb.cell (p := ⟨k, 0, none⟩) (by show k < k + 1; omega)).trans a1, (hb.cell (p := ⟨k, 1, none⟩) (by show k < k + 1; omega)).trans a2, (hb.cell (p := ⟨k, 2, none⟩) (by show k < k + 1; omega)).trans a3, Nat.lt_of_lt_of_le a4 hb.size, hl.setCell hw v⟩
theorem chg_sum {a b d : Int} (h : dayV d) : chg a b (219 - d) = a + b - chg a b d := by
  rcases h with rfl | rfl <;> simp [chg] <;> omega
theorem sgn_same {s t : ByteArray} (h : (s.toList == t.toList) = true) : sgn t 0 = sgn s 0 := by
  have h' : s.toList = t.toList := by simpa using h
  rw [ByteArray.toList_eq, ByteArray.toList_eq] at h'
  unfold sgn; rw [h']
theorem sgn_other {s t : ByteArray} (hs : dayS s = true) (ht : dayS t = true) (h : (s.toList == t.toList) = false) : sgn t 0 = 219 - sgn s 0 := by
  have h' : ¬ s.toList = t.toList := by simpa using h
  rw [ByteArray.toList_eq, ByteArray.toList_eq] at h'
  unfold sgn
  rcases dayS_cases hs with e | e <;> rcases dayS_cases ht with f | f <;> rw [e, f] at h' ⊢
  · exact absurd rfl h'
  · rfl
  · rfl
  · exact absurd rfl h'

set_option maxHeartbeats 400000 in
theorem specUntil_no1 (a b c : Int) (s t : ByteArray) (w : World) (hs : s.size ≤ maxLen) (ht : t.size ≤ maxLen) (h1 : (good a b c && dayS s) = false) :
    Calls Try.prog 39 #[chn a b c, .string s, .string t] w fun e w' => e = .returned (failV) ∧ Below w.heap.size w w' := by
  unfold failV
  have bx0 := Lib.hid (Box3.new w (.int .i64 a) (.int .i64 b) (.int .i64 c) 25)
  have bl0 : Below w.heap.size w (w.alloc (.cells #[.int .i64 a, .int .i64 b, .int .i64 c] 25)) := bel_alloc (Below.refl _ _) _
  go_enter Try.func39, Try.ntmps39
  go_wp2_with fail
  refine (cnDay_any a b c s _ hs).mono ?_
  rintro e w1 ⟨rfl, hb1⟩
  rw [h1]
  have bx1 := Lib.hid (bx0.out.keep hb1)
  have bl1 := bel_trans bl0 hb1
  obtain ⟨c0_1, c1_1, c2_1, hk1⟩ := bx1.out
  go_wp2_with fail
  go_ret3
  exact ⟨rfl, bl1⟩

set_option maxHeartbeats 400000 in
theorem specUntil_no2 (a b c : Int) (s t : ByteArray) (w : World) (hs : s.size ≤ maxLen) (ht : t.size ≤ maxLen) (h1 : (good a b c && dayS s) = true) (h2 : dayS t = false) :
    Calls Try.prog 39 #[chn a b c, .string s, .string t] w fun e w' => e = .returned (failV) ∧ Below w.heap.size w w' := by
  unfold failV
  have h1a : good a b c = true := by simp at h1; exact h1.1
  have h3 : (good a b c && dayS t) = false := by rw [h1a, h2]; rfl
  have bx0 := Lib.hid (Box3.new w (.int .i64 a) (.int .i64 b) (.int .i64 c) 25)
  have bl0 : Below w.heap.size w (w.alloc (.cells #[.int .i64 a, .int .i64 b, .int .i64 c] 25)) := bel_alloc (Below.refl _ _) _
  go_enter Try.func39, Try.ntmps39
  go_wp2_with fail
  refine (cnDay_any a b c s _ hs).mono ?_
  rintro e w1 ⟨rfl, hb1⟩
  rw [h1]
  have bx1 := Lib.hid (bx0.out.keep hb1)
  have bl1 := bel_trans bl0 hb1
  obtain ⟨c0_1, c1_1, c2_1, hk1⟩ := bx1.out
  go_wp2_with fail
  refine (cnDay_any a b c t _ ht).mono ?_
  rintro e w2 ⟨rfl, hb2⟩
  rw [h3]
  have bx2 := Lib.hid (bx1.out.keep hb2)
  have bl2 := bel_trans bl1 hb2
  obtain ⟨c0_2, c1_2, c2_2, hk2⟩ := bx2.out
  go_wp2_with fail
  go_ret3
  exact ⟨rfl, bl2⟩

set_option maxHeartbeats 400000 in
theorem specUntil_diff (a b c : Int) (s t : ByteArray) (w : World) (hs : s.size ≤ maxLen) (ht : t.size ≤ maxLen) (h1 : (good a b c && dayS s) = true) (h2 : dayS t = true) (hq : (s.toList == t.toList) = false) :
    Calls Try.prog 39 #[chn a b c, .string s, .string t] w fun e w' => e = .returned (ansRun a b c s) ∧ Below w.heap.size w w' := by
  have h1a : good a b c = true := by simp at h1; exact h1.1
  have hq2 : (s.toList != t.toList) = true := by rw [bne, hq]; rfl
  obtain ⟨x0, y0, o0, hv⟩ := ansRun_form a b c s
  have Hv := Lib.hid hv
  rw [hv]
  clear hv
  have h3 : (good a b c && dayS t) = true := by rw [h1a, h2]; rfl
  have bx0 := Lib.hid (Box3.new w (.int .i64 a) (.int .i64 b) (.int .i64 c) 25)
  have bl0 : Below w.heap.size w (w.alloc (.cells #[.int .i64 a, .int .i64 b, .int .i64 c] 25)) := bel_alloc (Below.refl _ _) _
  go_enter Try.func39, Try.ntmps39
  go_wp2_with fail
  refine (cnDay_any a b c s _ hs).mono ?_
  rintro e w1 ⟨rfl, hb1⟩
  rw [h1]
  have bx1 := Lib.hid (bx0.out.keep hb1)
  have bl1 := bel_trans bl0 hb1
  obtain ⟨c0_1, c1_1, c2_1, hk1⟩ := bx1.out
  go_wp2_with fail
  refine (cnDay_any a b c t _ ht).mono ?_
  rintro e w2 ⟨rfl, hb2⟩
  rw [h3]
  have bx2 := Lib.hid (bx1.out.keep hb2)
  have bl2 := bel_trans bl1 hb2
  obtain ⟨c0_2, c1_2, c2_2, hk2⟩ := bx2.out
  go_wp2_with fail
  refine (specRun_any a b c s _ hs).mono ?_
  rintro e w3 ⟨rfl, hb3⟩
  rw [Hv.out]
  have bx3 := Lib.hid (bx2.out.keep hb3)
  have bl3 := bel_trans bl2 hb3
  obtain ⟨c0_3, c1_3, c2_3, hk3⟩ := bx3.out
  go_wp2_with fail
  go_ret3
  exact ⟨rfl, bl3⟩

set_option maxHeartbeats 400000 in
theorem specUntil_never (a b c : Int) (s t : ByteArray) (w : World) (hs : s.size ≤ maxLen) (ht : t.size ≤ maxLen) (h1 : (good a b c && dayS s) = true) (h2 : dayS t = true) (hq : (s.toList == t.toList) = true) (z1 : (chg a b (sgn s 0) == 0) = true) :
    Calls Try.prog 39 #[chn a b c, .string s, .string t] w fun e w' => e = .returned (oneV) ∧ Below w.heap.size w w' := by
  unfold oneV
  have h1a : good a b c = true := by simp at h1; exact h1.1
  have h1b : dayS s = true := by simp at h1; exact h1.2
  have hr := inR_of h1a
  have r := hr
  unfold inR at r
  obtain ⟨r1, r2, r3, r4, r5, r6⟩ := r
  have zs : 0 < s.size := by rw [day_size h1b]; omega
  have zt : 0 < t.size := by rw [day_size h2]; omega
  have hd := day_val h1b
  have hf := day_val h2
  have e1 := sgn_at s 0 zs
  have e2 := sgn_at t 0 zt
  obtain ⟨g0, g1⟩ := chg_in hr (sgn s 0)
  obtain ⟨u0, u1⟩ := chg_in hr (219 - sgn s 0)
  rw [chg_sum hd] at u0 u1
  have hq2 : (s.toList != t.toList) = false := by rw [bne, hq]; rfl
  have h3 : (good a b c && dayS t) = true := by rw [h1a, h2]; rfl
  generalize hP : chg a b (sgn s 0) = P at *
  have HP := Lib.hid hP
  clear hP
  have bx0 := Lib.hid (Box3.new w (.int .i64 a) (.int .i64 b) (.int .i64 c) 25)
  have bl0 : Below w.heap.size w (w.alloc (.cells #[.int .i64 a, .int .i64 b, .int .i64 c] 25)) := bel_alloc (Below.refl _ _) _
  go_enter Try.func39, Try.ntmps39
  go_wp2_with fail
  refine (cnDay_any a b c s _ hs).mono ?_
  rintro e w1 ⟨rfl, hb1⟩
  rw [h1]
  have bx1 := Lib.hid (bx0.out.keep hb1)
  have bl1 := bel_trans bl0 hb1
  obtain ⟨c0_1, c1_1, c2_1, hk1⟩ := bx1.out
  go_wp2_with fail
  refine (cnDay_any a b c t _ ht).mono ?_
  rintro e w2 ⟨rfl, hb2⟩
  rw [h3]
  have bx2 := Lib.hid (bx1.out.keep hb2)
  have bl2 := bel_trans bl1 hb2
  obtain ⟨c0_2, c1_2, c2_2, hk2⟩ := bx2.out
  go_wp2_with fail
  go_region_held3 (fun w' => w'.cell? ⟨w.heap.size, 0, none⟩ = some (.int .i64 a) ∧ w'.cell? ⟨w.heap.size, 1, none⟩ = some (.int .i64 b) ∧ w'.cell? ⟨w.heap.size, 2, none⟩ = some (.int .i64 c) ∧ w.heap.size < w'.heap.size ∧ Below w.heap.size w w')
    (first | exact held3_start bx2.out bl2 | exact held3_keep (by assumption) hb3 | exact held3_drewN (by assumption) _ | assumption | go_keep)
    (first | (go_at_call 77; refine (cnLeave_any a b c (sgn s 0) _ hd).mono ?_; rintro e w3 ⟨rfl, hb3⟩; rw [HP.out]))
  all_goals
    obtain ⟨hbx9, hbl9⟩ := held3_below (by assumption)
    obtain ⟨k0, k1, k2, k3⟩ := hbx9
    go_wp2_with fail
    go_ret3
    exact ⟨rfl, hbl9⟩

set_option maxHeartbeats 400000 in
theorem specUntil_zero (a b c : Int) (s t : ByteArray) (w : World) (hs : s.size ≤ maxLen) (ht : t.size ≤ maxLen) (h1 : (good a b c && dayS s) = true) (h2 : dayS t = true) (hq : (s.toList == t.toList) = true) (z1 : (chg a b (sgn s 0) == 0) = false) (z2 : (a + b - chg a b (sgn s 0) == 0) = true) :
    Calls Try.prog 39 #[chn a b c, .string s, .string t] w fun e w' => e = .returned (failV) ∧ Below w.heap.size w w' := by
  unfold failV
  have h1a : good a b c = true := by simp at h1; exact h1.1
  have h1b : dayS s = true := by simp at h1; exact h1.2
  have hr := inR_of h1a
  have r := hr
  unfold inR at r
  obtain ⟨r1, r2, r3, r4, r5, r6⟩ := r
  have zs : 0 < s.size := by rw [day_size h1b]; omega
  have zt : 0 < t.size := by rw [day_size h2]; omega
  have hd := day_val h1b
  have hf := day_val h2
  have e1 := sgn_at s 0 zs
  have e2 := sgn_at t 0 zt
  obtain ⟨g0, g1⟩ := chg_in hr (sgn s 0)
  obtain ⟨u0, u1⟩ := chg_in hr (219 - sgn s 0)
  rw [chg_sum hd] at u0 u1
  have hq2 : (s.toList != t.toList) = false := by rw [bne, hq]; rfl
  have h3 : (good a b c && dayS t) = true := by rw [h1a, h2]; rfl
  generalize hP : chg a b (sgn s 0) = P at *
  have HP := Lib.hid hP
  clear hP
  have bx0 := Lib.hid (Box3.new w (.int .i64 a) (.int .i64 b) (.int .i64 c) 25)
  have bl0 : Below w.heap.size w (w.alloc (.cells #[.int .i64 a, .int .i64 b, .int .i64 c] 25)) := bel_alloc (Below.refl _ _) _
  go_enter Try.func39, Try.ntmps39
  go_wp2_with fail
  refine (cnDay_any a b c s _ hs).mono ?_
  rintro e w1 ⟨rfl, hb1⟩
  rw [h1]
  have bx1 := Lib.hid (bx0.out.keep hb1)
  have bl1 := bel_trans bl0 hb1
  obtain ⟨c0_1, c1_1, c2_1, hk1⟩ := bx1.out
  go_wp2_with fail
  refine (cnDay_any a b c t _ ht).mono ?_
  rintro e w2 ⟨rfl, hb2⟩
  rw [h3]
  have bx2 := Lib.hid (bx1.out.keep hb2)
  have bl2 := bel_trans bl1 hb2
  obtain ⟨c0_2, c1_2, c2_2, hk2⟩ := bx2.out
  go_wp2_with fail
  go_region_held3 (fun w' => w'.cell? ⟨w.heap.size, 0, none⟩ = some (.int .i64 a) ∧ w'.cell? ⟨w.heap.size, 1, none⟩ = some (.int .i64 b) ∧ w'.cell? ⟨w.heap.size, 2, none⟩ = some (.int .i64 c) ∧ w.heap.size < w'.heap.size ∧ Below w.heap.size w w')
    (first | exact held3_start bx2.out bl2 | exact held3_keep (by assumption) hb3 | exact held3_drewN (by assumption) _ | assumption | go_keep)
    (first | (go_at_call 77; refine (cnLeave_any a b c (sgn s 0) _ hd).mono ?_; rintro e w3 ⟨rfl, hb3⟩; rw [HP.out]))
  all_goals
    obtain ⟨hbx9, hbl9⟩ := held3_below (by assumption)
    obtain ⟨k0, k1, k2, k3⟩ := hbx9
    go_wp2_with fail
    go_ret3
    exact ⟨rfl, hbl9⟩

set_option maxHeartbeats 400000 in
theorem specUntil_some (a b c : Int) (s t : ByteArray) (w : World) (hs : s.size ≤ maxLen) (ht : t.size ≤ maxLen) (h1 : (good a b c && dayS s) = true) (h2 : dayS t = true) (hq : (s.toList == t.toList) = true) (z1 : (chg a b (sgn s 0) == 0) = false) (z2 : (a + b - chg a b (sgn s 0) == 0) = false) :
    Calls Try.prog 39 #[chn a b c, .string s, .string t] w fun e w' => e = .returned (lowV (a + b) (a + b - chg a b (sgn s 0))) ∧ Below w.heap.size w w' := by
  unfold lowV
  have h1a : good a b c = true := by simp at h1; exact h1.1
  have h1b : dayS s = true := by simp at h1; exact h1.2
  have hr := inR_of h1a
  have r := hr
  unfold inR at r
  obtain ⟨r1, r2, r3, r4, r5, r6⟩ := r
  have zs : 0 < s.size := by rw [day_size h1b]; omega
  have zt : 0 < t.size := by rw [day_size h2]; omega
  have hd := day_val h1b
  have hf := day_val h2
  have e1 := sgn_at s 0 zs
  have e2 := sgn_at t 0 zt
  obtain ⟨g0, g1⟩ := chg_in hr (sgn s 0)
  obtain ⟨u0, u1⟩ := chg_in hr (219 - sgn s 0)
  rw [chg_sum hd] at u0 u1
  have hq2 : (s.toList != t.toList) = false := by rw [bne, hq]; rfl
  have h3 : (good a b c && dayS t) = true := by rw [h1a, h2]; rfl
  generalize hP : chg a b (sgn s 0) = P at *
  have HP := Lib.hid hP
  clear hP
  have z3 : 1 ≤ a + b - P := by simp at z2; omega
  have bx0 := Lib.hid (Box3.new w (.int .i64 a) (.int .i64 b) (.int .i64 c) 25)
  have bl0 : Below w.heap.size w (w.alloc (.cells #[.int .i64 a, .int .i64 b, .int .i64 c] 25)) := bel_alloc (Below.refl _ _) _
  go_enter Try.func39, Try.ntmps39
  go_wp2_with fail
  refine (cnDay_any a b c s _ hs).mono ?_
  rintro e w1 ⟨rfl, hb1⟩
  rw [h1]
  have bx1 := Lib.hid (bx0.out.keep hb1)
  have bl1 := bel_trans bl0 hb1
  obtain ⟨c0_1, c1_1, c2_1, hk1⟩ := bx1.out
  go_wp2_with fail
  refine (cnDay_any a b c t _ ht).mono ?_
  rintro e w2 ⟨rfl, hb2⟩
  rw [h3]
  have bx2 := Lib.hid (bx1.out.keep hb2)
  have bl2 := bel_trans bl1 hb2
  obtain ⟨c0_2, c1_2, c2_2, hk2⟩ := bx2.out
  go_wp2_with fail
  go_region_held3 (fun w' => w'.cell? ⟨w.heap.size, 0, none⟩ = some (.int .i64 a) ∧ w'.cell? ⟨w.heap.size, 1, none⟩ = some (.int .i64 b) ∧ w'.cell? ⟨w.heap.size, 2, none⟩ = some (.int .i64 c) ∧ w.heap.size < w'.heap.size ∧ Below w.heap.size w w')
    (first | exact held3_start bx2.out bl2 | exact held3_keep (by assumption) hb3 | exact held3_drewN (by assumption) _ | assumption | go_keep)
    (first | (go_at_call 77; refine (cnLeave_any a b c (sgn s 0) _ hd).mono ?_; rintro e w3 ⟨rfl, hb3⟩; rw [HP.out]))
  all_goals
    obtain ⟨hbx9, hbl9⟩ := held3_below (by assumption)
    obtain ⟨k0, k1, k2, k3⟩ := hbx9
    go_wp2_with fail
    refine (cnLow_any (a + b) (a + b - P) _ (by omega) z3 (by omega) (by omega)).mono ?_
    rintro e wd5 ⟨rfl, nd5, rfl⟩
    go_wp2_with fail
    go_ret3
    exact ⟨rfl, bel_drewN hbl9 _⟩

set_option maxHeartbeats 400000 in
theorem implUntil_no1 (a b c : Int) (s t : ByteArray) (w : World) (hs : s.size ≤ maxLen) (ht : t.size ≤ maxLen) (h1 : (good a b c && dayS s) = false) :
    Calls Try.prog 40 #[chn a b c, .string s, .string t] w fun e w' => e = .returned (failV) ∧ Below w.heap.size w w' := by
  unfold failV
  have bx0 := Lib.hid (Box3.new w (.int .i64 a) (.int .i64 b) (.int .i64 c) 25)
  have bl0 : Below w.heap.size w (w.alloc (.cells #[.int .i64 a, .int .i64 b, .int .i64 c] 25)) := bel_alloc (Below.refl _ _) _
  go_enter Try.func40, Try.ntmps40
  go_wp2_with fail
  refine (isDayOf_any a b c s _ hs).mono ?_
  rintro e w1 ⟨rfl, hb1⟩
  rw [h1]
  have bx1 := Lib.hid (bx0.out.keep hb1)
  have bl1 := bel_trans bl0 hb1
  obtain ⟨c0_1, c1_1, c2_1, hk1⟩ := bx1.out
  go_wp2_with fail
  go_ret3
  exact ⟨rfl, bl1⟩

set_option maxHeartbeats 400000 in
theorem implUntil_no2 (a b c : Int) (s t : ByteArray) (w : World) (hs : s.size ≤ maxLen) (ht : t.size ≤ maxLen) (h1 : (good a b c && dayS s) = true) (h2 : dayS t = false) :
    Calls Try.prog 40 #[chn a b c, .string s, .string t] w fun e w' => e = .returned (failV) ∧ Below w.heap.size w w' := by
  unfold failV
  have h1a : good a b c = true := by simp at h1; exact h1.1
  have bx0 := Lib.hid (Box3.new w (.int .i64 a) (.int .i64 b) (.int .i64 c) 25)
  have bl0 : Below w.heap.size w (w.alloc (.cells #[.int .i64 a, .int .i64 b, .int .i64 c] 25)) := bel_alloc (Below.refl _ _) _
  go_enter Try.func40, Try.ntmps40
  go_wp2_with fail
  refine (isDayOf_any a b c s _ hs).mono ?_
  rintro e w1 ⟨rfl, hb1⟩
  rw [h1]
  have bx1 := Lib.hid (bx0.out.keep hb1)
  have bl1 := bel_trans bl0 hb1
  obtain ⟨c0_1, c1_1, c2_1, hk1⟩ := bx1.out
  go_wp2_with fail
  refine (isDay_any _ _ ht).mono ?_
  rintro e w8 ⟨rfl, rfl⟩
  rw [h2]
  go_wp2_with fail
  go_ret3
  exact ⟨rfl, bl1⟩

def ansRun2 (a b c x : Int) : Value := if chg a b x == 0 then failV else lowV c (chg a b x)
def ansPair (a b c x y : Int) : Value := if x == y then ansSame a b x else ansRun2 a b c x
set_option maxHeartbeats 8000000 in
theorem implUntil_yes (a b c : Int) (s t : ByteArray) (w : World) (hs : s.size ≤ maxLen) (ht : t.size ≤ maxLen) (x y : Int) (hx : sgn s 0 = x) (hy : sgn t 0 = y) (hxx : y = x ∨ y = 219 - x) (h1 : (good a b c && dayS s) = true) (h2 : dayS t = true) :
    Calls Try.prog 40 #[chn a b c, .string s, .string t] w fun e w' => e = .returned (ansPair a b c x y) ∧ Below w.heap.size w w' := by
  have h1a : good a b c = true := by simp at h1; exact h1.1
  have h1b : dayS s = true := by simp at h1; exact h1.2
  have hr := inR_of h1a
  have r := hr
  unfold inR at r
  obtain ⟨r1, r2, r3, r4, r5, r6⟩ := r
  have zs : 0 < s.size := by rw [day_size h1b]; omega
  have zt : 0 < t.size := by rw [day_size h2]; omega
  have hd := day_val h1b
  have hf := day_val h2
  have e1 := sgn_at s 0 zs
  have e2 := sgn_at t 0 zt
  obtain ⟨g0, g1⟩ := chg_in hr (sgn s 0)
  obtain ⟨u0, u1⟩ := chg_in hr (219 - sgn s 0)
  rw [chg_sum hd] at u0 u1
  rw [hx] at e1 hd g0 g1 u0 u1
  rw [hy] at e2 hf
  clear hx hy
  have bx0 := Lib.hid (Box3.new w (.int .i64 a) (.int .i64 b) (.int .i64 c) 25)
  have bl0 : Below w.heap.size w (w.alloc (.cells #[.int .i64 a, .int .i64 b, .int .i64 c] 25)) := bel_alloc (Below.refl _ _) _
  go_enter Try.func40, Try.ntmps40
  go_wp2_with fail
  refine (isDayOf_any a b c s _ hs).mono ?_
  rintro e w1 ⟨rfl, hb1⟩
  rw [h1]
  have bx1 := Lib.hid (bx0.out.keep hb1)
  have bl1 := bel_trans bl0 hb1
  obtain ⟨c0_1, c1_1, c2_1, hk1⟩ := bx1.out
  go_wp2_with fail
  refine (isDay_any _ _ ht).mono ?_
  rintro e w8 ⟨rfl, rfl⟩
  rw [h2]
  go_wp2_with fail
  go_region
  all_goals
    have hkk : w.heap.size < w1.heap.size + 1 + 1 := by omega
    by_cases hxy : y = x
    · subst hxy
      cases z1 : (chg a b y == 0)
      · have z2' : 0 ≤ a + b - chg a b y := u0
        have z1n : ¬ chg a b y = 0 := by simpa using z1
        cases z2 : (a + b - chg a b y == 0)
        · have z3 : 1 ≤ a + b - chg a b y := by simp at z2; omega
          have z2n : ¬ a + b - chg a b y = 0 := by omega
          go_wp2_with fail
          refine (changing_any a b c y _ hd).mono ?_
          rintro e w3 ⟨rfl, hb3⟩
          obtain ⟨hc3, hf3⟩ := bcell hb3
          have hz3_0 : w.heap.size < w3.heap.size := Nat.lt_of_lt_of_le (by simp <;> omega) hb3.size
          have hz3_1 : w1.heap.size < w3.heap.size := Nat.lt_of_lt_of_le (by simp <;> omega) hb3.size
          have hz3_2 : w1.heap.size + 1 < w3.heap.size := Nat.lt_of_lt_of_le (by simp <;> omega) hb3.size
          go_wp2_with fail
          refine (turned_any a b c y _ hd).mono ?_
          rintro e w4 ⟨rfl, hb4⟩
          obtain ⟨hc4, hf4⟩ := bcell hb4
          have hz4_0 : w.heap.size < w4.heap.size := Nat.lt_of_lt_of_le (by assumption) hb4.size
          have hz4_1 : w1.heap.size < w4.heap.size := Nat.lt_of_lt_of_le (by assumption) hb4.size
          have hz4_2 : w1.heap.size + 1 < w4.heap.size := Nat.lt_of_lt_of_le (by assumption) hb4.size
          go_wp2_with fail
          refine (changing_any a b c (219 - y) _ (dayV_turn hd)).mono ?_
          rintro e w5 ⟨rfl, hb5⟩
          obtain ⟨hc5, hf5⟩ := bcell hb5
          have hz5_0 : w.heap.size < w5.heap.size := Nat.lt_of_lt_of_le (by assumption) hb5.size
          have hz5_1 : w1.heap.size < w5.heap.size := Nat.lt_of_lt_of_le (by assumption) hb5.size
          have hz5_2 : w1.heap.size + 1 < w5.heap.size := Nat.lt_of_lt_of_le (by assumption) hb5.size
          rw [chg_sum hd]
          go_wp2_with fail
          refine (changing_any a b c y _ hd).mono ?_
          rintro e w6 ⟨rfl, hb6⟩
          obtain ⟨hc6, hf6⟩ := bcell hb6
          have hz6_0 : w.heap.size < w6.heap.size := Nat.lt_of_lt_of_le (by assumption) hb6.size
          have hz6_1 : w1.heap.size < w6.heap.size := Nat.lt_of_lt_of_le (by assumption) hb6.size
          have hz6_2 : w1.heap.size + 1 < w6.heap.size := Nat.lt_of_lt_of_le (by assumption) hb6.size
          go_wp2_with fail
          refine (told_any (a + b) (a + b - chg a b y) _ (by omega) z3 (by omega) (by omega)).mono ?_
          rintro e wd7 ⟨rfl, nd7, rfl⟩
          go_wp2_with fail
          go_ret3
          refine ⟨by rw [show ansPair a b c y y = lowV (a + b) (a + b - chg a b y) from by unfold ansPair ansSame ansRun2; simp [z1n, z2n]]; rfl, ?_⟩
          repeat (first | assumption | with_reducible exact Below.refl _ _ | refine bel_alloc ?_ _ | refine bel_drewN ?_ _ | refine Below.drew ?_ | (refine Below.setCell ?_ (by simp) _) | (refine bel_trans ?_ (by assumption)))
        · have z2n : a + b - chg a b y = 0 := by simpa using z2
          have Z2n := Lib.hid z2n
          clear z2n
          go_wp2_with fail
          refine (changing_any a b c y _ hd).mono ?_
          rintro e w3 ⟨rfl, hb3⟩
          obtain ⟨hc3, hf3⟩ := bcell hb3
          have hz3_0 : w.heap.size < w3.heap.size := Nat.lt_of_lt_of_le (by simp <;> omega) hb3.size
          have hz3_1 : w1.heap.size < w3.heap.size := Nat.lt_of_lt_of_le (by simp <;> omega) hb3.size
          have hz3_2 : w1.heap.size + 1 < w3.heap.size := Nat.lt_of_lt_of_le (by simp <;> omega) hb3.size
          go_wp2_with fail
          refine (turned_any a b c y _ hd).mono ?_
          rintro e w4 ⟨rfl, hb4⟩
          obtain ⟨hc4, hf4⟩ := bcell hb4
          have hz4_0 : w.heap.size < w4.heap.size := Nat.lt_of_lt_of_le (by assumption) hb4.size
          have hz4_1 : w1.heap.size < w4.heap.size := Nat.lt_of_lt_of_le (by assumption) hb4.size
          have hz4_2 : w1.heap.size + 1 < w4.heap.size := Nat.lt_of_lt_of_le (by assumption) hb4.size
          go_wp2_with fail
          refine (changing_any a b c (219 - y) _ (dayV_turn hd)).mono ?_
          rintro e w5 ⟨rfl, hb5⟩
          obtain ⟨hc5, hf5⟩ := bcell hb5
          have hz5_0 : w.heap.size < w5.heap.size := Nat.lt_of_lt_of_le (by assumption) hb5.size
          have hz5_1 : w1.heap.size < w5.heap.size := Nat.lt_of_lt_of_le (by assumption) hb5.size
          have hz5_2 : w1.heap.size + 1 < w5.heap.size := Nat.lt_of_lt_of_le (by assumption) hb5.size
          rw [chg_sum hd]
          go_wp2_with fail
          go_ret3
          refine ⟨by rw [show ansPair a b c y y = failV from by unfold ansPair ansSame ansRun2; simp [z1n, Z2n.out]]; rfl, ?_⟩
          repeat (first | assumption | with_reducible exact Below.refl _ _ | refine bel_alloc ?_ _ | refine bel_drewN ?_ _ | refine Below.drew ?_ | (refine Below.setCell ?_ (by simp) _) | (refine bel_trans ?_ (by assumption)))
      · have z1n : chg a b y = 0 := by simpa using z1
        have Z1n := Lib.hid z1n
        clear z1n
        go_wp2_with fail
        refine (changing_any a b c y _ hd).mono ?_
        rintro e w3 ⟨rfl, hb3⟩
        obtain ⟨hc3, hf3⟩ := bcell hb3
        have hz3_0 : w.heap.size < w3.heap.size := Nat.lt_of_lt_of_le (by simp <;> omega) hb3.size
        have hz3_1 : w1.heap.size < w3.heap.size := Nat.lt_of_lt_of_le (by simp <;> omega) hb3.size
        have hz3_2 : w1.heap.size + 1 < w3.heap.size := Nat.lt_of_lt_of_le (by simp <;> omega) hb3.size
        go_wp2_with fail
        go_ret3
        refine ⟨by rw [show ansPair a b c y y = oneV from by unfold ansPair ansSame ansRun2; simp [Z1n.out]]; rfl, ?_⟩
        repeat (first | assumption | with_reducible exact Below.refl _ _ | refine bel_alloc ?_ _ | refine bel_drewN ?_ _ | refine Below.drew ?_ | (refine Below.setCell ?_ (by simp) _) | (refine bel_trans ?_ (by assumption)))
    · have hyx : y = 219 - x := by
        rcases hxx with h | h
        · exact absurd h hxy
        · exact h
      have hne : (x == y) = false := by simp; omega
      have hne2 : ¬ x = y := by omega
      have Hyx := Lib.hid hyx
      clear hyx
      cases z1 : (chg a b x == 0)
      · have z3 : 1 ≤ chg a b x := by simp at z1; omega
        have z1n : ¬ chg a b x = 0 := by omega
        go_wp2_with fail
        refine (turned_any a b c y _ hf).mono ?_
        rintro e w4 ⟨rfl, hb4⟩
        obtain ⟨hc4, hf4⟩ := bcell hb4
        have hz4_0 : w.heap.size < w4.heap.size := Nat.lt_of_lt_of_le (by simp <;> omega) hb4.size
        have hz4_1 : w1.heap.size < w4.heap.size := Nat.lt_of_lt_of_le (by simp <;> omega) hb4.size
        have hz4_2 : w1.heap.size + 1 < w4.heap.size := Nat.lt_of_lt_of_le (by simp <;> omega) hb4.size
        go_wp2_with fail
        refine (changing_any a b c (219 - y) _ (dayV_turn hf)).mono ?_
        rintro e w5 ⟨rfl, hb5⟩
        obtain ⟨hc5, hf5⟩ := bcell hb5
        have hz5_0 : w.heap.size < w5.heap.size := Nat.lt_of_lt_of_le (by assumption) hb5.size
        have hz5_1 : w1.heap.size < w5.heap.size := Nat.lt_of_lt_of_le (by assumption) hb5.size
        have hz5_2 : w1.heap.size + 1 < w5.heap.size := Nat.lt_of_lt_of_le (by assumption) hb5.size
        rw [show 219 - y = x from by have := Hyx.out; omega]
        go_wp2_with fail
        refine (told_any c (chg a b x) _ (by omega) z3 (by omega) (by omega)).mono ?_
        rintro e wd7 ⟨rfl, nd7, rfl⟩
        go_wp2_with fail
        go_ret3
        refine ⟨by rw [show ansPair a b c x y = lowV c (chg a b x) from by unfold ansPair ansSame ansRun2; simp [hne2, z1n]]; rfl, ?_⟩
        repeat (first | assumption | with_reducible exact Below.refl _ _ | refine bel_alloc ?_ _ | refine bel_drewN ?_ _ | refine Below.drew ?_ | (refine Below.setCell ?_ (by simp) _) | (refine bel_trans ?_ (by assumption)))
      · have z1n : chg a b x = 0 := by simpa using z1
        have Z1n := Lib.hid z1n
        clear z1n
        go_wp2_with fail
        refine (turned_any a b c y _ hf).mono ?_
        rintro e w4 ⟨rfl, hb4⟩
        obtain ⟨hc4, hf4⟩ := bcell hb4
        have hz4_0 : w.heap.size < w4.heap.size := Nat.lt_of_lt_of_le (by simp <;> omega) hb4.size
        have hz4_1 : w1.heap.size < w4.heap.size := Nat.lt_of_lt_of_le (by simp <;> omega) hb4.size
        have hz4_2 : w1.heap.size + 1 < w4.heap.size := Nat.lt_of_lt_of_le (by simp <;> omega) hb4.size
        go_wp2_with fail
        refine (changing_any a b c (219 - y) _ (dayV_turn hf)).mono ?_
        rintro e w5 ⟨rfl, hb5⟩
        obtain ⟨hc5, hf5⟩ := bcell hb5
        have hz5_0 : w.heap.size < w5.heap.size := Nat.lt_of_lt_of_le (by assumption) hb5.size
        have hz5_1 : w1.heap.size < w5.heap.size := Nat.lt_of_lt_of_le (by assumption) hb5.size
        have hz5_2 : w1.heap.size + 1 < w5.heap.size := Nat.lt_of_lt_of_le (by assumption) hb5.size
        rw [show 219 - y = x from by have := Hyx.out; omega]
        go_wp2_with fail
        go_ret3
        refine ⟨by rw [show ansPair a b c x y = failV from by unfold ansPair ansSame ansRun2; simp [hne2, Z1n.out]]; rfl, ?_⟩
        repeat (first | assumption | with_reducible exact Below.refl _ _ | refine bel_alloc ?_ _ | refine bel_drewN ?_ _ | refine Below.drew ?_ | (refine Below.setCell ?_ (by simp) _) | (refine bel_trans ?_ (by assumption)))

theorem specUntil_any (a b c : Int) (s t : ByteArray) (w : World) (hs : s.size ≤ maxLen) (ht : t.size ≤ maxLen) :
    Calls Try.prog 39 #[chn a b c, .string s, .string t] w fun e w' => e = .returned (ansUntil a b c s t) ∧ Below w.heap.size w w' := by
  cases h1 : (good a b c && dayS s)
  · rw [show ansUntil a b c s t = failV from by unfold ansUntil; rw [h1]; rfl]
    exact specUntil_no1 a b c s t w hs ht h1
  · cases h2 : dayS t
    · rw [show ansUntil a b c s t = failV from by unfold ansUntil; rw [h1, h2]; rfl]
      exact specUntil_no2 a b c s t w hs ht h1 h2
    · cases hq : (s.toList == t.toList)
      · rw [show ansUntil a b c s t = ansRun a b c s from by unfold ansUntil; rw [h1, h2, hq]; rfl]
        exact specUntil_diff a b c s t w hs ht h1 h2 hq
      · rw [show ansUntil a b c s t = ansSame a b (sgn s 0) from by unfold ansUntil; rw [h1, h2, hq]; rfl]
        cases z1 : (chg a b (sgn s 0) == 0)
        · cases z2 : (a + b - chg a b (sgn s 0) == 0)
          · rw [show ansSame a b (sgn s 0) = lowV (a + b) (a + b - chg a b (sgn s 0)) from by unfold ansSame; rw [z1, z2]; rfl]
            exact specUntil_some a b c s t w hs ht h1 h2 hq z1 z2
          · rw [show ansSame a b (sgn s 0) = failV from by unfold ansSame; rw [z1, z2]; rfl]
            exact specUntil_zero a b c s t w hs ht h1 h2 hq z1 z2
        · rw [show ansSame a b (sgn s 0) = oneV from by unfold ansSame; rw [z1]; rfl]
          exact specUntil_never a b c s t w hs ht h1 h2 hq z1

theorem implUntil_any (a b c : Int) (s t : ByteArray) (w : World) (hs : s.size ≤ maxLen) (ht : t.size ≤ maxLen) :
    Calls Try.prog 40 #[chn a b c, .string s, .string t] w fun e w' => e = .returned (ansUntil a b c s t) ∧ Below w.heap.size w w' := by
  cases h1 : (good a b c && dayS s)
  · rw [show ansUntil a b c s t = failV from by unfold ansUntil; rw [h1]; rfl]
    exact implUntil_no1 a b c s t w hs ht h1
  · cases h2 : dayS t
    · rw [show ansUntil a b c s t = failV from by unfold ansUntil; rw [h1, h2]; rfl]
      exact implUntil_no2 a b c s t w hs ht h1 h2
    · have h1a : good a b c = true := by simp at h1; exact h1.1
      have h1b : dayS s = true := by simp at h1; exact h1.2
      have hd := day_val h1b
      cases hq : (s.toList == t.toList)
      · have hy := sgn_other h1b h2 hq
        have hne : ¬ sgn s 0 = sgn t 0 := by rw [hy]; unfold dayV at hd; omega
        rw [show ansUntil a b c s t = ansPair a b c (sgn s 0) (sgn t 0) from by unfold ansUntil ansPair ansRun ansRun2; rw [h1, h2, hq]; simp [hne]]
        exact implUntil_yes a b c s t w hs ht _ _ rfl rfl (.inr hy) h1 h2
      · have hy := sgn_same hq
        rw [show ansUntil a b c s t = ansPair a b c (sgn s 0) (sgn t 0) from by unfold ansUntil ansPair; rw [h1, h2, hq, hy]; simp]
        exact implUntil_yes a b c s t w hs ht _ _ rfl rfl (.inl hy) h1 h2

set_option maxHeartbeats 800000 in
theorem walkExactMeanUntil (a b c : Int) (s : ByteArray) (t : ByteArray) (w : World) (ha : (Lit.int .i64 a).wf = true) (hb : (Lit.int .i64 b).wf = true) (hc : (Lit.int .i64 c).wf = true) (hs : s.size ≤ maxLen) (ht : t.size ≤ maxLen) :
    Calls Try.prog 12 #[chn a b c, .string s, .string t] w fun e w' => e = .returned (.bool true) ∧ Below w.heap.size w w' := by
  clear ha hb hc
  by_cases zs : s.size ≤ 1048576
  · skip
    by_cases zt : t.size ≤ 1048576
    · skip
      obtain ⟨x, y, o, hv⟩ := ansUntil_form a b c s t
      have Hv := Lib.hid hv
      clear hv
      have bx0 := Lib.hid (Box3.new w (.int .i64 a) (.int .i64 b) (.int .i64 c) 23)
      have bl0 : Below w.heap.size w (w.alloc (.cells #[.int .i64 a, .int .i64 b, .int .i64 c] 23)) := bel_alloc (Below.refl _ _) _
      go_enter Try.func12, Try.ntmps12
      go_wp2_with fail
      refine (toChain_any _ _ _ _).mono ?_
      rintro e w1 ⟨rfl, hb1⟩
      have bx1 := Lib.hid (bx0.out.keep hb1)
      have bl1 := bel_trans bl0 hb1
      obtain ⟨c0_1, c1_1, c2_1, hk1⟩ := bx1.out
      go_wp2_with fail
      refine (specUntil_any a b c s t _ hs ht).mono ?_
      rintro e w2 ⟨rfl, hb2⟩
      rw [Hv.out]
      have bx2 := Lib.hid (bx1.out.keep hb2)
      have bl2 := bel_trans bl1 hb2
      obtain ⟨c0_2, c1_2, c2_2, hk2⟩ := bx2.out
      go_wp2_with fail
      refine (toChain_any _ _ _ _).mono ?_
      rintro e w3 ⟨rfl, hb3⟩
      have bx3 := Lib.hid (bx2.out.keep hb3)
      have bl3 := bel_trans bl2 hb3
      obtain ⟨c0_3, c1_3, c2_3, hk3⟩ := bx3.out
      go_wp2_with fail
      refine (implUntil_any a b c s t _ hs ht).mono ?_
      rintro e w4 ⟨rfl, hb4⟩
      rw [Hv.out]
      have bx4 := Lib.hid (bx3.out.keep hb4)
      have bl4 := bel_trans bl3 hb4
      obtain ⟨c0_4, c1_4, c2_4, hk4⟩ := bx4.out
      go_wp2_with fail
      go_ret
      exact ⟨rfl, bl4⟩
    · go_enter Try.func12, Try.ntmps12
      go_wp2
      go_ret
      exact ⟨rfl, bel_alloc (Below.refl _ _) _⟩
  · go_enter Try.func12, Try.ntmps12
    go_wp2
    go_ret
    exact ⟨rfl, bel_alloc (Below.refl _ _) _⟩
end Go.Proofs.Ytkehgokgngimgaa
