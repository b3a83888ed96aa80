/- ChanceOfStep: the contracts of the program and of its model. -/
import Derived.Test.YthnjkjdfdhdcfaaSt1
namespace Go.Proofs.Ythnjkjdfdhdcfaa
open Go.ChangeShapes Go.WideShapes Go.ChangeAt Go.RowKit
set_option linter.unusedVariables false

def failV : Value := .tuple #[.int .i64 0, .int .i64 0, .bool false]
def lowV (num den : Int) : Value := .tuple #[.int .i64 (low num num den), .int .i64 (low den num den), .bool true]
theorem failV_form : ∃ (x y : Int) (o : Bool), failV = .tuple #[.int .i64 x, .int .i64 y, .bool o] := ⟨0, 0, false, rfl⟩
theorem lowV_form (n d : Int) : ∃ (x y : Int) (o : Bool), lowV n d = .tuple #[.int .i64 x, .int .i64 y, .bool o] := ⟨_, _, true, rfl⟩
theorem if_form {p : Value → Prop} {c : Bool} {a b : Value} (ha : p a) (hb : p b) : p (if c then a else b) := by cases c <;> assumption

theorem rdI_two (W : World) (x y : Int) (n : Nat) (hn : n = W.heap.size) : RdIS (W.alloc (.cells #[.int .i64 x, .int .i64 y] 3)) (.slice (some ⟨n, 0, none⟩) 2 2) [x, y] := by
  subst hn
  refine ⟨_, 2, rfl, by simp, by simp [maxLen], fun _ => ⟨_, rfl, by simp, fun k hk => ?_⟩⟩
  rw [Addr.add_lit, Nat.zero_add]
  match k, hk with
  | 0, _ => simp [go_sem]
  | 1, _ => simp [go_sem]
theorem rdI_one (W : World) (x : Int) (n : Nat) (hn : n = W.heap.size) : RdIS (W.alloc (.cells #[.int .i64 x] 3)) (.slice (some ⟨n, 0, none⟩) 1 1) [x] := by
  subst hn
  refine ⟨_, 1, rfl, by simp, by simp [maxLen], fun _ => ⟨_, rfl, by simp, fun k hk => ?_⟩⟩
  rw [Addr.add_lit, Nat.zero_add]
  match k, hk with
  | 0, _ => simp [go_sem]

/-- There are states, and those two. -/
def ask2 (lim : Int) (m : List (List Int)) (f t : Int) : Bool := saG lim m && (inB f 0 ((m.length : Int) - 1) && inB t 0 ((m.length : Int) - 1))
theorem ask2_askB (lim : Int) (m : List (List Int)) (f t : Int) : (saG lim m && askB m.length [f, t]) = ask2 lim m f t := by simp [ask2, askB]
theorem ask2_good {lim : Int} {m : List (List Int)} {f t : Int} (h : ask2 lim m f t = true) : Good lim m ∧ ∃ i j : Nat, f = i ∧ t = j ∧ i < m.length ∧ j < m.length := by
  simp only [ask2, Bool.and_eq_true, inB_iff] at h
  obtain ⟨h1, h2, h3⟩ := h
  refine ⟨good_of h1, f.toNat, t.toNat, by omega, by omega, by omega, by omega⟩

set_option maxHeartbeats 800000 in
theorem saAsked_any (lim : Int) (m : List (List Int)) (v : Value) (B : Nat) (f t : Int) (w : World) (h : RdM w B v m) (hB : B ≤ w.heap.size) :
    Calls Try.prog 71 #[sts lim v, .int .i64 f, .int .i64 t] w fun e w' => e = .returned (.bool (ask2 lim m f t)) ∧ Below w.heap.size w w' := by
  obtain ⟨A, cap, rfl, l0, m0⟩ := h.form
  have hbl := bel_alloc (Below.refl _ w) (.cells #[.int .i64 lim, .slice A m.length cap] 27)
  have H := Lib.hid (h.below hbl hB)
  have bx := Lib.hid (Box2.new w (.int .i64 lim) (.slice A m.length cap) 27)
  clear h
  cases h1 : saG lim m with
  | false =>
    have hr : ask2 lim m f t = false := by simp [ask2, h1]
    rw [hr]; clear hr
    have H1 := Lib.hid h1
    clear h1
    go_enter Try.func71, Try.ntmps71
    go_wp2_with fail
    refine (saGood_any lim m _ _ _ H.out (Nat.le_trans hB hbl.size)).mono ?_
    rw [H1.out]
    rintro e w1 ⟨rfl, b1⟩
    go_wp2_with fail
    go_ret
    exact ⟨rfl, bel_trans hbl b1⟩
  | true =>
    have hg := good_of h1
    have hn1 := hg.one
    have hn5 := hg.five
    clear hg
    have H1 := Lib.hid h1
    cases h2 : inB f 0 ((m.length : Int) - 1) with
    | false =>
      have hr : ask2 lim m f t = false := by simp [ask2, h2]
      rw [hr]; clear hr
      have H2 := Lib.hid h2
      clear h1 h2
      go_enter Try.func71, Try.ntmps71
      go_wp2_with fail
      refine (saGood_any lim m _ _ _ H.out (Nat.le_trans hB hbl.size)).mono ?_
      rw [H1.out]
      rintro e w1 ⟨rfl, b1⟩
      obtain ⟨c0, c1, c2⟩ := bx.out.keep b1
      go_wp2_with (go_at_call 75; refine (l1In_any _ _ _ _).mono ?_; rintro e w' ⟨rfl, rfl⟩; rw [H2.out])
      go_ret
      exact ⟨rfl, bel_trans hbl b1⟩
    | true =>
      generalize hq : inB t 0 ((m.length : Int) - 1) = q at *
      have hr : ask2 lim m f t = q := by simp [ask2, h1, h2, hq]
      rw [hr]; clear hr
      have H2 := Lib.hid h2
      have H3 := Lib.hid hq
      clear h1 h2 hq
      go_enter Try.func71, Try.ntmps71
      go_wp2_with fail
      refine (saGood_any lim m _ _ _ H.out (Nat.le_trans hB hbl.size)).mono ?_
      rw [H1.out]
      rintro e w1 ⟨rfl, b1⟩
      obtain ⟨c0, c1, c2⟩ := bx.out.keep b1
      go_wp2_with fail
      refine (l1In_any _ _ _ _).mono ?_
      rw [H2.out]
      rintro e w' ⟨rfl, rfl⟩
      go_wp2_with fail
      refine (l1In_any _ _ _ _).mono ?_
      rw [H3.out]
      rintro e w' ⟨rfl, rfl⟩
      go_wp2_with fail
      go_ret
      exact ⟨rfl, bel_trans hbl b1⟩

def ansStep (lim : Int) (m : List (List Int)) (f t : Int) : Value := if ask2 lim m f t then lowV (atM m f.toNat t.toNat) lim else failV
theorem ansStep_form (lim : Int) (m : List (List Int)) (f t : Int) : ∃ (x y : Int) (o : Bool), ansStep lim m f t = .tuple #[.int .i64 x, .int .i64 y, .bool o] := by
  unfold ansStep
  cases ask2 lim m f t
  · exact failV_form
  · exact lowV_form _ _

set_option maxHeartbeats 800000 in
theorem specStep_any (lim : Int) (m : List (List Int)) (v : Value) (B : Nat) (f t : Int) (w : World) (h : RdM w B v m) (hB : B ≤ w.heap.size) :
    Calls Try.prog 25 #[sts lim v, .int .i64 f, .int .i64 t] w fun e w' => e = .returned (ansStep lim m f t) ∧ Below w.heap.size w w' := by
  obtain ⟨A, cap, rfl, l0, m0⟩ := h.form
  have hbl := bel_alloc (Below.refl _ w) (.cells #[.int .i64 lim, .slice A m.length cap] 27)
  have H := Lib.hid (h.below hbl hB)
  have bx := Lib.hid (Box2.new w (.int .i64 lim) (.slice A m.length cap) 27)
  clear h
  cases h1 : ask2 lim m f t with
  | false =>
    rw [show ansStep lim m f t = failV from by simp [ansStep, h1]]
    unfold failV
    have H1 := Lib.hid h1
    clear h1
    go_enter Try.func25, Try.ntmps25
    go_wp2_with fail
    refine (saAsked_any lim m _ _ f t _ H.out (Nat.le_trans hB hbl.size)).mono ?_
    rw [H1.out]
    rintro e w1 ⟨rfl, b1⟩
    go_wp2_with fail
    go_ret3
    exact ⟨rfl, bel_trans hbl b1⟩
  | true =>
    rw [show ansStep lim m f t = lowV (atM m f.toNat t.toNat) lim from by simp [ansStep, h1]]
    unfold lowV
    have H1 := Lib.hid h1
    obtain ⟨hg, i, j, rfl, rfl, hi, hj⟩ := ask2_good h1
    obtain ⟨p0, p1⟩ := hg.num i j
    have q0 := hg.lo
    have q1 := hg.hi
    have hi5 : i < 5 := by have := hg.five; omega
    have hrow := hg.row i hi
    clear h1 hg
    rw [show (i : Int).toNat = i from rfl, show (j : Int).toNat = j from rfl]
    go_enter Try.func25, Try.ntmps25
    go_wp2_with fail
    refine (saAsked_any lim m _ _ i j _ H.out (Nat.le_trans hB hbl.size)).mono ?_
    rw [H1.out]
    rintro e w1 ⟨rfl, b1⟩
    obtain ⟨c0, c1, c2⟩ := bx.out.keep b1
    obtain ⟨ad, A', cap', rfl, hab, e0, r0, l1, m1⟩ := (H.out.below b1 (Nat.le_trans hB hbl.size)).at_ hi
    obtain ⟨ad2, rfl, _, e1⟩ := r0.at_ (k := j) (by omega)
    have e2 : w1.cell? (ad2.add j) = some (.int .i64 (atM m i j)) := e1
    clear e1 r0
    rw [hrow] at e0 l1
    generalize hx : atM m i j = x at *
    have Hx := Lib.hid hx
    clear hx
    have k1 : (i : Int) < (m.length : Int) := by omega
    have k2 : (j : Int) < (m.length : Int) := by omega
    clear hrow
    go_wp2_with fail
    go_quiet ((go_at_call 72; exact Calls.quiet_of (cnLow_any x lim _ p0 q0 (by omega) (by omega))))
    go_wp2_with fail
    go_ret3
    exact ⟨by rw [Hx.out]; rfl, bel_drewN (bel_trans hbl b1) _⟩

set_option maxRecDepth 100000 in
set_option maxHeartbeats 1600000 in
theorem implStep_any (lim : Int) (m : List (List Int)) (v : Value) (B : Nat) (f t : Int) (w : World) (h : RdM w B v m) (hB : B ≤ w.heap.size) :
    Calls Try.prog 26 #[sts lim v, .int .i64 f, .int .i64 t] w fun e w' => e = .returned (ansStep lim m f t) ∧ Below w.heap.size w w' := by
  obtain ⟨A, cap, rfl, l0, m0⟩ := h.form
  have hbl := bel_alloc (bel_alloc (Below.refl _ w) (.cells #[.int .i64 lim, .slice A m.length cap] 27)) (.cells #[.int .i64 f, .int .i64 t] 3)
  have H := Lib.hid (h.below hbl hB)
  have hR := Lib.hid (rdI_two (w.alloc (.cells #[.int .i64 lim, .slice A m.length cap] 27)) f t _ (size1 w _))
  have hq := Lib.hid (ask2_askB lim m f t)
  obtain ⟨a, b, g, hm, hy⟩ := mvOf_form lim m
  have Hm := Lib.hid hm
  have g1 : (mvC a b g)[1]? = some (.int .i64 b) := rfl
  have g0 : (mvC a b g)[0]? = some (.int .i64 a) := rfl
  clear h hm
  cases h1 : ask2 lim m f t with
  | false =>
    rw [show ansStep lim m f t = failV from by simp [ansStep, h1]]
    unfold failV
    have H1 := Lib.hid h1
    clear h1 hy
    go_enter Try.func26, Try.ntmps26
    go_wp2_with fail
    refine (movesAt_any lim m _ _ [f, t] _ _ _ H.out (Nat.le_trans hB hbl.size) hR.out (Nat.le_refl _)).mono ?_
    unfold MvAtAns
    rw [hq.out, H1.out, Hm.out]
    rintro e w1 ⟨rfl, b1⟩
    go_wp2_with (first
      | (refine wpList_alloc_row rfl 72 rfl (mvC 0 0 zer) (mv_zero _) ?_)
      | (refine wpList_store_new (k := w1.heap.size) (c' := mvC a b g) rfl 72 (.tmp 9) (.tmp 17) rfl rfl ?_ ?_ mv_info rfl (mvC_one _ _ _) ?_; (· simp [Act.put, Act.eval]); (· simp [Act.put, Act.eval])))
    go_ret3
    exact ⟨rfl, bel_alloc (bel_trans hbl b1) _⟩
  | true =>
    rw [show ansStep lim m f t = lowV (atM m f.toNat t.toNat) lim from by simp [ansStep, h1]]
    unfold lowV
    have H1 := Lib.hid h1
    have hs : saG lim m = true := by simp only [ask2, Bool.and_eq_true] at h1; exact h1.1
    obtain ⟨rfl, rfl, rfl⟩ := hy hs
    obtain ⟨hg, i, j, rfl, rfl, hi, hj⟩ := ask2_good h1
    obtain ⟨p0, p1⟩ := hg.num i j
    have q0 := hg.lo
    have q1 := hg.hi
    have n5 := hg.five
    have k1 : (i : Int) < 5 := by omega
    have k2 : (j : Int) < 5 := by omega
    have hgt := mvC_get a (m.length : Int) (gridM m) (i * 5 + j) (by omega)
    rw [← Nat.add_assoc, show gridM m (i * 5 + j) = atM m i j from by unfold gridM; congr 1 <;> omega] at hgt
    clear h1 hg hs hy
    rw [show (i : Int).toNat = i from rfl, show (j : Int).toNat = j from rfl]
    generalize atM m i j = x at *
    go_enter Try.func26, Try.ntmps26
    go_wp2_with fail
    refine (movesAt_any a m _ _ [(i : Int), (j : Int)] _ _ _ H.out (Nat.le_trans hB hbl.size) hR.out (Nat.le_refl _)).mono ?_
    unfold MvAtAns
    rw [hq.out, H1.out, Hm.out]
    rintro e w1 ⟨rfl, b1⟩
    go_wp2_with (first
      | (refine wpList_alloc_row rfl 72 rfl (mvC 0 0 zer) (mv_zero _) ?_)
      | (refine wpList_store_new (k := w1.heap.size) (c' := mvC a m.length (gridM m)) rfl 72 (.tmp 9) (.tmp 17) rfl rfl ?_ ?_ mv_info rfl (mvC_one _ _ _) ?_; (· simp [Act.put, Act.eval]); (· simp [Act.put, Act.eval])))
    go_quiet ((go_at_call 74; exact Calls.quiet_of (told_any x a _ p0 q0 (by omega) (by omega))))
    go_wp2_with fail
    go_ret3
    exact ⟨rfl, bel_drewN (bel_alloc (bel_trans hbl b1) _) _⟩
end Go.Proofs.Ythnjkjdfdhdcfaa
