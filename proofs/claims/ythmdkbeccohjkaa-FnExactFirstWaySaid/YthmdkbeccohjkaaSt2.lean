/- ChanceOfStep: the contracts of the program and of its model. -/
import Derived.Test.YthmdkbeccohjkaaSt1
namespace Go.Proofs.Ythmdkbeccohjkaa
set_option linter.unusedSimpArgs false
open Go.ChangeShapes Go.WideShapes Go.ChangeAt Go.RowKit
set_option linter.unusedVariables false

def failV : Value := .tuple #[.int .i64 0, .int .i64 0, .bool false]
def lowV (num den : Int) : Value := .tuple #[.int .i64 (low num num den), .int .i64 (low den num den), .bool true]
theorem failV_form : ∃ (x y : Int) (o : Bool), failV = .tuple #[.int .i64 x, .int .i64 y, .bool o] := ⟨0, 0, false, rfl⟩
theorem lowV_form (n d : Int) : ∃ (x y : Int) (o : Bool), lowV n d = .tuple #[.int .i64 x, .int .i64 y, .bool o] := ⟨_, _, true, rfl⟩
theorem if_form {p : Value → Prop} {c : Bool} {a b : Value} (ha : p a) (hb : p b) : p (if c then a else b) := by cases c <;> assumption

theorem rdI_two (W : World) (x y : Int) (n : Nat) (hn : n = W.heap.size) : RdIS (W.alloc (.cells #[.int .i64 x, .int .i64 y] 3)) (.slice (some ⟨n, 0, none⟩) 2 2) [x, y] := by
  subst hn
  refine ⟨_, 2, rfl, by simp, by simp [maxLen], fun _ => ⟨_, rfl, by simp, fun k hk => ?_⟩⟩
  rw [Addr.add_lit, Nat.zero_add]
  match k, hk with
  | 0, _ => simp [go_sem]
  | 1, _ => simp [go_sem]
theorem rdI_one (W : World) (x : Int) (n : Nat) (hn : n = W.heap.size) : RdIS (W.alloc (.cells #[.int .i64 x] 3)) (.slice (some ⟨n, 0, none⟩) 1 1) [x] := by
  subst hn
  refine ⟨_, 1, rfl, by simp, by simp [maxLen], fun _ => ⟨_, rfl, by simp, fun k hk => ?_⟩⟩
  rw [Addr.add_lit, Nat.zero_add]
  match k, hk with
  | 0, _ => simp [go_sem]

/-- There are states, and those two. -/
def ask2 (lim : Int) (m : List (List Int)) (f t : Int) : Bool := saG lim m && (inB f 0 ((m.length : Int) - 1) && inB t 0 ((m.length : Int) - 1))
theorem ask2_askB (lim : Int) (m : List (List Int)) (f t : Int) : (saG lim m && askB m.length [f, t]) = ask2 lim m f t := by simp [ask2, askB]
theorem ask2_good {lim : Int} {m : List (List Int)} {f t : Int} (h : ask2 lim m f t = true) : Good lim m ∧ ∃ i j : Nat, f = i ∧ t = j ∧ i < m.length ∧ j < m.length := by
  simp only [ask2, Bool.and_eq_true, inB_iff] at h
  obtain ⟨h1, h2, h3⟩ := h
  refine ⟨good_of h1, f.toNat, t.toNat, by omega, by omega, by omega, by omega⟩

set_option maxHeartbeats 800000 in
theorem saAsked_any (lim : Int) (m : List (List Int)) (v : Value) (B : Nat) (f t : Int) (w : World) (h : RdM w B v m) (hB : B ≤ w.heap.size) :
    Calls Try.prog 14 #[sts lim v, .int .i64 f, .int .i64 t] w fun e w' => e = .returned (.bool (ask2 lim m f t)) ∧ Below w.heap.size w w' := by
  obtain ⟨A, cap, rfl, l0, m0⟩ := h.form
  have hbl := bel_alloc (Below.refl _ w) (.cells #[.int .i64 lim, .slice A m.length cap] 29)
  have H := Lib.hid (h.below hbl hB)
  have bx := Lib.hid (Box2.new w (.int .i64 lim) (.slice A m.length cap) 29)
  clear h
  cases h1 : saG lim m with
  | false =>
    have hr : ask2 lim m f t = false := by simp [ask2, h1]
    rw [hr]; clear hr
    have H1 := Lib.hid h1
    clear h1
    go_enter Try.func14, Try.ntmps14
    go_wp2_with fail
    refine (saGood_any lim m _ _ _ H.out (Nat.le_trans hB hbl.size)).mono ?_
    rw [H1.out]
    rintro e w1 ⟨rfl, b1⟩
    go_wp2_with fail
    go_ret
    exact ⟨rfl, bel_trans hbl b1⟩
  | true =>
    have hg := good_of h1
    have hn1 := hg.one
    have hn5 := hg.five
    clear hg
    have H1 := Lib.hid h1
    cases h2 : inB f 0 ((m.length : Int) - 1) with
    | false =>
      have hr : ask2 lim m f t = false := by simp [ask2, h2]
      rw [hr]; clear hr
      have H2 := Lib.hid h2
      clear h1 h2
      go_enter Try.func14, Try.ntmps14
      go_wp2_with fail
      refine (saGood_any lim m _ _ _ H.out (Nat.le_trans hB hbl.size)).mono ?_
      rw [H1.out]
      rintro e w1 ⟨rfl, b1⟩
      obtain ⟨c0, c1, c2⟩ := bx.out.keep b1
      go_wp2_with (go_at_call 23; refine (l1In_any _ _ _ _).mono ?_; rintro e w' ⟨rfl, rfl⟩; rw [H2.out])
      go_ret
      exact ⟨rfl, bel_trans hbl b1⟩
    | true =>
      generalize hq : inB t 0 ((m.length : Int) - 1) = q at *
      have hr : ask2 lim m f t = q := by simp [ask2, h1, h2, hq]
      rw [hr]; clear hr
      have H2 := Lib.hid h2
      have H3 := Lib.hid hq
      clear h1 h2 hq
      go_enter Try.func14, Try.ntmps14
      go_wp2_with fail
      refine (saGood_any lim m _ _ _ H.out (Nat.le_trans hB hbl.size)).mono ?_
      rw [H1.out]
      rintro e w1 ⟨rfl, b1⟩
      obtain ⟨c0, c1, c2⟩ := bx.out.keep b1
      go_wp2_with fail
      refine (l1In_any _ _ _ _).mono ?_
      rw [H2.out]
      rintro e w' ⟨rfl, rfl⟩
      go_wp2_with fail
      refine (l1In_any _ _ _ _).mono ?_
      rw [H3.out]
      rintro e w' ⟨rfl, rfl⟩
      go_wp2_with fail
      go_ret
      exact ⟨rfl, bel_trans hbl b1⟩

def ansStep (lim : Int) (m : List (List Int)) (f t : Int) : Value := if ask2 lim m f t then lowV (atM m f.toNat t.toNat) lim else failV
theorem ansStep_form (lim : Int) (m : List (List Int)) (f t : Int) : ∃ (x y : Int) (o : Bool), ansStep lim m f t = .tuple #[.int .i64 x, .int .i64 y, .bool o] := by
  unfold ansStep
  cases ask2 lim m f t
  · exact failV_form
  · exact lowV_form _ _

end Go.Proofs.Ythmdkbeccohjkaa
