/- ChanceOfStep: the contracts of the program and of its model. -/
import Derived.Test.YtcfafgdgmkiibaaSt1
namespace Go.Proofs.Ytcfafgdgmkiibaa
set_option linter.unusedSimpArgs false
open Go.ChangeShapes Go.WideShapes Go.ChangeAt Go.RowKit
set_option linter.unusedVariables false

def failV : Value := .tuple #[.int .i64 0, .int .i64 0, .bool false]
def lowV (num den : Int) : Value := .tuple #[.int .i64 (low num num den), .int .i64 (low den num den), .bool true]
theorem failV_form : ∃ (x y : Int) (o : Bool), failV = .tuple #[.int .i64 x, .int .i64 y, .bool o] := ⟨0, 0, false, rfl⟩
theorem lowV_form (n d : Int) : ∃ (x y : Int) (o : Bool), lowV n d = .tuple #[.int .i64 x, .int .i64 y, .bool o] := ⟨_, _, true, rfl⟩
theorem if_form {p : Value → Prop} {c : Bool} {a b : Value} (ha : p a) (hb : p b) : p (if c then a else b) := by cases c <;> assumption

theorem rdI_two (W : World) (x y : Int) (n : Nat) (hn : n = W.heap.size) : RdIS (W.alloc (.cells #[.int .i64 x, .int .i64 y] 3)) (.slice (some ⟨n, 0, none⟩) 2 2) [x, y] := by
  subst hn
  refine ⟨_, 2, rfl, by simp, by simp [maxLen], fun _ => ⟨_, rfl, by simp, fun k hk => ?_⟩⟩
  rw [Addr.add_lit, Nat.zero_add]
  match k, hk with
  | 0, _ => simp [go_sem]
  | 1, _ => simp [go_sem]
theorem rdI_one (W : World) (x : Int) (n : Nat) (hn : n = W.heap.size) : RdIS (W.alloc (.cells #[.int .i64 x] 3)) (.slice (some ⟨n, 0, none⟩) 1 1) [x] := by
  subst hn
  refine ⟨_, 1, rfl, by simp, by simp [maxLen], fun _ => ⟨_, rfl, by simp, fun k hk => ?_⟩⟩
  rw [Addr.add_lit, Nat.zero_add]
  match k, hk with
  | 0, _ => simp [go_sem]

/-- There are states, and those two. -/
def ask2 (lim : Int) (m : List (List Int)) (f t : Int) : Bool := saG lim m && (inB f 0 ((m.length : Int) - 1) && inB t 0 ((m.length : Int) - 1))
theorem ask2_askB (lim : Int) (m : List (List Int)) (f t : Int) : (saG lim m && askB m.length [f, t]) = ask2 lim m f t := by simp [ask2, askB]
theorem ask2_good {lim : Int} {m : List (List Int)} {f t : Int} (h : ask2 lim m f t = true) : Good lim m ∧ ∃ i j : Nat, f = i ∧ t = j ∧ i < m.length ∧ j < m.length := by
  simp only [ask2, Bool.and_eq_true, inB_iff] at h
  obtain ⟨h1, h2, h3⟩ := h
  refine ⟨good_of h1, f.toNat, t.toNat, by omega, by omega, by omega, by omega⟩

def ansStep (lim : Int) (m : List (List Int)) (f t : Int) : Value := if ask2 lim m f t then lowV (atM m f.toNat t.toNat) lim else failV
theorem ansStep_form (lim : Int) (m : List (List Int)) (f t : Int) : ∃ (x y : Int) (o : Bool), ansStep lim m f t = .tuple #[.int .i64 x, .int .i64 y, .bool o] := by
  unfold ansStep
  cases ask2 lim m f t
  · exact failV_form
  · exact lowV_form _ _

end Go.Proofs.Ytcfafgdgmkiibaa
