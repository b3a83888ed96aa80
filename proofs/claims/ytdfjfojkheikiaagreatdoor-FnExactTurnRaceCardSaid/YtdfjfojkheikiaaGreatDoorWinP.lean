/- Who comes first: what is of no program. -/
import Derived.Test.YtdfjfojkheikiaaGreatDoorRac
namespace Go.Proofs.YtdfjfojkheikiaaGreatDoor
set_option linter.unusedSimpArgs false
open Go.ChangeShapes Go.WideShapes Go.ChangeAt Go.RowKit
set_option linter.unusedVariables false

/-- The first number from k on, out of m ones, with p. -/
def firstK (p : Nat → Bool) : Nat → Nat → Option Nat
  | 0, _ => none
  | m + 1, k => if p k then some k else firstK p m (k + 1)
theorem firstK_yes {p : Nat → Bool} {m k : Nat} (h : p k = true) : firstK p (m + 1) k = some k := by rw [firstK, h]; rfl
theorem firstK_no {p : Nat → Bool} {m k : Nat} (h : p k = false) : firstK p (m + 1) k = firstK p m (k + 1) := by rw [firstK, h]; rfl
theorem firstK_lt {p : Nat → Bool} : ∀ {m k j : Nat}, firstK p m k = some j → k ≤ j ∧ j < k + m
  | 0, k, j, h => by simp [firstK] at h
  | m + 1, k, j, h => by
    cases hp : p k
    · rw [firstK_no hp] at h
      have := firstK_lt h
      omega
    · rw [firstK_yes hp] at h
      obtain rfl := Option.some.inj h
      omega
theorem firstK_none {p : Nat → Bool} : ∀ {m k : Nat}, (∀ j, k ≤ j → j < k + m → p j = false) → firstK p m k = none
  | 0, _, _ => rfl
  | m + 1, k, h => by
    rw [firstK_no (h k (by omega) (by omega))]
    exact firstK_none fun j a b => h j (by omega) (by omega)
/-- The text with the index k comes with the sign n. -/
def hitB (xs : List ByteArray) (t : ByteArray) (n k : Nat) : Bool := decide ((xs.getD k noS).size ≤ n) && plcB (xs.getD k noS) t n
def winN (xs : List ByteArray) (t : ByteArray) : Nat → Nat → Option (Nat × Nat)
  | 0, _ => none
  | m + 1, n => match firstK (hitB xs t n) xs.length 0 with
    | some k => some (k, n)
    | none => winN xs t m (n + 1)
theorem winN_yes {xs : List ByteArray} {t : ByteArray} {m n k : Nat} (h : firstK (hitB xs t n) xs.length 0 = some k) : winN xs t (m + 1) n = some (k, n) := by rw [winN, h]
theorem winN_no {xs : List ByteArray} {t : ByteArray} {m n : Nat} (h : firstK (hitB xs t n) xs.length 0 = none) : winN xs t (m + 1) n = winN xs t m (n + 1) := by rw [winN, h]
def win (xs : List ByteArray) (t : ByteArray) : Option (Nat × Nat) := winN xs t (t.size + 1) 0
theorem winN_lt {xs : List ByteArray} {t : ByteArray} : ∀ {m n k j : Nat}, winN xs t m n = some (k, j) → k < xs.length ∧ j < n + m
  | 0, n, k, j, h => by simp [winN] at h
  | m + 1, n, k, j, h => by
    cases hp : firstK (hitB xs t n) xs.length 0 with
    | none =>
      rw [winN_no hp] at h
      have := winN_lt h
      omega
    | some q =>
      rw [winN_yes hp] at h
      have e := Option.some.inj h
      simp only [Prod.mk.injEq] at e
      have := firstK_lt hp
      omega
/-- Below the length of all texts none of them comes. -/
theorem winN_skip {xs : List ByteArray} {t : ByteArray} {L : Nat} (hL : ∀ k, k < xs.length → (xs.getD k noS).size = L) : ∀ d m n, n + d ≤ L → winN xs t (m + d) n = winN xs t m (n + d)
  | 0, m, n, _ => rfl
  | d + 1, m, n, h => by
    rw [show m + (d + 1) = (m + d) + 1 from by omega, winN_no (firstK_none fun j a b => by unfold hitB; rw [hL j (by omega), decide_eq_false (by omega), Bool.false_and]), winN_skip hL d m (n + 1) (by omega)]
    congr 1
    omega
theorem winN_long {xs : List ByteArray} {t : ByteArray} {L : Nat} (hL : ∀ k, k < xs.length → (xs.getD k noS).size = L) : ∀ m n, n + m ≤ L → winN xs t m n = none
  | 0, _, _ => rfl
  | m + 1, n, h => by
    rw [winN_no (firstK_none fun j a b => by unfold hitB; rw [hL j (by omega), decide_eq_false (by omega), Bool.false_and]), winN_long hL m (n + 1) (by omega)]
theorem win_from {xs : List ByteArray} {t : ByteArray} {L : Nat} (hL : ∀ k, k < xs.length → (xs.getD k noS).size = L) : win xs t = winN xs t (t.size + 1 - L) L := by
  unfold win
  by_cases h : L ≤ t.size + 1
  · rw [show t.size + 1 = (t.size + 1 - L) + L from by omega, winN_skip hL L _ 0 (by omega), show t.size + 1 - L + L - L = t.size + 1 - L from by omega, Nat.zero_add]
  · rw [winN_long hL _ 0 (by omega), show t.size + 1 - L = 0 from by omega, winN]
theorem suf_hit (p t : ByteArray) (e : Nat) (h2 : e ≤ t.size) : Lib.hasSuffix (t.extract 0 e).data.toList p.data.toList = (decide (p.size ≤ e) && plcB p t e) := by
  by_cases h1 : p.size ≤ e
  · rw [decide_eq_true h1, Bool.true_and, suf_plc p t e h1 h2]
  · rw [decide_eq_false h1, Bool.false_and, ← Bool.not_eq_true, suf_iff, len_list, ext_list, List.drop_zero, List.length_take, len_list]
    omega
theorem ok_size {xs : List ByteArray} (h : ∀ k, k < xs.length → okAt xs k = true) : ∀ k, k < xs.length → (xs.getD k noS).size = (xs.getD 0 noS).size := by
  intro k hk
  have := h k hk
  unfold okAt at this
  simp only [Bool.and_eq_true, decide_eq_true_iff] at this
  exact this.2.1
theorem ok_rac {xs : List ByteArray} (h : ∀ k, k < xs.length → okAt xs k = true) : ∀ k, k < xs.length → racG (xs.getD k noS) = true := by
  intro k hk
  have := h k hk
  unfold okAt at this
  simp only [Bool.and_eq_true] at this
  exact this.1
def noneV : Value := .tuple #[.int .i64 0, .int .i64 0, .bool false]
def wonV (i : Nat) : Option (Nat × Nat) → Value
  | some (k, n) => .tuple #[.int .i64 ((k + i : Nat) : Int), .int .i64 n, .bool true]
  | none => noneV
def ansWin (xs : List ByteArray) (t : ByteArray) : Value := if manyG xs && tossG t then wonV 0 (win xs t) else noneV
def ansTwo (a b : ByteArray) (t : ByteArray) : Value := if twoG a b && tossG t then wonV 1 (win [a, b] t) else noneV
theorem wonV_form (i : Nat) (o : Option (Nat × Nat)) : ∃ (x y : Int) (ok : Bool), wonV i o = .tuple #[.int .i64 x, .int .i64 y, .bool ok] := by
  rcases o with _ | ⟨k, n⟩
  · exact ⟨0, 0, false, rfl⟩
  · exact ⟨_, _, true, rfl⟩
theorem two_many (a b : ByteArray) : manyG [a, b] = twoG a b := by
  have e : manyG [a, b] = (okAt [a, b] 0 && okAt [a, b] 1) := by
    unfold manyG
    simp [inB, List.range_succ]
  rw [e]
  unfold okAt twoG
  simp only [List.getD_cons_zero, List.getD_cons_succ, List.take_zero, List.take_succ_cons]
  have h1 : Lib.containsS ([] : List ByteArray) a = false := by
    cases hc : Lib.containsS ([] : List ByteArray) a with
    | false => rfl
    | true => rw [Lib.containsS_iff] at hc; simp at hc
  have h2 : Lib.containsS [a] b = decide (a = b) := by
    rw [Bool.eq_iff_iff, Lib.containsS_iff, decide_eq_true_iff]
    simp [eq_comm]
  rw [h1, h2]
  cases racG a <;> cases racG b <;> simp [eq_comm]
end Go.Proofs.YtdfjfojkheikiaaGreatDoor
