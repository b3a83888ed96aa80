/- The text of stakes that is read: what is of no program. -/
import Derived.Test.YtfogipdhipipfabDoorRdN
import Derived.Test.YtfogipdhipipfabDoorSkS
namespace Go.Proofs.YtfogipdhipipfabDoor
set_option linter.unusedSimpArgs false
open Go.ChangeShapes Go.WideShapes Go.ChangeAt Go.RowKit
set_option linter.unusedVariables false

/-- The digits of a number up to 16. -/
def dd17 (n : Nat) : List UInt8 := if n < 10 then [UInt8.ofNat (48 + n)] else [49, UInt8.ofNat (38 + n)]
theorem dd17_eq (n : Nat) (h : n ≤ 16) : Lib.decDigits n = dd17 n := by
  unfold dd17
  rw [Lib.decDigits]
  split
  · rfl
  · have hn : n = 10 ∨ n = 11 ∨ n = 12 ∨ n = 13 ∨ n = 14 ∨ n = 15 ∨ n = 16 := by omega
    rcases hn with rfl | rfl | rfl | rfl | rfl | rfl | rfl <;> (rw [Lib.decDigits]; rfl)
/-- What is read as a number up to 16 is its text. -/
theorem rdN_inv17 {l : List UInt8} {n : Nat} (h : rdN l = n) (hn : n ≤ 16) : l = dd17 n := by
  unfold rdN at h
  split at h
  · rename_i hc
    simp only [Bool.and_eq_true, Bool.not_eq_true'] at hc
    obtain ⟨⟨h1, h2⟩, h3⟩ := hc
    have hv : valK l l.length = n := by omega
    unfold lenR at h1
    simp at h1
    have d0 := digK_at h3 0 (by omega)
    match l, h1, h2, h3, hv, d0 with
    | [], h1, _, _, _, _ => simp at h1
    | [c], _, _, h3, hv, d0 =>
      simp [valK, sgB] at hv
      simp [isDig, sgB] at d0
      unfold dd17
      rw [if_pos (by omega), ← hv]
      congr 1
      exact u8_of (by omega)
    | [c, d], _, h2, h3, hv, d0 =>
      have d1 := digK_at h3 1 (by simp)
      simp [valK, sgB] at hv
      simp [isDig, sgB] at d0 d1
      simp [zerR, sgB] at h2
      have e0 : c.toNat = 49 := by omega
      have e1 : d.toNat = 38 + n := by omega
      unfold dd17
      rw [if_neg (by omega), u8_of e0, u8_of e1]
      rfl
    | c :: d :: e :: r, _, h2, h3, hv, d0 =>
      exfalso
      simp [zerR, sgB] at h2
      simp [isDig, sgB] at d0
      have hge : ∀ k, 1 ≤ k → k ≤ (c :: d :: e :: r).length → 10 ^ (k - 1) ≤ valK (c :: d :: e :: r) k := by
        intro k hk
        induction k with
        | zero => omega
        | succ k ih =>
          intro hl
          unfold valK
          by_cases h0 : k = 0
          · subst h0
            simp [valK, sgB]
            omega
          · have := ih (by omega) (by omega)
            rw [show k + 1 - 1 = (k - 1) + 1 from by omega, Nat.pow_succ]
            omega
      have := hge (c :: d :: e :: r).length (by simp) (Nat.le_refl _)
      have h100 : 10 ^ 2 ≤ 10 ^ ((c :: d :: e :: r).length - 1) := Nat.pow_le_pow_right (by omega) (by simp)
      omega
  · omega
def stL (h o : Nat) : List UInt8 := dd17 h ++ 111 :: 102 :: dd17 o
theorem stL_eq (h o : Nat) (h1 : h ≤ 16) (h2 : o ≤ 16) : skT h o = baL (stL h o) := by
  unfold skT numS stL
  rw [dd17_eq h h1, dd17_eq o h2, ba_eq, baL_toList]
  simp
/-- The stakes that the program reads. -/
def prgS (l : List UInt8) : Int × Int := (numI (Lib.cut l [111, 102]).1, numI (Lib.cut l [111, 102]).2.1)
/-- The model's: cut behind i signs. -/
def parS (l : List UInt8) (i : Nat) : Int × Int := (rdN (l.take i), rdN (l.drop (i + 2)))
def ofS (l : List UInt8) (i : Nat) : Bool := decide ((l.take (i + 2)).drop i = [111, 102])
def okS (l : List UInt8) (i : Nat) : Bool := skG (parS l i).1 (parS l i).2 && decide (stL (parS l i).1.toNat (parS l i).2.toNat = l)
def mdF (l : List UInt8) : Nat → Nat → Option (Int × Int)
  | 0, _ => none
  | r + 1, i => if i + 1 < l.length ∧ i < 3 then (if ofS l i && okS l i then some (parS l i) else mdF l r (i + 1)) else none
theorem mdF_some {l : List UInt8} {c : Int × Int} : ∀ {r i : Nat}, mdF l r i = some c → skG c.1 c.2 = true ∧ stL c.1.toNat c.2.toNat = l
  | 0, i, h => by rw [mdF] at h; cases h
  | r + 1, i, h => by
    rw [mdF] at h
    split at h
    · split at h
      · rename_i hc
        injection h with h
        subst h
        unfold okS at hc
        simp only [Bool.and_eq_true, decide_eq_true_eq] at hc
        exact hc.2
      · exact mdF_some h
    · cases h
def mdlS (l : List UInt8) : Option (Int × Int) := mdF l 4 0
def finS (h o : Nat) : Bool := !skG h o || (decide (prgS (stL h o) = ((h : Int), (o : Int))) && decide (mdlS (stL h o) = some ((h : Int), (o : Int))))
set_option maxRecDepth 100000 in
theorem finS_all : ((List.range 17).all fun h => (List.range 17).all fun o => finS h o) = true := by kernel_rfl
theorem finS_at {h o : Nat} (g : skG (h : Int) (o : Int) = true) : prgS (stL h o) = ((h : Int), (o : Int)) ∧ mdlS (stL h o) = some ((h : Int), (o : Int)) := by
  have := sk_in g
  have h1 := List.all_eq_true.1 finS_all h (List.mem_range.2 (by omega))
  have h2 := List.all_eq_true.1 h1 o (List.mem_range.2 (by omega))
  unfold finS at h2
  rw [g] at h2
  simpa using h2
/-- The stakes with a text. -/
def readS (l : List UInt8) : Option (Int × Int) := if skG (prgS l).1 (prgS l).2 && decide (stL (prgS l).1.toNat (prgS l).2.toNat = l) then some (prgS l) else none
theorem mdlS_eq (l : List UInt8) : mdlS l = readS l := by
  cases hm : mdlS l with
  | some c =>
    obtain ⟨c1, c2⟩ := c
    obtain ⟨g, e⟩ := mdF_some hm
    obtain ⟨h, o, e1, e2, l1, l2⟩ := sk_nat g
    simp only at e1 e2 e g
    subst e1 e2
    rw [Int.toNat_natCast, Int.toNat_natCast] at e
    subst e
    obtain ⟨f1, f2⟩ := finS_at g
    unfold readS
    rw [f1]
    simp only [Int.toNat_natCast, g, decide_true, Bool.and_self, if_true]
  | none =>
    unfold readS
    split
    · rename_i hc
      rw [Bool.and_eq_true, decide_eq_true_eq] at hc
      obtain ⟨h, o, e1, e2, l1, l2⟩ := sk_nat hc.1
      have g : skG (h : Int) (o : Int) = true := by rw [← e1, ← e2]; exact hc.1
      have hl := hc.2
      rw [e1, e2, Int.toNat_natCast, Int.toNat_natCast] at hl
      have := (finS_at g).2
      rw [hl, hm] at this
      cases this
    · rfl
def ansO (c : Option (Int × Int)) : Value :=
  match c with
  | some c => .tuple #[sk c.1 c.2, .bool true]
  | none => .tuple #[sk 0 0, .bool false]
def ansSt (l : List UInt8) : Value := ansO (readS l)
theorem ansSt_form (l : List UInt8) : ∃ (x y : Int) (ok : Bool), ansSt l = .tuple #[sk x y, .bool ok] := by
  unfold ansSt ansO
  split
  · exact ⟨_, _, _, rfl⟩
  · exact ⟨_, _, _, rfl⟩
theorem cut2_len (l p : List UInt8) : (Lib.cut l p).1.length ≤ l.length ∧ (Lib.cut l p).2.1.length ≤ l.length := by
  unfold Lib.cut
  split
  · simp <;> omega
  · simp
end Go.Proofs.YtfogipdhipipfabDoor
