/- The text of a coin: what is of no program. -/
import Derived.Test.YtjfcpbedmdnjcabDoorRdN
import Derived.Test.YtjfcpbedmdnjcabDoorCoTx
namespace Go.Proofs.YtjfcpbedmdnjcabDoor
set_option linter.unusedSimpArgs false
open Go.ChangeShapes Go.WideShapes Go.ChangeAt Go.RowKit
set_option linter.unusedVariables false

def coinL (h o : Nat) : List UInt8 := dd11 h ++ 47 :: dd11 o
theorem coinL_eq (h o : Nat) (h1 : h ≤ 10) (h2 : o ≤ 10) : coinT h o = baL (coinL h o) := by
  unfold coinT numS coinL
  rw [dd11_eq h h1, dd11_eq o h2, ba_eq, baL_toList]
  simp
/-- The coin that the program reads. -/
def prgC (l : List UInt8) : Int × Int := (numI (Lib.cut l [47]).1, numI (Lib.cut l [47]).2.1)
/-- The model's parts. -/
def mdlC (l : List UInt8) : Option (Int × Int) :=
  match prtL l 47 with
  | [x, y] => if l.length ≤ 5 && coinG (rdN x) (rdN y) then some (rdN x, rdN y) else none
  | _ => none
def finC (h o : Nat) : Bool := !coinG h o || (decide (prgC (coinL h o) = ((h : Int), (o : Int))) && decide (mdlC (coinL h o) = some ((h : Int), (o : Int))))
set_option maxRecDepth 100000 in
theorem fin_all : ((List.range 11).all fun h => (List.range 11).all fun o => finC h o) = true := by kernel_rfl
theorem coin_le {h o : Nat} (g : coinG (h : Int) (o : Int) = true) : h ≤ 10 ∧ o ≤ 10 := by
  obtain ⟨a, b, c, d⟩ := coin_in g
  omega
theorem fin_at {h o : Nat} (g : coinG (h : Int) (o : Int) = true) : prgC (coinL h o) = ((h : Int), (o : Int)) ∧ mdlC (coinL h o) = some ((h : Int), (o : Int)) := by
  obtain ⟨a, b⟩ := coin_le g
  have h1 := List.all_eq_true.1 fin_all h (List.mem_range.2 (by omega))
  have h2 := List.all_eq_true.1 h1 o (List.mem_range.2 (by omega))
  unfold finC at h2
  rw [g] at h2
  simpa using h2
/-- The coin with a text. -/
def readC (l : List UInt8) : Option (Int × Int) := if coinG (prgC l).1 (prgC l).2 && decide (coinL (prgC l).1.toNat (prgC l).2.toNat = l) then some (prgC l) else none
theorem mdlC_eq (l : List UInt8) : mdlC l = readC l := by
  cases hm : mdlC l with
  | some c =>
    have hs : ∃ h o : Nat, coinG (h : Int) (o : Int) = true ∧ l = coinL h o := by
      unfold mdlC at hm
      split at hm
      · rename_i x y hp
        split at hm
        · rename_i hc
          rw [Bool.and_eq_true] at hc
          obtain ⟨h, o, e1, e2, l1, l2⟩ := coin_nat hc.2
          refine ⟨h, o, by rw [← e1, ← e2]; exact hc.2, ?_⟩
          rw [prtL_two hp, rdN_inv e1 l1, rdN_inv e2 l2]
          rfl
        · cases hm
      · cases hm
    obtain ⟨h, o, g, rfl⟩ := hs
    obtain ⟨f1, f2⟩ := fin_at g
    rw [hm] at f2
    unfold readC
    rw [f1]
    simp only [Int.toNat_natCast, g, decide_true, Bool.and_self, if_true]
    exact f2
  | none =>
    unfold readC
    split
    · rename_i hc
      rw [Bool.and_eq_true, decide_eq_true_eq] at hc
      obtain ⟨h, o, e1, e2, l1, l2⟩ := coin_nat hc.1
      have g : coinG (h : Int) (o : Int) = true := by rw [← e1, ← e2]; exact hc.1
      have hl := hc.2
      rw [e1, e2, Int.toNat_natCast, Int.toNat_natCast] at hl
      have := (fin_at g).2
      rw [hl, hm] at this
      cases this
    · rfl
def ansPC (l : List UInt8) : Value :=
  match readC l with
  | some c => .tuple #[cn c.1 c.2, .bool true]
  | none => .tuple #[cn 0 0, .bool false]
theorem ansPC_form (l : List UInt8) : ∃ (x y : Int) (ok : Bool), ansPC l = .tuple #[cn x y, .bool ok] := by
  unfold ansPC
  split
  · exact ⟨_, _, _, rfl⟩
  · exact ⟨_, _, _, rfl⟩
end Go.Proofs.YtjfcpbedmdnjcabDoor
