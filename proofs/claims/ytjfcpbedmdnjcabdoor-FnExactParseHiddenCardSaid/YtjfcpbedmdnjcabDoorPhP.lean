/- The text of a chain: what is of no program. -/
import Derived.Test.YtjfcpbedmdnjcabDoorRdN
import Derived.Test.YtjfcpbedmdnjcabDoorChTx
namespace Go.Proofs.YtjfcpbedmdnjcabDoor
set_option linter.unusedSimpArgs false
open Go.ChangeShapes Go.WideShapes Go.ChangeAt Go.RowKit
set_option linter.unusedVariables false

def chainL (a b c : Nat) : List UInt8 := dd11 a ++ 45 :: (dd11 b ++ 47 :: dd11 c)
theorem chainL_eq (a b c : Nat) (h1 : a ≤ 10) (h2 : b ≤ 10) (h3 : c ≤ 10) : chainT a b c = baL (chainL a b c) := by
  unfold chainT numS chainL
  rw [dd11_eq a h1, dd11_eq b h2, dd11_eq c h3, ba_eq, baL_toList]
  simp
/-- The chain that the program reads. -/
def prgH (l : List UInt8) : Int × Int × Int := (numI (Lib.cut l [45]).1, numI (Lib.cut (Lib.cut l [45]).2.1 [47]).1, numI (Lib.cut (Lib.cut l [45]).2.1 [47]).2.1)
/-- The model's parts. -/
def mdlH (l : List UInt8) : Option (Int × Int × Int) :=
  match prtL l 47 with
  | [p, q] => if l.length ≤ 8 then
      match prtL p 45 with
      | [x, y] => if good (rdN x) (rdN y) (rdN q) then some (rdN x, rdN y, rdN q) else none
      | _ => none
    else none
  | _ => none
def finH (a b c : Nat) : Bool := !good a b c || (decide (prgH (chainL a b c) = ((a : Int), (b : Int), (c : Int))) && decide (mdlH (chainL a b c) = some ((a : Int), (b : Int), (c : Int))))
set_option maxRecDepth 100000 in
theorem finH_all : ((List.range 11).all fun a => (List.range 11).all fun b => (List.range 11).all fun c => finH a b c) = true := by kernel_rfl
theorem finH_at {a b c : Nat} (g : good (a : Int) (b : Int) (c : Int) = true) : prgH (chainL a b c) = ((a : Int), (b : Int), (c : Int)) ∧ mdlH (chainL a b c) = some ((a : Int), (b : Int), (c : Int)) := by
  obtain ⟨x, y, z, e1, e2, e3, l1, l2, l3⟩ := chain_nat g
  have h1 := List.all_eq_true.1 finH_all a (List.mem_range.2 (by omega))
  have h2 := List.all_eq_true.1 h1 b (List.mem_range.2 (by omega))
  have h3 := List.all_eq_true.1 h2 c (List.mem_range.2 (by omega))
  unfold finH at h3
  rw [g] at h3
  simpa using h3
/-- The chain with a text. -/
def readH (l : List UInt8) : Option (Int × Int × Int) := if good (prgH l).1 (prgH l).2.1 (prgH l).2.2 && decide (chainL (prgH l).1.toNat (prgH l).2.1.toNat (prgH l).2.2.toNat = l) then some (prgH l) else none
theorem mdlH_eq (l : List UInt8) : mdlH l = readH l := by
  cases hm : mdlH l with
  | some c =>
    have hs : ∃ a b c : Nat, good (a : Int) (b : Int) (c : Int) = true ∧ l = chainL a b c := by
      unfold mdlH at hm
      split at hm
      · rename_i p q hp
        split at hm
        · split at hm
          · rename_i x y hp2
            split at hm
            · rename_i hc
              obtain ⟨a, b, c, e1, e2, e3, l1, l2, l3⟩ := chain_nat hc
              refine ⟨a, b, c, by rw [← e1, ← e2, ← e3]; exact hc, ?_⟩
              rw [prtL_two hp, prtL_two hp2, rdN_inv e1 l1, rdN_inv e2 l2, rdN_inv e3 l3]
              simp [chainL]
            · cases hm
          · cases hm
        · cases hm
      · cases hm
    obtain ⟨a, b, c, g, rfl⟩ := hs
    obtain ⟨f1, f2⟩ := finH_at g
    rw [hm] at f2
    unfold readH
    rw [f1]
    simp only [Int.toNat_natCast, g, decide_true, Bool.and_self, if_true]
    exact f2
  | none =>
    unfold readH
    split
    · rename_i hc
      rw [Bool.and_eq_true, decide_eq_true_eq] at hc
      obtain ⟨a, b, c, e1, e2, e3, l1, l2, l3⟩ := chain_nat hc.1
      have g : good (a : Int) (b : Int) (c : Int) = true := by rw [← e1, ← e2, ← e3]; exact hc.1
      have hl := hc.2
      rw [e1, e2, e3, Int.toNat_natCast, Int.toNat_natCast, Int.toNat_natCast] at hl
      have := (finH_at g).2
      rw [hl, hm] at this
      cases this
    · rfl
def ansPH (l : List UInt8) : Value :=
  match readH l with
  | some c => .tuple #[chn c.1 c.2.1 c.2.2, .bool true]
  | none => .tuple #[chn 0 0 0, .bool false]
theorem ansPH_form (l : List UInt8) : ∃ (x y z : Int) (ok : Bool), ansPH l = .tuple #[chn x y z, .bool ok] := by
  unfold ansPH
  split
  · exact ⟨_, _, _, _, rfl⟩
  · exact ⟨_, _, _, _, rfl⟩
end Go.Proofs.YtjfcpbedmdnjcabDoor
