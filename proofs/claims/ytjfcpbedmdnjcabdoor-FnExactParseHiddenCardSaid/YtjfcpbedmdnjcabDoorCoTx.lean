/- CoinText: the contracts of the program and of its model, and the walk. -/
import Derived.Test.YtjfcpbedmdnjcabDoorPtTxt
namespace Go.Proofs.YtjfcpbedmdnjcabDoor
set_option linter.unusedSimpArgs false
open Go.ChangeShapes Go.WideShapes Go.ChangeAt Go.RowKit
set_option linter.unusedVariables false

theorem itoa_any (i : Nat) (hi : i < 100) (w : World) :
    Calls Tryd.prog 52 #[.int .i64 i] w fun e w' => e = .returned (.string (numS i)) ∧ w = w' :=
  (Tryd.strconv_Itoa_small i hi w).mono fun _ _ ⟨a, b⟩ => ⟨a, b.symm⟩
theorem numS_size (n : Nat) (h : n ≤ 10) : (numS n).size ≤ 2 := by
  have := dd_len 1 n (by omega)
  show (Lib.decDigits n).toArray.size ≤ 2
  simpa using this
/-- The text of a coin. -/
def coinT (h o : Nat) : ByteArray := numS h ++ ⟨#[47]⟩ ++ numS o
def ansCoT (h o : Int) : Value := if coinG h o then .tuple #[.string (coinT h.toNat o.toNat), .bool true] else .tuple #[.string ⟨#[]⟩, .bool false]
theorem ansCoT_form (h o : Int) : ∃ (x : ByteArray) (ok : Bool), ansCoT h o = .tuple #[.string x, .bool ok] := by
  unfold ansCoT
  split
  · exact ⟨_, _, rfl⟩
  · exact ⟨_, _, rfl⟩

theorem coin_nat {h o : Int} (g : coinG h o = true) : ∃ a b : Nat, h = a ∧ o = b ∧ a ≤ 10 ∧ b ≤ 10 := by
  obtain ⟨r1, r2, r3, r4⟩ := coin_in g
  exact ⟨h.toNat, o.toNat, by omega, by omega, by omega, by omega⟩

end Go.Proofs.YtjfcpbedmdnjcabDoor
