/- Signs: contracts of the functions of the program that look at them. -/
import Derived.Test.YtjfcpbedmdnjcabHdA
import Derived.Test.YtjfcpbedmdnjcabShelf
import Derived.Shelf.Strings.SlTrimAscii
namespace Go.Proofs.Ytjfcpbedmdnjcab
set_option linter.unusedSimpArgs false
open Go.ChangeShapes Go.WideShapes Go.ChangeAt Go.RowKit
set_option linter.unusedVariables false

theorem cont_sg (b : UInt8) : ([110, 117] : List UInt8).contains b = sgB b := by
  simp [List.contains, List.elem, sgB]
  cases h : (b == 110) <;> cases h2 : (b == 117) <;> simp_all
theorem trimG_iff (l : List UInt8) : Lib.trimS l [110, 117] = [] ↔ l.all sgB = true := by
  have e : (fun b : UInt8 => ([110, 117] : List UInt8).contains b) = sgB := funext cont_sg
  unfold Lib.trimS Lib.trimLeftS Lib.trimRightS
  rw [e, List.all_eq_true]
  constructor
  · intro h
    have h1 := nil_dw _ h
    have h2 := dw_all l.reverse (fun x hx => h1 x (by simpa using hx))
    intro x hx
    exact h2 x (by simpa using hx)
  · intro h
    rw [dw_nil l.reverse (fun x hx => h x (by simpa using hx))]
    rfl
/-- One sign: a text of one. -/
def sgnS (s : ByteArray) : Bool := s.toList == [117] || s.toList == [110]
theorem signsB_one {s : ByteArray} (h : s.size = 1) : signsB s = sgnS s := by
  obtain ⟨c, hc⟩ := one_sign h
  unfold signsB sgnS allG inB
  rw [ByteArray.toList_eq, hc, h]
  simp [sgB, Bool.or_comm]
theorem sgnS_not {s : ByteArray} (h : ¬ s.size = 1) : sgnS s = false := by
  have hl : s.data.toList.length = s.size := by simp
  unfold sgnS
  rw [ByteArray.toList_eq]
  cases hm : s.data.toList with
  | nil => rfl
  | cons a l =>
    cases l with
    | nil => rw [hm] at hl; simp at hl; omega
    | cons b m => simp

/-- Days, as many as there are signs. -/
def dysG (s d : ByteArray) : Bool := daysB d && ((d.size : Int) == (s.size : Int))
end Go.Proofs.Ytjfcpbedmdnjcab
