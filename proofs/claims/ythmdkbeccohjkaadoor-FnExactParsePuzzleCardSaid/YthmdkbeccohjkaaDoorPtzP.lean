/- The text of a puzzle: what it is. -/
import Derived.Test.YthmdkbeccohjkaaDoorPzB
import Derived.Test.YthmdkbeccohjkaaDoorPtTxt
import Derived.Test.YthmdkbeccohjkaaDoorSPush
import Derived.Test.YthmdkbeccohjkaaDoorShelfJ
import Derived.Test.YthmdkbeccohjkaaDoorShelfT
import Derived.Shelf.Strings.OnBuilder
import Derived.Shelf.Strconv.Itoa3
import Derived.Lib.AppendIntMem
namespace Go.Proofs.YthmdkbeccohjkaaDoor
set_option linter.unusedSimpArgs false
open Go.ChangeShapes Go.WideShapes Go.ChangeAt Go.RowKit
set_option linter.unusedVariables false

/-- The table of powers of ten that the library reads. -/
def PT (w : World) : Prop := Lib.TabIs Tryd.prog w "internal/strconv.uint64pow10" .u64 Lib.pow10Tab
theorem PT.keep {w w' : World} (h : PT w) (hb : Below w.heap.size w w') : PT w' := Lib.tabBelow_of_tabIs h w' hb
theorem itoaT_any (n : Nat) (w : World) (hn : n ≤ 100) (h : PT w) :
    Calls Tryd.prog 88 #[.int .i64 n] w fun e w' => e = .returned (.string (numS n)) ∧ Below w.heap.size w w' := by
  refine (Any.strconv_Itoa Tryd.laysM171 n (by omega) (by omega) w h).mono ?_
  rintro e w' ⟨rfl, k, os, rfl⟩
  refine ⟨?_, Lib.below_grow _ _ (Nat.le_refl _) k os⟩
  have hlt : ¬ (n : Int) < 0 := by omega
  unfold Lib.itoa
  rw [if_neg hlt]
  rfl
theorem numS_size3 (n : Nat) (h : n ≤ 100) : (numS n).size ≤ 3 := by
  have := dd_len 2 n (by omega)
  show (Lib.decDigits n).toArray.size ≤ 3
  simpa using this

theorem jExtra : Go.Proofs.Builder.Extra Tryd.prog Tryd.lays156_ren where
  sizeBuilder := by kernel_rfl
  liesBuilder := by kernel_rfl
  t5 := Tryd.underlying5
  a5 := Tryd.isAgg5
  z5 := Tryd.sizeOf5
  v5 := Tryd.zeroValue5
  infoByte := by kernel_rfl
  cellsByte := by kernel_rfl
  sizeByte := by kernel_rfl
  neB5 := by decide
theorem app_list (s t : ByteArray) : (s ++ t).data.toList = s.data.toList ++ t.data.toList := by rw [ByteArray.data_append, Array.toList_append]

theorem inter_snoc (s x : List UInt8) : ∀ l : List (List UInt8), s.intercalate (l ++ [x]) = if l = [] then x else s.intercalate l ++ s ++ x
  | [] => by simp [List.intercalate]
  | [a] => by simp [List.intercalate]
  | a :: b :: l => by
    have ih := inter_snoc s x (b :: l)
    rw [if_neg (by simp)] at ih ⊢
    unfold List.intercalate at *
    rw [List.cons_append, List.cons_append, List.intersperse_cons_cons, List.intersperse_cons_cons, List.flatten_cons, List.flatten_cons, List.flatten_cons, List.flatten_cons]
    rw [List.cons_append] at ih
    rw [ih]
    simp [List.append_assoc]
theorem inter_len (s : List UInt8) (B : Nat) : ∀ l : List (List UInt8), (∀ x ∈ l, x.length ≤ B) → (s.intercalate l).length ≤ (B + s.length) * l.length
  | [], _ => by simp [List.intercalate]
  | [a], h => by
    have := h a (by simp)
    simp [List.intercalate]
    omega
  | a :: b :: l, h => by
    have ih := inter_len s B (b :: l) (fun y hy => h y (by simp at hy ⊢; exact .inr hy))
    have h1 := h a (by simp)
    unfold List.intercalate at *
    rw [List.intersperse_cons_cons, List.flatten_cons, List.flatten_cons, List.length_append, List.length_append, List.length_cons (a := a), Nat.mul_succ]
    omega

/-- The text of a clue. -/
def cluT (k a b : Nat) : ByteArray := numS k ++ ⟨#[46]⟩ ++ numS a ++ ⟨#[46]⟩ ++ numS b
theorem cluT_size (k a b : Nat) (h1 : k ≤ 100) (h2 : a ≤ 100) (h3 : b ≤ 100) : (cluT k a b).size ≤ 11 := by
  have t1 := numS_size3 k h1
  have t2 := numS_size3 a h2
  have t3 := numS_size3 b h3
  unfold cluT
  have e : (⟨#[46]⟩ : ByteArray).size = 1 := rfl
  simp only [ByteArray.size_append, e]
  omega
def cluT3 (t : Tri) : ByteArray := cluT t.1.toNat t.2.1.toNat t.2.2.toNat
/-- The texts of clues, one behind the other, behind that of the number. -/
def outP (o : Nat) (cs : List ByteArray) : Nat → ByteArray
  | 0 => numS o ++ ⟨#[58]⟩
  | i + 1 => (if i = 0 then outP o cs i else outP o cs i ++ ⟨#[44]⟩) ++ cs.getD i ByteArray.empty
def joinC (xs : List ByteArray) : ByteArray := ⟨(Lib.join (xs.map (·.data.toList)) [44]).toArray⟩
theorem outP_join (o : Nat) (cs : List ByteArray) : ∀ k, k ≤ cs.length → outP o cs k = numS o ++ ⟨#[58]⟩ ++ joinC (cs.take k)
  | 0, _ => by
    rw [ba_eq, app_list]
    simp [outP, joinC, Lib.join, List.intercalate]
  | k + 1, h => by
    have ih := outP_join o cs k (by omega)
    have ht : cs.take (k + 1) = cs.take k ++ [cs.getD k ByteArray.empty] := by
      rw [List.take_succ_eq_append_getElem (by omega), List.getD_eq_getElem?_getD, List.getElem?_eq_getElem (by omega)]
      rfl
    unfold outP
    rw [ih, ht, ba_eq, app_list, app_list]
    unfold joinC Lib.join
    rw [List.map_append, List.map_cons, List.map_nil, inter_snoc]
    cases k with
    | zero => simp [List.intercalate]
    | succ k =>
      have hne : ¬ (cs.take (k + 1)).map (·.data.toList) = [] := by
        intro e
        have q := congrArg List.length e
        rw [List.length_map, List.length_take, List.length_nil] at q
        omega
      rw [if_neg (by omega), if_neg hne, app_list, app_list]
      simp [List.append_assoc]
theorem clu_texts {ts : List Tri} (h : clsG ts = true) : ∀ x ∈ ts.map cluT3, x.size ≤ 11 := by
  intro x hx
  obtain ⟨t, ht, rfl⟩ := List.mem_map.1 hx
  obtain ⟨r1, r2, r3, r4, r5, r6, _⟩ := clG_in (List.all_eq_true.1 h t ht)
  exact cluT_size _ _ _ (by omega) (by omega) (by omega)
theorem outP_size (o : Nat) (cs : List ByteArray) (ho : o ≤ 100) (hc : ∀ x ∈ cs, x.size ≤ 11) : ∀ k, (outP o cs k).size ≤ 4 + 12 * k
  | 0 => by
    have := numS_size3 o ho
    unfold outP
    rw [ByteArray.size_append]
    have e : (⟨#[58]⟩ : ByteArray).size = 1 := rfl
    omega
  | k + 1 => by
    have ih := outP_size o cs ho hc k
    have hx : (cs.getD k ByteArray.empty).size ≤ 11 := by
      rw [List.getD_eq_getElem?_getD]
      rcases Nat.lt_or_ge k cs.length with hk | hk
      · rw [List.getElem?_eq_getElem hk]
        exact hc _ (List.getElem_mem _)
      · rw [List.getElem?_eq_none hk]
        show (0 : Nat) ≤ 11
        omega
    have e : (⟨#[44]⟩ : ByteArray).size = 1 := rfl
    unfold outP
    split
    · rw [ByteArray.size_append]; omega
    · rw [ByteArray.size_append, ByteArray.size_append]; omega
def textP (o : Int) (ts : List Tri) : ByteArray := outP o.toNat (ts.map cluT3) ts.length
def ansPT (o : Int) (ts : List Tri) : Value := if pzG o ts then .tuple #[.string (textP o ts), .bool true] else .tuple #[.string ⟨#[]⟩, .bool false]
theorem ansPT_form (o : Int) (ts : List Tri) : ∃ (x : ByteArray) (ok : Bool), ansPT o ts = .tuple #[.string x, .bool ok] := by
  unfold ansPT
  split
  · exact ⟨_, _, rfl⟩
  · exact ⟨_, _, rfl⟩
theorem clue_nat {t : Tri} (h : clG t = true) : ∃ p q r : Nat, t = ((p : Int), (q : Int), (r : Int)) ∧ p ≤ 5 ∧ q ≤ 100 ∧ r ≤ 100 := by
  obtain ⟨x, y, z⟩ := t
  obtain ⟨r1, r2, r3, r4, r5, r6, _⟩ := clG_in h
  simp only at r1 r2 r3 r4 r5 r6
  exact ⟨x.toNat, y.toNat, z.toNat, by rw [Int.toNat_of_nonneg r1, Int.toNat_of_nonneg r3, Int.toNat_of_nonneg r5], by omega, by omega, by omega⟩
end Go.Proofs.YthmdkbeccohjkaaDoor
