/- Texts that are cut, and numbers that are read: the contracts of the program. -/
import Derived.Test.YthmdkbeccohjkaaDoorRdC
import Derived.Test.YthmdkbeccohjkaaDoorShelf
namespace Go.Proofs.YthmdkbeccohjkaaDoor
set_option linter.unusedSimpArgs false
open Go.ChangeShapes Go.WideShapes Go.ChangeAt Go.RowKit
set_option linter.unusedVariables false

theorem var_keep {P : Program} {w w' : World} {n : String} {cs : Array Value} (hv : w.var? P n = some cs) (hb : Below w.heap.size w w') : w'.var? P n = some cs := by
  unfold World.var? at *
  cases hg : P.globalNamed n with
  | none => rw [hg] at hv; cases hv
  | some g =>
    rw [hg] at hv
    simp only [Option.bind_some] at hv ⊢
    have hlt : g < w.heap.size := by
      rcases Nat.lt_or_ge g w.heap.size with h | h
      · exact h
      · rw [Array.getElem?_eq_none h] at hv; cases hv
    rw [hb.block g hlt]
    exact hv
/-- The two errors of the library stand where its start laid them. -/
def Sent (w : World) : Prop := (∃ tp p, w.var? Tryd.prog "strconv.ErrSyntax" = some #[.iface tp p]) ∧ ∃ tp p, w.var? Tryd.prog "strconv.ErrRange" = some #[.iface tp p]
theorem Sent.keep {w w' : World} (h : Sent w) (hb : Below w.heap.size w w') : Sent w' := by
  obtain ⟨⟨a, b, c⟩, d, e, f⟩ := h
  exact ⟨⟨a, b, var_keep c hb⟩, d, e, var_keep f hb⟩

theorem numberIn_any (s : ByteArray) (w : World) (hS : Sent w) (hs : s.size ≤ 2000000) :
    Calls Tryd.prog 65 #[.string s] w fun e w' => e = .returned (.int .i64 (numI s.data.toList)) ∧ Below w.heap.size w w' := by
  cases h : Lib.atoiAll s.data.toList with
  | ok v =>
    rw [show numI s.data.toList = v from by unfold numI; rw [h]]
    have H := Lib.hid h
    clear h
    go_enter Tryd.func65, Tryd.ntmps65
    go_wp2_with fail
    refine (Tryd.strconv_Atoi_ok s (by omega) v H.out _).mono ?_
    rintro e w' ⟨rfl, hw⟩
    have hb : Below w.heap.size w w' := by
      rcases hw with rfl | ⟨t, rfl⟩
      · exact Below.refl _ _
      · exact Lib.bytesWorld_below _ _ _
    clear hw
    go_wp2_with fail
    go_ret
    exact ⟨rfl, hb⟩
  | «syntax» =>
    rw [show numI s.data.toList = -1 from by unfold numI; rw [h]]
    have H := Lib.hid h
    clear h
    obtain ⟨⟨tp, p, hv⟩, _⟩ := hS
    have Hv := Lib.hid hv
    clear hv
    go_enter Tryd.func65, Tryd.ntmps65
    go_wp2_with fail
    refine (Tryd.strconv_Atoi_syntax_var s (by omega) H.out tp p _ Hv.out).mono ?_
    rintro e w' ⟨N, rfl, _, _, hb⟩
    go_wp2_with fail
    go_ret
    exact ⟨rfl, hb⟩
  | range =>
    rw [show numI s.data.toList = -1 from by unfold numI; rw [h]]
    have H := Lib.hid h
    clear h
    obtain ⟨_, tp, p, hv⟩ := hS
    have Hv := Lib.hid hv
    clear hv
    go_enter Tryd.func65, Tryd.ntmps65
    go_wp2_with fail
    refine (Tryd.strconv_Atoi_range_var s (by omega) H.out tp p _ Hv.out).mono ?_
    rintro e w' ⟨N, rfl, _, _, hb⟩
    go_wp2_with fail
    go_ret
    exact ⟨rfl, hb⟩

theorem index_one (l : List UInt8) (c : UInt8) : Lib.index l [c] = Lib.indexByte l c := by
  induction l with
  | nil => rfl
  | cons b l ih =>
    unfold Lib.index Lib.indexByte
    rw [ih]
    have e : ([c] : List UInt8).isPrefixOf (b :: l) = (b == c) := by simp [List.isPrefixOf, BEq.comm]
    rw [e]
theorem cut_no {l : List UInt8} {c : UInt8} (h : ¬ 0 ≤ Lib.indexByte l c) : Lib.cut l [c] = (l, [], false) := by
  unfold Lib.cut; rw [index_one, if_neg h]
theorem cut_yes {l : List UInt8} {c : UInt8} (h : 0 ≤ Lib.indexByte l c) : Lib.cut l [c] = (l.take (Lib.indexByte l c).toNat, l.drop ((Lib.indexByte l c).toNat + 1), true) := by
  unfold Lib.cut; rw [index_one, if_pos h]; rfl
theorem indexByte_lt (l : List UInt8) (c : UInt8) : Lib.indexByte l c < l.length ∨ (l = [] ∧ Lib.indexByte l c = -1) := by
  induction l with
  | nil => exact .inr ⟨rfl, rfl⟩
  | cons b l ih =>
    left
    unfold Lib.indexByte
    split
    · simp
    · split
      · simp <;> omega
      · rcases ih with h | ⟨h1, h2⟩
        · simp <;> omega
        · rw [h2]; simp <;> omega
theorem cut_len (l : List UInt8) (c : UInt8) : (Lib.cut l [c]).1.length ≤ l.length ∧ (Lib.cut l [c]).2.1.length ≤ l.length := by
  by_cases h : 0 ≤ Lib.indexByte l c
  · rw [cut_yes h]; simp <;> omega
  · rw [cut_no h]; simp

theorem slCut_any (s : ByteArray) (c : UInt8) (w : World) (hs : s.size ≤ 2000000) :
    Calls Tryd.prog 83 #[.string s, .string ⟨#[c]⟩] w fun e w' => e = .returned (.tuple #[.string (baL (Lib.cut s.data.toList [c]).1), .string (baL (Lib.cut s.data.toList [c]).2.1), .bool (Lib.cut s.data.toList [c]).2.2]) ∧ ∃ n, w' = w.drewN n := by
  by_cases h : 0 ≤ Lib.indexByte s.data.toList c
  · have hl := indexByte_lt s.data.toList c
    rw [cut_yes h]
    obtain ⟨i, hi⟩ : ∃ i : Nat, Lib.indexByte s.data.toList c = i := Int.eq_ofNat_of_zero_le h
    have Hi := Lib.hid hi
    rw [hi, Int.toNat_natCast]
    have hlt : i < s.size := by
      rw [hi, len_list] at hl
      rcases hl with q | ⟨_, q⟩
      · omega
      · omega
    have e1 : Hid (s.extract 0 i = baL (s.data.toList.take i)) := Lib.hid (by rw [ext_baL, List.drop_zero])
    have e2 : Hid (s.extract (i + 1) s.size = baL (s.data.toList.drop (i + 1))) := Lib.hid (by rw [ext_baL, List.take_of_length_le (by simp)])
    have hw : IntKind.i64.wrap ((i : Int) + 1) = (i : Int) + 1 := IntWalk.i64_in _ (by omega)
    have hn : ((i : Int) + 1).toNat = i + 1 := by omega
    have hn0 : 0 ≤ (i : Int) + 1 := by omega
    have hn1 : (i : Int) + 1 ≤ (s.size : Int) := by omega
    have hn2 : i + 1 ≤ s.size := by omega
    clear h hi hl
    rw [← e1.out, ← e2.out]
    go_enter Tryd.func83, Tryd.ntmps83
    go_wp2_with fail
    refine (Tryd.stringslite_Index_one s c _).mono ?_
    rintro e w' ⟨rfl, hw'⟩
    subst hw'
    rw [Hi.out]
    go_wp2_with fail
    go_quiet (fail)
    go_wp2_with fail
    go_ret3
    exact ⟨rfl, _, rfl⟩
  · rw [cut_no h, baL_list]
    have Hi := Lib.hid h
    obtain ⟨i, hi⟩ : ∃ i : Int, Lib.indexByte s.data.toList c = i := ⟨_, rfl⟩
    have HI := Lib.hid hi
    rw [hi] at h
    clear hi Hi
    go_enter Tryd.func83, Tryd.ntmps83
    go_wp2_with fail
    refine (Tryd.stringslite_Index_one s c _).mono ?_
    rintro e w' ⟨rfl, hw'⟩
    subst hw'
    rw [HI.out]
    go_wp2_with fail
    go_ret3
    exact ⟨rfl, 0, rfl⟩

theorem cut_any (s : ByteArray) (c : UInt8) (w : World) (hs : s.size ≤ 2000000) :
    Calls Tryd.prog 64 #[.string s, .string ⟨#[c]⟩] w fun e w' => e = .returned (.tuple #[.string (baL (Lib.cut s.data.toList [c]).1), .string (baL (Lib.cut s.data.toList [c]).2.1), .bool (Lib.cut s.data.toList [c]).2.2]) ∧ ∃ n, w' = w.drewN n := by
  generalize hX : baL (Lib.cut s.data.toList [c]).1 = X
  generalize hY : baL (Lib.cut s.data.toList [c]).2.1 = Y
  generalize hZ : (Lib.cut s.data.toList [c]).2.2 = Z
  have HX := Lib.hid hX
  have HY := Lib.hid hY
  have HZ := Lib.hid hZ
  clear hX hY hZ
  go_enter Tryd.func64, Tryd.ntmps64
  go_wp2_with fail
  refine (slCut_any s c _ hs).mono ?_
  rw [HX.out, HY.out, HZ.out]
  rintro e w' ⟨rfl, n, rfl⟩
  go_wp2_with fail
  go_ret3
  exact ⟨rfl, n, rfl⟩
end Go.Proofs.YthmdkbeccohjkaaDoor
