/- A text split at each place of a byte: what is of no program, and the contract of the model. -/
import Derived.Test.YthmdkbeccohjkaaDoorSRow
import Derived.Laws.AppendOwn
namespace Go.Proofs.YthmdkbeccohjkaaDoor
set_option linter.unusedSimpArgs false
open Go.ChangeShapes Go.WideShapes Go.ChangeAt Go.RowKit
set_option linter.unusedVariables false

theorem info_strL : (Tryd.prog.info? 9).map (fun i => (i.zero, i.size, i.bytes)) = some (some (.string ByteArray.empty), 1, 16) := by kernel_rfl
theorem SRow.pushL {w : World} {base : Nat} {v : Value} {xs ys : List ByteArray} (h : w.ownsRow base 9 1 v (xs.length + ys.length) (xs.map Value.string ++ ys.map Value.string)) : SRow w base v (xs ++ ys) := by
  unfold SRow
  rw [List.map_append, List.length_append]
  exact h
theorem wpList_pushL {ops : Array Oper} {rest : List Oper} {o : Oper} {a : Act} {Q : Exit → Act → World → Prop} {W : World} (y : ByteArray) (hgd : o.guard = none) (s x : Operand)
    (ho : o.op = .call { callee := .builtin .append, args := #[s, x], argTypes := #[91, 91] }) (base : Nat) (v : Value) (xs : List ByteArray) (hown : SRow W base v xs) (hlen : xs.length ≤ 2000000) (hbase : base ≤ W.heap.size)
    (hs : a.eval s = v) (hx : a.eval x = .slice (some ⟨W.heap.size, 0, none⟩) 1 1)
    (h : ∀ v' w', SRow w' base v' (xs ++ [y]) → Below base W w' → wpList Tryd.prog ops Q rest (a.put o.dst v') w') : wpList Tryd.prog ops Q (o :: rest) a (W.alloc (.cells #[.string y] 9)) := by
  obtain ⟨i0, hi, hz0, hz1, hz2⟩ := info_parts info_strL
  refine wpList_append_own _ hgd s x 91 ho base 9 i0 (.string ByteArray.empty) 1 16 Tryd.underlying91 hi hz0 hz1 hz2 rfl (by decide) v xs.length (xs.map Value.string) hs (World.ownsRow.alloc hown _) ⟨W.heap.size, 0, none⟩ 1 1 [.string y] hx rfl ?_ ?_ ?_ ?_ ?_ ?_
  · intro j z hz
    cases j with
    | zero => simp at hz; subst hz; exact new_cell _ _ _
    | succ j => simp at hz
  · intro z hz; simp at hz; subst hz; rfl
  · unfold maxLen; omega
  · omega
  · rw [← size1]; omega
  · intro v' w' h1 h2 _
    refine h v' w' (SRow.pushL h1) ?_
    refine Below.grown (((Below.refl base W).alloc hbase _)) h2 (by rw [← size1]; omega) fun k hk => ?_
    exact (World.ownsRow.lt hown k hk).1

def sgB (l : List UInt8) (k : Nat) : UInt8 := l.getD k 0
/-- Where the last part of the first k signs begins, and the parts ahead of it. -/
def frmL (l : List UInt8) (b : UInt8) : Nat → Nat
  | 0 => 0
  | k + 1 => if sgB l k = b then k + 1 else frmL l b k
def splL (l : List UInt8) (b : UInt8) : Nat → List (List UInt8)
  | 0 => []
  | k + 1 => if sgB l k = b then splL l b k ++ [(l.take k).drop (frmL l b k)] else splL l b k
def prtL (l : List UInt8) (b : UInt8) : List (List UInt8) := splL l b l.length ++ [l.drop (frmL l b l.length)]
theorem frmL_le (l : List UInt8) (b : UInt8) : ∀ k, frmL l b k ≤ k
  | 0 => by simp [frmL]
  | k + 1 => by have := frmL_le l b k; unfold frmL; split <;> omega
theorem splL_len (l : List UInt8) (b : UInt8) : ∀ k, (splL l b k).length ≤ k
  | 0 => by simp [splL]
  | k + 1 => by have := splL_len l b k; unfold splL; split <;> simp <;> omega
def baL (l : List UInt8) : ByteArray := ⟨l.toArray⟩
theorem baL_list (s : ByteArray) : baL s.data.toList = s := by
  apply ByteArray.ext
  simp [baL]
theorem baL_toList (l : List UInt8) : (baL l).data.toList = l := by simp [baL]
theorem ext_baL (s : ByteArray) (i j : Nat) : s.extract i j = baL ((s.data.toList.take j).drop i) := by
  rw [ba_eq, ext_list, baL_toList]
theorem frmL_succ (l : List UInt8) (b : UInt8) (k : Nat) : frmL l b (k + 1) = if sgB l k = b then k + 1 else frmL l b k := rfl
theorem splL_succ (l : List UInt8) (b : UInt8) (k : Nat) : splL l b (k + 1) = if sgB l k = b then splL l b k ++ [(l.take k).drop (frmL l b k)] else splL l b k := rfl
theorem splL_join (l : List UInt8) (b : UInt8) : ∀ k, k ≤ l.length → (splL l b k).flatMap (· ++ [b]) ++ (l.take k).drop (frmL l b k) = l.take k
  | 0, _ => by simp [splL, frmL]
  | k + 1, hk => by
    have ih := splL_join l b k (by omega)
    have hl : k < l.length := by omega
    have hs : sgB l k = l[k] := by unfold sgB; rw [List.getD_eq_getElem?_getD, List.getElem?_eq_getElem hl]; rfl
    have ht : l.take (k + 1) = l.take k ++ [l[k]] := by rw [List.take_succ_eq_append_getElem hl]
    have hf := frmL_le l b k
    rw [splL_succ, frmL_succ]
    split
    · rename_i e
      rw [List.flatMap_append, ht, ← hs, e, List.append_assoc]
      simp only [List.flatMap_cons, List.flatMap_nil, List.append_nil]
      rw [show ((List.take k l ++ [b]).drop (k + 1)) = [] from by apply List.drop_eq_nil_of_le; simp; omega]
      rw [List.append_nil, ← List.append_assoc, ih]
    · rw [ht, List.drop_append_of_le_length (by simp; omega), ← List.append_assoc, ih]
theorem prtL_two {l : List UInt8} {b : UInt8} {x y : List UInt8} (h : prtL l b = [x, y]) : l = x ++ b :: y := by
  have e := splL_join l b l.length (Nat.le_refl _)
  unfold prtL at h
  obtain ⟨h1, h2⟩ := List.append_inj' h (t₁ := [l.drop (frmL l b l.length)]) (t₂ := [y]) (s₁ := splL l b l.length) (s₂ := [x]) rfl
  rw [h1] at e
  simp only [List.cons.injEq, and_true] at h2
  rw [List.take_length, h2] at e
  simpa using e.symm

def SRowOne (xs : List ByteArray) (w : World) (e : Ending) (w' : World) : Prop := ∃ v, e = .returned v ∧ SRow w' w.heap.size v xs ∧ Below w.heap.size w w'
theorem sgB_at (s : ByteArray) (k : Nat) (hk : k < s.size) : sgB s.data.toList k = s[k] := by
  unfold sgB
  rw [List.getD_eq_getElem?_getD, List.getElem?_eq_getElem (by simpa using hk)]
  rfl

set_option maxHeartbeats 800000 in
theorem l1Split_any (s : ByteArray) (b : UInt8) (w : World) (hs : s.size ≤ 1048576) :
    Calls Tryd.prog 79 #[.string s, .int .u8 (b.toNat : Int)] w (SRowOne ((prtL s.data.toList b).map baL) w) := by
  go_enter Tryd.func79, Tryd.ntmps79
  go_wp2
  go_loopw [5, 6, 7] (fun v f i wr => ∃ k : Nat, k ≤ s.size ∧ i = .int .i64 k ∧ f = .int .i64 (frmL s.data.toList b k) ∧ Hid (SRow wr w.heap.size v ((splL s.data.toList b k).map baL)) ∧ Below w.heap.size w wr) (fun _ _ i _ => s.size - (intOf i).toNat)
  case atStart => exact ⟨0, Nat.zero_le _, rfl, rfl, Lib.hid (SRow.nil _ _), Below.refl _ _⟩
  case round =>
    obtain ⟨k, hk, rfl, rfl, hR, hb⟩ := hrel
    have hf := frmL_le s.data.toList b k
    have hl := splL_len s.data.toList b k
    have hll : ((splL s.data.toList b k).map baL).length ≤ 2000000 := by rw [List.length_map]; omega
    have hsa := Lib.hid hb.size
    have sF := Lib.hid (frmL_succ s.data.toList b k)
    have sP := Lib.hid (splL_succ s.data.toList b k)
    clear hl
    by_cases hlt : k < s.size
    · have hat := sgB_at s k hlt
      by_cases he : s[k] = b
      · have hd : ((s[k].toNat : Int) == (b.toNat : Int)) = true := by rw [he]; simp
        have hx : s.extract (frmL s.data.toList b k) k = baL ((s.data.toList.take k).drop (frmL s.data.toList b k)) := ext_baL s _ _
        have Hx := Lib.hid hx
        have Ht : sgB s.data.toList k = b := hat.trans he
        have HF : Hid (frmL s.data.toList b (k + 1) = k + 1) := Lib.hid (by rw [sF.out, if_pos Ht])
        have HP : Hid ((splL s.data.toList b (k + 1)).map baL = (splL s.data.toList b k).map baL ++ [s.extract (frmL s.data.toList b k) k]) := Lib.hid (by rw [sP.out, if_pos Ht, hx, List.map_append]; rfl)
        clear hat he hx Ht
        go_wp2_with (at_builtin; refine wpList_pushL (s.extract (frmL s.data.toList b k) k) rfl (.tmp 19) (.tmp 24) rfl w.heap.size _ _ hR.out hll hsa.out rfl rfl ?_)
        intro v1 w1 hR1 hb1
        go_wp2_with fail
        exact ⟨⟨k + 1, by omega, by go_num, by rw [HF.out]; go_num, by rw [HP.out]; exact Lib.hid hR1, hb.trans hb1⟩, by simp [intOf]; omega⟩
      · have hd : ((s[k].toNat : Int) == (b.toNat : Int)) = false := by
          simp only [beq_eq_false_iff_ne, ne_eq]
          intro e
          exact he (UInt8.toNat.inj (by omega))
        have Ht : ¬ sgB s.data.toList k = b := fun e => he (hat.symm.trans e)
        have HF : Hid (frmL s.data.toList b (k + 1) = frmL s.data.toList b k) := Lib.hid (by rw [sF.out, if_neg Ht])
        have HP : Hid (splL s.data.toList b (k + 1) = splL s.data.toList b k) := Lib.hid (by rw [sP.out, if_neg Ht])
        clear hat he Ht
        go_wp2_with fail
        exact ⟨⟨k + 1, by omega, by go_num, by rw [HF.out], by rw [HP.out]; exact hR, hb⟩, by simp [intOf]; omega⟩
    · have hks : k = s.size := by omega
      have hx : s.extract (frmL s.data.toList b k) s.size = baL (s.data.toList.drop (frmL s.data.toList b k)) := by rw [ext_baL, List.take_of_length_le (by simp)]
      have HP : Hid ((prtL s.data.toList b).map baL = (splL s.data.toList b k).map baL ++ [s.extract (frmL s.data.toList b k) s.size]) := Lib.hid (by unfold prtL; rw [hx, List.map_append, len_list, ← hks]; rfl)
      have hnk : ¬ ((k : Int) < (s.size : Int)) := by omega
      clear hx hks
      go_wp2_with (at_builtin; refine wpList_pushL (s.extract (frmL s.data.toList b k) s.size) rfl (.tmp 28) (.tmp 32) rfl w.heap.size _ _ hR.out hll hsa.out rfl rfl ?_)
      intro v1 w1 hR1 hb1
      go_wp2_with fail
      go_ret
      exact ⟨_, rfl, by rw [HP.out]; exact hR1, hb.trans hb1⟩
end Go.Proofs.YthmdkbeccohjkaaDoor
