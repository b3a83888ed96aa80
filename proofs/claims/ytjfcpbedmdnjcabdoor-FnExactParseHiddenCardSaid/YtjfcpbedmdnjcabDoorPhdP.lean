/- The text of hidden days: what is of no program. -/
import Derived.Test.YtjfcpbedmdnjcabDoorPhP
import Derived.Test.YtjfcpbedmdnjcabDoorNmI
namespace Go.Proofs.YtjfcpbedmdnjcabDoor
set_option linter.unusedSimpArgs false
open Go.ChangeShapes Go.WideShapes Go.ChangeAt Go.RowKit
set_option linter.unusedVariables false

--BEGIN
theorem spl_still (l : List UInt8) (b : UInt8) (m : Nat) : ∀ k, m ≤ k → (∀ j, m ≤ j → j < k → sgB l j ≠ b) → frmL l b k = frmL l b m ∧ splL l b k = splL l b m
  | 0, h, _ => by
    obtain rfl : m = 0 := by omega
    exact ⟨rfl, rfl⟩
  | k + 1, h, hn => by
    by_cases e : m = k + 1
    · subst e; exact ⟨rfl, rfl⟩
    · obtain ⟨x, y⟩ := spl_still l b m k (by omega) (fun j h1 h2 => hn j h1 (by omega))
      have hk := hn k (by omega) (by omega)
      rw [frmL_succ, splL_succ, if_neg hk, if_neg hk]
      exact ⟨x, y⟩
theorem prtL_of {x y : List UInt8} {b : UInt8} (hx : b ∉ x) (hy : b ∉ y) : prtL (x ++ b :: y) b = [x, y] := by
  have hl : (x ++ b :: y).length = x.length + 1 + y.length := by simp; omega
  have hat : ∀ j, j < x.length → sgB (x ++ b :: y) j ≠ b := fun j hj => by
    unfold sgB
    rw [List.getD_eq_getElem?_getD, List.getElem?_append_left hj, List.getElem?_eq_getElem hj]
    intro e
    exact hx (e ▸ List.getElem_mem hj)
  have hmid : sgB (x ++ b :: y) x.length = b := by
    unfold sgB
    rw [List.getD_eq_getElem?_getD, List.getElem?_append_right (Nat.le_refl _)]
    simp
  have hbe : ∀ j, x.length + 1 ≤ j → j < x.length + 1 + y.length → sgB (x ++ b :: y) j ≠ b := fun j h1 h2 => by
    unfold sgB
    rw [List.getD_eq_getElem?_getD, List.getElem?_append_right (by omega)]
    obtain ⟨i, hi⟩ : ∃ i, j - x.length = i + 1 := ⟨j - x.length - 1, by omega⟩
    rw [hi, List.getElem?_cons_succ, List.getElem?_eq_getElem (by omega)]
    intro e
    exact hy (e ▸ List.getElem_mem _)
  obtain ⟨f0, s0⟩ := spl_still (x ++ b :: y) b 0 x.length (by omega) (fun j _ h2 => hat j h2)
  have f1 : frmL (x ++ b :: y) b (x.length + 1) = x.length + 1 := by rw [frmL_succ, if_pos hmid]
  have s1 : splL (x ++ b :: y) b (x.length + 1) = [x] := by
    rw [splL_succ, if_pos hmid, f0, s0]
    show [] ++ [((x ++ b :: y).take x.length).drop 0] = [x]
    simp
  obtain ⟨f2, s2⟩ := spl_still (x ++ b :: y) b (x.length + 1) (x.length + 1 + y.length) (by omega) hbe
  unfold prtL
  rw [hl, f2, s2, f1, s1]
  rw [List.drop_append_of_le_length' x b y]
where
  List.drop_append_of_le_length' (x : List UInt8) (b : UInt8) (y : List UInt8) : [x] ++ [(x ++ b :: y).drop (x.length + 1)] = [x, y] := by
    simp
theorem index_of {x y : List UInt8} {b : UInt8} (hx : b ∉ x) : Lib.indexByte (x ++ b :: y) b = x.length := by
  induction x with
  | nil => simp [Lib.indexByte]
  | cons a x ih =>
    rw [List.mem_cons, not_or] at hx
    have h2 := ih hx.2
    have hne : (a == b) = false := by simpa using fun e => hx.1 e.symm
    rw [List.cons_append, Lib.indexByte, hne, h2]
    have : ((x.length : Int) == -1) = false := by rw [beq_eq_false_iff_ne]; omega
    simp [this]
theorem cut_of {x y : List UInt8} {b : UInt8} (hx : b ∉ x) : Lib.cut (x ++ b :: y) [b] = (x, y, true) := by
  have h := index_of (y := y) hx
  rw [cut_yes (by rw [h]; omega), h]
  simp
/-- What is cut at a sign, put together again. -/
theorem cut_join (l : List UInt8) (b : UInt8) (h : 0 ≤ Lib.indexByte l b) : l = (Lib.cut l [b]).1 ++ b :: (Lib.cut l [b]).2.1 := by
  rw [cut_yes h]
  show l = l.take (Lib.indexByte l b).toNat ++ b :: l.drop ((Lib.indexByte l b).toNat + 1)
  induction l with
  | nil => simp [Lib.indexByte] at h
  | cons a l ih =>
    by_cases e : a = b
    · subst e
      simp [Lib.indexByte]
    · have hne : (a == b) = false := by simpa using e
      by_cases h2 : Lib.indexByte l b = -1
      · rw [Lib.indexByte, hne, h2] at h
        simp at h
      · have h3 := Lib.indexByte_ge l b
        have h4 : 0 ≤ Lib.indexByte l b := by omega
        have h5 : ((Lib.indexByte l b) == -1) = false := by simpa using h2
        have h6 : Lib.indexByte (a :: l) b = Lib.indexByte l b + 1 := by
          rw [Lib.indexByte, hne, h5]; rfl
        rw [h6, show (Lib.indexByte l b + 1).toNat = (Lib.indexByte l b).toNat + 1 from by omega, List.take_succ_cons, List.drop_succ_cons, List.cons_append, ← ih h4]
--END
def noCol (a b c : Nat) : Bool := !good a b c || (!(chainL a b c).contains 58 && decide ((chainL a b c).length ≤ 8))
set_option maxRecDepth 100000 in
theorem noCol_all : ((List.range 11).all fun a => (List.range 11).all fun b => (List.range 11).all fun c => noCol a b c) = true := by kernel_rfl
theorem noCol_at {a b c : Nat} (g : good (a : Int) (b : Int) (c : Int) = true) : (58 : UInt8) ∉ chainL a b c ∧ (chainL a b c).length ≤ 8 := by
  obtain ⟨x, y, z, e1, e2, e3, l1, l2, l3⟩ := chain_nat g
  have h1 := List.all_eq_true.1 noCol_all a (List.mem_range.2 (by omega))
  have h2 := List.all_eq_true.1 h1 b (List.mem_range.2 (by omega))
  have h3 := List.all_eq_true.1 h2 c (List.mem_range.2 (by omega))
  unfold noCol at h3
  rw [g] at h3
  simpa using h3
theorem readH_text {l : List UInt8} {c : Int × Int × Int} (h : readH l = some c) : ∃ x y z : Nat, c = ((x : Int), (y : Int), (z : Int)) ∧ good (x : Int) (y : Int) (z : Int) = true ∧ l = chainL x y z := by
  unfold readH at h
  split at h
  · rename_i hc
    rw [Bool.and_eq_true, decide_eq_true_eq] at hc
    obtain ⟨a, b, d, e1, e2, e3, l1, l2, l3⟩ := chain_nat hc.1
    have hl := hc.2
    rw [e1, e2, e3, Int.toNat_natCast, Int.toNat_natCast, Int.toNat_natCast] at hl
    refine ⟨a, b, d, ?_, ?_, hl.symm⟩
    · have := (Option.some.inj h).symm
      rw [this]
      exact Prod.ext e1 (Prod.ext e2 e3)
    · rw [← e1, ← e2, ← e3]; exact hc.1
  · cases h
theorem readH_chain {a b c : Nat} (g : good (a : Int) (b : Int) (c : Int) = true) : readH (chainL a b c) = some ((a : Int), (b : Int), (c : Int)) := by
  rw [← mdlH_eq]
  exact (finH_at g).2
/-- The hidden days with a text: by the program, and by the model. -/
def rdPg (l : List UInt8) : Option ((Int × Int × Int) × (Int × Int × Int)) :=
  match readH (Lib.cut l [58]).1, readH (Lib.cut l [58]).2.1 with
  | some c, some d => some (c, d)
  | _, _ => none
def rdMd (l : List UInt8) : Option ((Int × Int × Int) × (Int × Int × Int)) :=
  if l.length ≤ 17 then
    match prtL l 58 with
    | [x, y] => match readH x, readH y with
      | some c, some d => some (c, d)
      | _, _ => none
    | _ => none
  else none
theorem rd_both {a b c p q r : Nat} (g : good (a : Int) (b : Int) (c : Int) = true) (h : good (p : Int) (q : Int) (r : Int) = true) :
    rdPg (chainL a b c ++ 58 :: chainL p q r) = some (((a : Int), (b : Int), (c : Int)), ((p : Int), (q : Int), (r : Int))) ∧ rdMd (chainL a b c ++ 58 :: chainL p q r) = some (((a : Int), (b : Int), (c : Int)), ((p : Int), (q : Int), (r : Int))) := by
  obtain ⟨n1, n2⟩ := noCol_at g
  obtain ⟨n3, n4⟩ := noCol_at h
  have hl : (chainL a b c ++ 58 :: chainL p q r).length ≤ 17 := by simp; omega
  refine ⟨?_, ?_⟩
  · unfold rdPg
    rw [cut_of n1]
    simp only [readH_chain g, readH_chain h]
  · unfold rdMd
    rw [if_pos hl, prtL_of n1 n3]
    simp only [readH_chain g, readH_chain h]
theorem rd_same (l : List UInt8) : rdMd l = rdPg l := by
  cases hp : rdPg l with
  | some cd =>
    unfold rdPg at hp
    split at hp
    · rename_i c d h1 h2
      obtain ⟨x, y, z, e1, g1, t1⟩ := readH_text h1
      obtain ⟨u, v, t, e2, g2, t2⟩ := readH_text h2
      have hi : 0 ≤ Lib.indexByte l 58 := by
        rcases Int.lt_or_le (Lib.indexByte l 58) 0 with k | k
        · rw [cut_no (by omega)] at t2
          exfalso
          have : (chainL u v t).length = 0 := by rw [← t2]; rfl
          unfold chainL at this
          simp at this
        · exact k
      have hj := cut_join l 58 hi
      rw [t1, t2] at hj
      obtain ⟨b1, b2⟩ := rd_both g1 g2
      rw [← hj] at b1 b2
      rw [b2]
      have := Option.some.inj hp
      rw [← this, e1, e2]
    · cases hp
  | none =>
    cases hm : rdMd l with
    | none => rfl
    | some cd =>
      exfalso
      unfold rdMd at hm
      split at hm
      · split at hm
        · rename_i x y hxy
          split at hm
          · rename_i c d h1 h2
            obtain ⟨a, b, e, _, g1, t1⟩ := readH_text h1
            obtain ⟨u, v, t, _, g2, t2⟩ := readH_text h2
            have hj := prtL_two hxy
            rw [t1, t2] at hj
            have := (rd_both g1 g2).1
            rw [← hj, hp] at this
            cases this
          · cases hm
        · cases hm
      · cases hm
def ansHd (l : List UInt8) : Value :=
  match rdPg l with
  | some c => .tuple #[.agg #[.int .i64 c.1.1, .int .i64 c.1.2.1, .int .i64 c.1.2.2, .int .i64 c.2.1, .int .i64 c.2.2.1, .int .i64 c.2.2.2], .bool true]
  | none => .tuple #[.agg #[.int .i64 0, .int .i64 0, .int .i64 0, .int .i64 0, .int .i64 0, .int .i64 0], .bool false]
theorem ansHd_form (l : List UInt8) : ∃ (x y z u v t : Int) (o : Bool), ansHd l = .tuple #[.agg #[.int .i64 x, .int .i64 y, .int .i64 z, .int .i64 u, .int .i64 v, .int .i64 t], .bool o] := by
  unfold ansHd
  split
  · exact ⟨_, _, _, _, _, _, _, rfl⟩
  · exact ⟨0, 0, 0, 0, 0, 0, _, rfl⟩
theorem readH_good {l : List UInt8} {c : Int × Int × Int} (h : readH l = some c) : good c.1 c.2.1 c.2.2 = true := by
  obtain ⟨x, y, z, rfl, g, _⟩ := readH_text h
  exact g
end Go.Proofs.YtjfcpbedmdnjcabDoor
