/- PlacesOfWord: contracts and the walk. -/
import Derived.Test.YtiblggfihpobkabDoorWoOv
namespace Go.Proofs.YtiblggfihpobkabDoor
set_option linter.unusedSimpArgs false
open Go.ChangeShapes Go.WideShapes Go.ChangeAt Go.RowKit
set_option linter.unusedVariables false

/-- The word p is in t at place i. -/
def plwB (p t : ByteArray) (i : Nat) : Bool := decide (t.extract i (i + p.size) = p)
theorem plw_out {p t : ByteArray} {i : Nat} (h1 : 1 ≤ p.size) (h : t.size < i + p.size) : plwB p t i = false := by
  unfold plwB
  rw [decide_eq_false_iff_not]
  intro e
  have := congrArg ByteArray.size e
  rw [ByteArray.size_extract] at this
  omega
theorem selR_more {p : Nat → Bool} {n : Nat} : ∀ d, (∀ i, n ≤ i → p i = false) → selR p 0 (n + d) = selR p 0 n
  | 0, _ => rfl
  | d + 1, h => by
    rw [← Nat.add_assoc, selR_no (by rw [Nat.zero_add]; exact h _ (by omega)), selR_more d h]
theorem selR_plw {p t : ByteArray} (h1 : 1 ≤ p.size) : selR (plwB p t) 0 t.size = selR (plwB p t) 0 (t.size + 1 - p.size) := by
  by_cases h : t.size + 1 - p.size ≤ t.size
  · obtain ⟨d, hd⟩ := Nat.exists_eq_add_of_le h
    rw [show t.size = t.size + 1 - p.size + d from hd, ]
    rw [← hd]
    conv => lhs; rw [hd]
    exact selR_more d fun i hi => plw_out h1 (by omega)
  · omega
theorem pre_iff (l p : List UInt8) : Lib.hasPrefix l p = true ↔ l.take p.length = p := by
  unfold Lib.hasPrefix
  rw [List.isPrefixOf_iff_prefix]
  constructor
  · intro h; exact (List.prefix_iff_eq_take.1 h).symm
  · intro h; rw [← h]; exact List.take_prefix _ _
theorem pre_plw (p t : ByteArray) (i : Nat) (hi : i ≤ t.size) : Lib.hasPrefix (t.extract i t.size).data.toList p.data.toList = plwB p t i := by
  rw [Bool.eq_iff_iff, pre_iff]
  unfold plwB
  rw [decide_eq_true_iff, ba_eq, ext_list, ext_list, len_list, show List.take t.size t.data.toList = t.data.toList from List.take_of_length_le (by rw [len_list]; exact Nat.le_refl _), List.take_drop]
theorem prefix_any (s p : ByteArray) (w : World) :
    Calls Tryd.prog 65 #[.string s, .string p] w fun e w' => e = .returned (.bool (Lib.hasPrefix s.data.toList p.data.toList)) ∧ w = w' :=
  (Tryd.strings_HasPrefix s p w).mono fun _ _ ⟨a, b⟩ => ⟨a, b.symm⟩

set_option maxRecDepth 100000 in
set_option maxHeartbeats 1600000 in
theorem woPlaces_any (p t : ByteArray) (w : World) (h1 : 1 ≤ p.size) (h8 : p.size ≤ 8) (h60 : t.size ≤ 60) :
    Calls Tryd.prog 22 #[.string p, .string t] w (RowOne (selR (plwB p t) 0 (t.size + 1 - p.size)) w) := by
  go_enter Tryd.func22, Tryd.ntmps22
  go_wp2_with fail
  go_loopw [5, 6] (fun v x wr => ∃ k : Nat, k ≤ t.size + 1 - p.size ∧ x = .int .i64 k ∧ Hid (IRow wr w.heap.size v (selR (plwB p t) 0 k)) ∧ Below w.heap.size w wr) (fun _ x _ => t.size + 1 - (intOf x).toNat)
  case atStart => exact ⟨0, by omega, by simp, IRow.nil _ _, Below.refl _ _⟩
  case round =>
    obtain ⟨k, hk, rfl, hI, hb⟩ := hrel
    obtain ⟨wa, rfl⟩ : ∃ wa : World, wa = wr := ⟨_, rfl⟩
    have hsa := hb.size
    by_cases hlt : k < t.size + 1 - p.size
    · skip
      have hl := selR_len (plwB p t) 0 k
      have hz : (k : Int) + (p.size : Int) ≤ (t.size : Int) := by omega
      have hbe : ((t.extract k (k + p.size)).toList == p.toList) = plwB p t (0 + k) := by rw [ba_beq, Nat.zero_add]; rfl
      have hn2 : ((k : Int) + (p.size : Int)).toNat = k + p.size := by omega
      cases hq : plwB p t (0 + k) with
      | true =>
        have hS : Hid (selR (plwB p t) 0 (k + 1) = selR (plwB p t) 0 k ++ [(k : Int)]) := by
          refine Lib.hid ?_
          rw [selR_yes hq]
          simp
        rw [hq] at hbe
        clear hq
        go_wp2_with (at_builtin; refine wpList_push1 rfl (.tmp 25) (.tmp 27) rfl _ _ _ hI.out (by omega) hsa (k : Int) rfl rfl ?_)
        intro v' w3 hI3 hb3
        go_wp2_with fail
        exact ⟨⟨k + 1, by omega, by go_num, by rw [hS.out]; exact hI3, hb.trans hb3⟩, by simp [intOf]; omega⟩
      | false =>
        have hS := Lib.hid (selR_no hq)
        rw [hq] at hbe
        clear hq
        go_wp2_with fail
        exact ⟨⟨k + 1, by omega, by go_num, by rw [hS.out]; exact hI, hb⟩, by simp [intOf]; omega⟩
    · have hks : k = t.size + 1 - p.size := by omega
      have hz : ¬ (k : Int) + (p.size : Int) ≤ (t.size : Int) := by omega
      have Hks := Lib.hid hks
      clear hks
      go_wp2_with fail
      go_ret
      exact ⟨_, rfl, by rw [← Hks.out]; exact hI.out, hb⟩

def txG (t : ByteArray) : Bool := inB t.size 0 60 && allN 26 t
theorem tx_in {t : ByteArray} (g : txG t = true) : t.size ≤ 60 ∧ allN 26 t = true := by
  unfold txG inB at g
  simp at g
  exact ⟨by omega, g.2⟩
def ansPlw (p t : ByteArray) : List Int := if woG 26 p && txG t then selR (plwB p t) 0 (t.size + 1 - p.size) else []
theorem ansPlw_len (p t : ByteArray) : (ansPlw p t).length ≤ 1000 := by
  unfold ansPlw
  split
  · rename_i h
    rw [Bool.and_eq_true] at h
    have := selR_len (plwB p t) 0 (t.size + 1 - p.size)
    have := tx_in h.2
    omega
  · simp
end Go.Proofs.YtiblggfihpobkabDoor
