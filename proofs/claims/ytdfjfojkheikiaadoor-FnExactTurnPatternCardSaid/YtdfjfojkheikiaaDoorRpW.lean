/- TurnPattern, TurnRace: the contracts of the program. -/
import Derived.Test.YtdfjfojkheikiaaDoorRpL
namespace Go.Proofs.YtdfjfojkheikiaaDoor
set_option linter.unusedSimpArgs false
open Go.ChangeShapes Go.WideShapes Go.ChangeAt Go.RowKit
set_option linter.unusedVariables false

def ansTn (s : ByteArray) : Value := if patG s then .tuple #[.string (swS s), .bool true] else .tuple #[.string ⟨#[]⟩, .bool false]
theorem ansTn_form (s : ByteArray) : ∃ (x : ByteArray) (ok : Bool), ansTn s = .tuple #[.string x, .bool ok] := by
  unfold ansTn
  split
  · exact ⟨_, _, rfl⟩
  · exact ⟨_, _, rfl⟩
theorem four_cells (W : World) : ∀ j u, four[j]? = some u → (W.alloc (.cells #[.string tH, .string tT, .string tT, .string tH] 9)).cell? ((⟨W.heap.size, 0, none⟩ : Addr).add j) = some u := by
  intro j u hj
  rw [Addr.add_lit, Nat.zero_add]
  have h := cell_heap (q := j) (v := u) (heap_alloc_new W (.cells #[.string tH, .string tT, .string tT, .string tH] 9)) (by simpa using hj)
  exact h
set_option maxRecDepth 100000 in
set_option maxHeartbeats 1600000 in
theorem implTn_any (s : ByteArray) (w : World) (hs : s.size ≤ maxLen) :
    Calls Tryd.prog 14 #[.string s] w fun e w' => e = .returned (ansTn s) ∧ Below w.heap.size w w' := by
  cases h1 : patG s
  · rw [show ansTn s = .tuple #[.string ⟨#[]⟩, .bool false] from by unfold ansTn; rw [h1]; rfl]
    go_enter Tryd.func14, Tryd.ntmps14
    go_wp2_with fail
    refine (implIsPattern_any s _ hs).mono ?_
    rintro e w1 ⟨rfl, hb1⟩
    rw [h1]
    go_wp2_with fail
    go_ret2
    exact ⟨rfl, hb1⟩
  · rw [show ansTn s = .tuple #[.string (swS s), .bool true] from by unfold ansTn; rw [h1]; rfl]
    obtain ⟨p1, p2, p3⟩ := pat_in h1
    go_enter Tryd.func14, Tryd.ntmps14
    go_wp2_with fail
    refine (implIsPattern_any s _ hs).mono ?_
    rintro e w1 ⟨rfl, hb1⟩
    rw [h1]
    have hb2 := bel_alloc hb1 (.cells #[.string tH, .string tT, .string tT, .string tH] 9)
    go_wp2_with fail
    refine (newRepl_any w1.heap.size _ (four_cells w1)).mono ?_
    rintro e w2 ⟨R, S, cap, rfl, hR, hq, hS, hwR, h4, hcap, hb3⟩
    have hb4 := bel_trans hb2 hb3
    have hfin := Lib.hid hb4
    have hsz : w.heap.size ≤ R := Nat.le_trans hb2.size hwR
    go_wp2_with fail
    refine (repl_any R S cap Value.nilIface s w2 hcap h4 hS hR hq p3 p1 p2).mono ?_
    rintro e w3 ⟨rfl, hb5⟩
    have hend := hfin.out.trans (hb5.mono hsz)
    clear hq hR
    go_wp2_with fail
    go_ret2
    exact ⟨rfl, hend⟩
/-- The first k signs, exchanged. -/
def swK8 (s : ByteArray) (k : Nat) : ByteArray := ⟨((s.data.toList.take k).map swB).toArray⟩
theorem swK8_all (s : ByteArray) : swK8 s s.size = swS s := by
  unfold swK8 swS
  rw [List.take_of_length_le (by simp)]
theorem swK8_size (s : ByteArray) (k : Nat) : (swK8 s k).size ≤ k := by
  show (((s.data.toList.take k).map swB).toArray).size ≤ k
  simp
  omega
theorem swK8_step (s : ByteArray) (k : Nat) (hk : k < s.size) : swK8 s k ++ ⟨#[swB s[k]]⟩ = swK8 s (k + 1) := by
  rw [ba_eq]
  have hl : s.data.toList.length = s.size := by simp
  have hg : s.data.toList[k]'(by omega) = s[k] := by simp [ByteArray.getElem_eq_getElem_data]
  show (swK8 s k ++ ⟨#[swB s[k]]⟩).data.toList = ((s.data.toList.take (k + 1)).map swB)
  rw [ByteArray.data_append, Array.toList_append, List.take_succ_eq_append_getElem (by omega), List.map_append, hg]
  rfl
end Go.Proofs.YtdfjfojkheikiaaDoor
