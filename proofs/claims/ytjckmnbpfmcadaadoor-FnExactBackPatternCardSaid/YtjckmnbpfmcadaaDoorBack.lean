/- BackPattern: the contracts of the program and of its model, and the walk. -/
import Derived.Test.YtjckmnbpfmcadaaDoorPart
import Derived.Test.YtjckmnbpfmcadaaDoorShelfR
import Derived.Lib.OwnBridge
import Derived.Laws.IdiomStrings
namespace Go.Proofs.YtjckmnbpfmcadaaDoor
set_option linter.unusedSimpArgs false
open Go.ChangeShapes Go.WideShapes Go.ChangeAt Go.RowKit
set_option linter.unusedVariables false

def revS (s : ByteArray) : ByteArray := ⟨s.data.toList.reverse.toArray⟩
def ansBk (s : ByteArray) : Value := if patG s then .tuple #[.string (revS s), .bool true] else .tuple #[.string ⟨#[]⟩, .bool false]
theorem ansBk_form (s : ByteArray) : ∃ (x : ByteArray) (ok : Bool), ansBk s = .tuple #[.string x, .bool ok] := by
  unfold ansBk
  split
  · exact ⟨_, _, rfl⟩
  · exact ⟨_, _, rfl⟩

abbrev encU (b : UInt8) : Value := .int .u8 (b.toNat : Int)
theorem byte_cell (W : World) (A : Array Value) (t : TypeId) (j : Nat) (v : Value) (h : A[j]? = some v) (hl : j < A.size) :
    (W.alloc (.cells A t (A.size, A.size + 1))).cell? ⟨W.heap.size, j, none⟩ = some v ∧ (W.alloc (.cells A t (A.size, A.size + 1))).frozen? ⟨W.heap.size, j, none⟩ = false := by
  have e : (W.alloc (.cells A t (A.size, A.size + 1))).heap[W.heap.size]? = some (.cells A t (A.size, A.size + 1)) := by
    show (W.heap.push _)[W.heap.size]? = _
    simp
  constructor
  · unfold World.cell?
    simp only [e]
    exact h
  · unfold World.frozen?
    simp only [e]
    simp
    omega
open Go.Sort Go.Shelf in
theorem rev_any (s : ByteArray) (W : World) (b cap : Nat) (hc : ∀ j, (hj : j < s.data.toList.length) → W.cell? ⟨b, j, none⟩ = some (encU s.data.toList[j]) ∧ W.frozen? ⟨b, j, none⟩ = false) (hs : s.size ≤ 100) :
    Calls Tryd.prog 51 #[.slice (some ⟨b, 0, none⟩) s.size cap] W fun e w' => e = .returned (.tuple #[]) ∧ (∀ j, (hj : j < s.data.toList.reverse.length) → w'.cell? ((⟨b, 0, none⟩ : Addr).add j) = some (.int .u8 (s.data.toList.reverse[j].toNat : Int))) ∧ (∀ B w0, Below B w0 W → B ≤ b → Below B w0 w') := by
  have hz : s.data.toList.length = s.size := by simp
  have hH : Holds encU W b 0 s.data.toList.toArray := by
    intro j hj
    have hj' : j < s.data.toList.length := by simpa using hj
    obtain ⟨c1, c2⟩ := hc j hj'
    rw [Nat.zero_add]
    refine ⟨?_, c2⟩
    rw [c1, getElem!_pos _ j hj]
    rfl
  have hcon := AnyE.slices_Reverse Tryd.laysRev encU (fun _ => rfl) b 0 cap s.data.toList W hH (by omega)
  change Calls Tryd.prog 51 #[.slice (some ⟨b, 0, none⟩) s.data.toList.length cap] W (fun e w' => e = .returned (.tuple #[]) ∧ ∃ n, w' = putRow encU (Sort.ahead W n) b 0 s.data.toList.reverse.toArray) at hcon
  rw [hz] at hcon
  refine hcon.mono ?_
  rintro e w' ⟨rfl, n, rfl⟩
  refine ⟨rfl, ?_, ?_⟩
  · intro j hj
    have hj2 : j < s.data.toList.reverse.toArray.size := by simpa using hj
    have h := cell?_putRow encU (Sort.ahead W n) b 0 s.data.toList.toArray s.data.toList.reverse.toArray hH (by simp) j hj2
    rw [Addr.add_lit, Nat.zero_add]
    rw [Nat.zero_add] at h
    rw [h, getElem!_pos _ j hj2]
    rfl
  · intro B w0 h hB
    exact Lib.below_putRow h hB

set_option maxRecDepth 100000 in
set_option maxHeartbeats 3200000 in
theorem implBk_any (s : ByteArray) (w : World) (hs : s.size ≤ maxLen) :
    Calls Tryd.prog 33 #[.string s] w fun e w' => e = .returned (ansBk s) ∧ Below w.heap.size w w' := by
  cases h1 : patG s
  · rw [show ansBk s = .tuple #[.string ⟨#[]⟩, .bool false] from by unfold ansBk; rw [h1]; rfl]
    go_enter Tryd.func33, Tryd.ntmps33
    go_wp2_with fail
    refine (implIsPattern_any s _ hs).mono ?_
    rintro e w1 ⟨rfl, hb1⟩
    rw [h1]
    go_wp2_with fail
    go_ret2
    exact ⟨rfl, hb1⟩
  · rw [show ansBk s = .tuple #[.string (revS s), .bool true] from by unfold ansBk; rw [h1]; rfl]
    obtain ⟨p1, p2, p3⟩ := pat_in h1
    go_enter Tryd.func33, Tryd.ntmps33
    go_wp2_with fail
    refine (implIsPattern_any s _ hs).mono ?_
    rintro e w1 ⟨rfl, hb1⟩
    rw [h1]
    have hcv := run_bytes_of_string (P := Tryd.prog) w1 9 53 5 s Tryd.underlying9 Tryd.underlying53 Tryd.underlying5
    have hrw : ∀ (cap j : Nat) (hj : j < s.data.toList.length), (w1.drew.alloc (.cells (bytesRow s cap) 5 ((bytesRow s cap).size, (bytesRow s cap).size + 1))).cell? ⟨w1.heap.size, j, none⟩ = some (encU s.data.toList[j]) ∧ (w1.drew.alloc (.cells (bytesRow s cap) 5 ((bytesRow s cap).size, (bytesRow s cap).size + 1))).frozen? ⟨w1.heap.size, j, none⟩ = false := by
      intro cap j hj
      have hr := bytesRow_at s cap j (by simpa using hj)
      have hl : j < (bytesRow s cap).size := by
        rcases Nat.lt_or_ge j (bytesRow s cap).size with h | h
        · exact h
        · rw [Array.getElem?_eq_none h] at hr; cases hr
      exact byte_cell w1.drew _ _ j _ hr hl
    have hbx := fun cap => bel_alloc (bel_drewN hb1 1) (.cells (bytesRow s cap) 5 ((bytesRow s cap).size, (bytesRow s cap).size + 1))
    generalize grownCap w1 s.size 0 5 = cap at *
    have HR := Lib.hid (hrw cap)
    have HB := Lib.hid (hbx cap)
    have hsz := Lib.hid hb1.size
    clear hrw hbx
    generalize hO : Obj.cells (bytesRow s cap) 5 ((bytesRow s cap).size, (bytesRow s cap).size + 1) = O at *
    clear hO
    go_wp2_with fail
    refine (rev_any s _ _ _ HR.out (by omega)).mono ?_
    rintro e w3 ⟨rfl, hc3, hbl3⟩
    have hcb := run_convert_bytes_back (P := Tryd.prog) w3 53 9 5 ⟨w1.heap.size, 0, none⟩ cap s.data.toList.reverse Tryd.underlying53 Tryd.underlying5 Tryd.underlying9 hc3
    rw [show s.data.toList.reverse.length = s.size from by simp] at hcb
    have hfin : Hid ((⟨s.data.toList.reverse.toArray⟩ : ByteArray) = revS s) := rfl
    generalize (⟨s.data.toList.reverse.toArray⟩ : ByteArray) = T at *
    have hend := Lib.hid (hbl3 _ _ HB.out hsz.out)
    clear hc3 hbl3
    go_wp2_with fail
    go_ret2
    exact ⟨by rw [← hfin.out]; rfl, hend.out⟩

/-- The last k signs, told from the last one on. -/
def revK (s : ByteArray) (k : Nat) : ByteArray := ⟨(s.data.toList.reverse.take k).toArray⟩
theorem revK_size (s : ByteArray) (k : Nat) : (revK s k).size ≤ s.size := by
  show (s.data.toList.reverse.take k).toArray.size ≤ s.size
  simp
  omega
theorem revK_all (s : ByteArray) : revK s s.size = revS s := by
  unfold revK revS
  rw [List.take_of_length_le (by simp)]
theorem revK_step (s : ByteArray) (m : Nat) (hm : m < s.size) : revK s (s.size - (m + 1)) ++ s.extract m (m + 1) = revK s (s.size - m) := by
  rw [ba_eq]
  have hz : s.data.toList.length = s.size := by simp
  have hz2 : s.data.toList.reverse.length = s.size := by simp
  show (revK s (s.size - (m + 1)) ++ s.extract m (m + 1)).data.toList = s.data.toList.reverse.take (s.size - m)
  rw [ByteArray.data_append, Array.toList_append, ext_list]
  show s.data.toList.reverse.take (s.size - (m + 1)) ++ _ = _
  rw [show s.size - m = (s.size - (m + 1)) + 1 from by omega, List.take_succ_eq_append_getElem (by omega)]
  congr 1
  rw [List.take_succ_eq_append_getElem (by omega), List.drop_append_of_le_length (by simp; omega), List.drop_of_length_le (by simp; omega), List.nil_append, List.getElem_reverse]
  congr 1
  have hi : s.data.toList.length - 1 - (s.size - (m + 1)) = m := by omega
  simp only [hi]

set_option maxRecDepth 100000 in
set_option maxHeartbeats 3200000 in
theorem specBk_any (s : ByteArray) (w : World) (hs : s.size ≤ maxLen) :
    Calls Tryd.prog 32 #[.string s] w fun e w' => e = .returned (ansBk s) ∧ w = w' := by
  cases h1 : patG s
  · rw [show ansBk s = .tuple #[.string ⟨#[]⟩, .bool false] from by unfold ansBk; rw [h1]; rfl]
    go_enter Tryd.func32, Tryd.ntmps32
    go_wp2_with fail
    refine (ptGood_any s _ hs).mono ?_
    rintro e w1 ⟨rfl, rfl⟩
    rw [h1]
    go_wp2_with fail
    go_ret2
    exact ⟨rfl, rfl⟩
  · rw [show ansBk s = .tuple #[.string (revS s), .bool true] from by unfold ansBk; rw [h1]; rfl]
    obtain ⟨p1, p2, p3⟩ := pat_in h1
    have hfin := Lib.hid (revK_all s)
    go_enter Tryd.func32, Tryd.ntmps32
    go_wp2_with fail
    refine (ptGood_any s _ hs).mono ?_
    rintro e w1 ⟨rfl, rfl⟩
    rw [h1]
    go_wp2_with fail
    go_loop [4, 5] (fun y x => ∃ m : Nat, m ≤ s.size ∧ x = .int .i64 ((m : Int) - 1) ∧ y = .string (revK s (s.size - m))) (fun _ x => (intOf x + 1).toNat)
    case atStart => exact ⟨s.size, Nat.le_refl _, rfl, by rw [Nat.sub_self]; rfl⟩
    case round =>
      obtain ⟨m, hm, rfl, rfl⟩ := hrel
      cases m with
      | zero =>
        have e0 : ((0 : Nat) : Int) - 1 = -1 := by omega
        rw [e0, Nat.sub_zero]
        go_wp2_with fail
        go_ret2
        exact ⟨by rw [← hfin.out]; rfl, rfl⟩
      | succ m =>
        have e0 : ((m + 1 : Nat) : Int) - 1 = (m : Int) := by omega
        rw [e0]
        have hst := Lib.hid (revK_step s m (by omega))
        have hz := revK_size s (s.size - (m + 1))
        have hx := ext_size s m (m + 1) (by omega)
        have t1 : ¬ 9223372036854775807 < (revK s (s.size - (m + 1))).size + (s.extract m (m + 1)).size := by omega
        have hm1 : (m : Int) + 1 ≤ (s.size : Int) := by omega
        generalize revK s (s.size - (m + 1)) = U at *
        have hge : (0 : Int) ≤ (m : Int) := by omega
        go_wp2_with fail
        exact ⟨⟨m, by omega, rfl, by rw [hst.out]⟩, by simp [intOf]⟩

set_option maxHeartbeats 1600000 in
theorem walkExactBackPattern (s : ByteArray) (w : World) (hs : s.size ≤ maxLen) :
    Calls Tryd.prog 11 #[.string s] w fun e w' => e = .returned (.bool true) ∧ Below w.heap.size w w' := by
  by_cases z : s.size ≤ 1048576
  · obtain ⟨x, ok, hv⟩ := ansBk_form s
    have Hv := Lib.hid hv
    clear hv
    go_enter Tryd.func11, Tryd.ntmps11
    go_wp2_with fail
    refine (specBk_any s _ hs).mono ?_
    rw [Hv.out]
    rintro e w1 ⟨rfl, rfl⟩
    go_wp2_with fail
    refine (implBk_any s _ hs).mono ?_
    rw [Hv.out]
    rintro e w2 ⟨rfl, hb⟩
    go_wp2_with fail
    go_ret
    exact ⟨rfl, hb⟩
  · go_enter Tryd.func11, Tryd.ntmps11
    go_wp2
    go_ret
    exact ⟨rfl, Below.refl _ _⟩
end Go.Proofs.YtjckmnbpfmcadaaDoor
