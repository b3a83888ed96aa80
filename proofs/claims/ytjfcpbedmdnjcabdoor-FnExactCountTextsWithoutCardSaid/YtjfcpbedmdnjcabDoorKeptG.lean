/- The longest end of tosses with which one of several patterns begins: the contract of the program. -/
import Derived.Test.YtjfcpbedmdnjcabDoorSRow
import Derived.Test.YtjfcpbedmdnjcabDoorShelf
import Derived.Test.YtjfcpbedmdnjcabDoorAutP
import Derived.Test.YtjfcpbedmdnjcabDoorShelfK
import Derived.Lib.OwnBridge
namespace Go.Proofs.YtjfcpbedmdnjcabDoor
set_option linter.unusedSimpArgs false
open Go.ChangeShapes Go.WideShapes Go.ChangeAt Go.RowKit
set_option linter.unusedVariables false

/-- The last k signs. -/
def sufx (s : ByteArray) (k : Nat) : ByteArray := s.extract (s.size - k) s.size
def preAny (xs : List ByteArray) (s : ByteArray) : Bool := xs.any fun x => Lib.hasPrefix x.data.toList s.data.toList
def keptD (xs : List ByteArray) (s : ByteArray) : Nat → ByteArray
  | 0 => sufx s 0
  | k + 1 => if preAny xs (sufx s (k + 1)) then sufx s (k + 1) else keptD xs s k
def keptT (xs : List ByteArray) (s : ByteArray) : ByteArray := keptD xs s s.size
theorem keptD_yes {xs : List ByteArray} {s : ByteArray} {k : Nat} (h : preAny xs (sufx s (k + 1)) = true) : keptD xs s (k + 1) = sufx s (k + 1) := if_pos h
theorem keptD_no {xs : List ByteArray} {s : ByteArray} {k : Nat} (h : preAny xs (sufx s (k + 1)) = false) : keptD xs s (k + 1) = keptD xs s k := by rw [keptD, h]; rfl
theorem sufx_all (s : ByteArray) : sufx s s.size = s := by
  unfold sufx
  rw [ba_eq, ext_list, Nat.sub_self, List.drop_zero, List.take_of_length_le (by rw [len_list]; exact Nat.le_refl _)]
theorem sufx_size (s : ByteArray) (k : Nat) (hk : k ≤ s.size) : (sufx s k).size = k := by
  unfold sufx
  rw [ext_size s _ _ (Nat.le_refl _)]
  omega
theorem sufx_drop (s : ByteArray) (k : Nat) (hk : k + 1 ≤ s.size) : (sufx s (k + 1)).extract 1 (k + 1) = sufx s k := by
  have h := sufx_size s (k + 1) hk
  unfold sufx at *
  rw [ba_eq, ext_list, ext_list, ext_list, List.take_of_length_le (by rw [← ext_list, len_list, h]; exact Nat.le_refl _), List.drop_drop]
  congr 1
  omega
theorem sufx_zero (s : ByteArray) : (sufx s 0).data.toList = [] := by
  unfold sufx
  rw [ext_list, List.drop_eq_nil_iff]
  simp
theorem pre_zero (xs : List ByteArray) (s : ByteArray) (h : 0 < xs.length) : preAny xs (sufx s 0) = true := by
  unfold preAny
  rw [sufx_zero, List.any_eq_true]
  exact ⟨xs[0], List.getElem_mem _, by unfold Lib.hasPrefix; simp⟩
theorem prefK_any (s p : ByteArray) (w : World) :
    Calls Tryd.prog 91 #[.string s, .string p] w fun e w' => e = .returned (.bool (Lib.hasPrefix s.data.toList p.data.toList)) ∧ w = w' :=
  (Tryd.strings_HasPrefix s p w).mono fun _ _ ⟨a, b⟩ => ⟨a, b.symm⟩
theorem gives_kept (s x : ByteArray) (B : Nat) (W : World) (hc : W.cell? ⟨B, 0, none⟩ = some (.string s)) :
    FnGives Tryd.prog 90 #[.pointer (some ⟨B, 0, none⟩)] #[.string x] (.bool (Lib.hasPrefix x.data.toList s.data.toList)) W := by
  show Calls Tryd.prog 90 #[.string x, .pointer (some ⟨B, 0, none⟩)] W _
  go_enter Tryd.func90, Tryd.ntmps90
  go_wp2_with fail
  refine (prefK_any x s _).mono ?_
  rintro e w2 ⟨rfl, rfl⟩
  go_wp2_with fail
  go_ret
  exact ⟨rfl, 0, rfl⟩
open Go.Sort Go.Shelf in
theorem cont_any (xs : List ByteArray) (v : Value) (base : Nat) (s : ByteArray) (B : Nat) (W : World) (hR : SRow W base v xs) (hpos : 0 < xs.length) (hB : B < W.heap.size) (hc : W.cell? ⟨B, 0, none⟩ = some (.string s)) :
    Calls Tryd.prog 92 #[v, .func (.func 90) #[] #[.pointer (some ⟨B, 0, none⟩)]] W fun e w' => e = .returned (.bool (preAny xs s)) ∧ ∃ q, w' = W.drewN q := by
  have eg : ∀ args w, (callFunc 90 args).run Tryd.prog w = .ok (.enter 90 args) w := Go.Proofs.enters_of Tryd.func90 (by kernel_rfl) rfl
  rcases hR.form with ⟨hx, _⟩ | ⟨hx, g, cap, rfl, hbg, hgl, hlc, hcm⟩
  · rw [hx] at hpos; simp at hpos
  have h := AnyE.slices_ContainsFunc Tryd.laysCon Value.string (fun x => Lib.hasPrefix x.data.toList s.data.toList) 90 #[.pointer (some ⟨B, 0, none⟩)] eg g 0 xs.length cap xs W
    (fun W' x hb => gives_kept s x B W' ((hb.cell (p := ⟨B, 0, none⟩) hB).trans hc)) (Nat.le_refl _) (by unfold maxLen at hcm; omega) (fun j hj => by
      have := hR.at_ j hj
      rw [Nat.zero_add, this]
      simp [List.getD_eq_getElem?_getD, List.getElem?_eq_getElem hj, getElem!_pos, hj])
  rw [List.take_of_length_le (Nat.le_refl _)] at h
  exact h

set_option maxRecDepth 100000 in
set_option maxHeartbeats 1600000 in
theorem keptG_any (xs : List ByteArray) (v : Value) (base : Nat) (s : ByteArray) (w : World) (hR : SRow w base v xs) (hpos : 0 < xs.length) (hs : s.size ≤ 100) :
    Calls Tryd.prog 76 #[v, .string s] w fun e w' => e = .returned (.string (keptT xs s)) ∧ Below w.heap.size w w' := by
  have hc0 : (w.alloc (.cells #[.string s] 9)).cell? ⟨w.heap.size, 0, none⟩ = some (.string s) := by simp [go_sem]
  have hf0 : (w.alloc (.cells #[.string s] 9)).frozen? ⟨w.heap.size, 0, none⟩ = false := by simp [go_sem]
  have hbl0 := bel_alloc (Below.refl _ w) (.cells #[.string s] 9)
  have hz0 : w.heap.size < (w.alloc (.cells #[.string s] 9)).heap.size := by simp
  have HR := Lib.hid hR
  have Hall := Lib.hid (sufx_all s)
  clear hR
  go_enter Tryd.func76, Tryd.ntmps76
  go_wp2_with fail
  go_loopw [11] (fun _ wr => ∃ k : Nat, k ≤ s.size ∧ Hid (wr.cell? ⟨w.heap.size, 0, none⟩ = some (.string (sufx s k))) ∧ Hid (wr.frozen? ⟨w.heap.size, 0, none⟩ = false) ∧ w.heap.size < wr.heap.size ∧ Hid (keptD xs s k = keptT xs s) ∧ Below w.heap.size w wr) (fun _ wr => match wr.cell? ⟨w.heap.size, 0, none⟩ with | some (.string t) => t.size | _ => 0)
  case atStart => exact ⟨s.size, Nat.le_refl _, by rw [Hall.out]; exact hc0, hf0, hz0, rfl, hbl0⟩
  case round =>
    obtain ⟨k, hk, hc, hf, hz, hg, hb⟩ := hrel
    obtain ⟨wa, rfl⟩ : ∃ wa : World, wa = wr := ⟨_, rfl⟩
    have hcon := Lib.hid (cont_any xs v base (sufx s k) w.heap.size wa (HR.out.below hb) hpos hz hc.out)
    have hsz := sufx_size s k hk
    cases k with
    | zero =>
      rw [pre_zero xs s hpos] at hcon
      have hfin : Hid (sufx s 0 = keptT xs s) := Lib.hid hg.out
      have hc1 := hc.out
      generalize sufx s 0 = U at *
      go_wp2_with fail
      refine hcon.out.mono ?_
      rintro e w2 ⟨rfl, q, rfl⟩
      go_wp2_with fail
      go_ret
      exact ⟨by rw [← hfin.out]; rfl, bel_drewN hb _⟩
    | succ k =>
      cases hq : preAny xs (sufx s (k + 1))
      · rw [hq] at hcon
        have hg2 : Hid (keptD xs s k = keptT xs s) := Lib.hid (by rw [← hg.out, keptD_no hq])
        have hnx := Lib.hid (sufx_drop s k hk)
        have hsz2 := Lib.hid (sufx_size s k (by omega))
        have hc1 := hc.out
        have hf1 := hf.out
        generalize sufx s (k + 1) = U at *
        have hbs : Below w.heap.size w ((wa.setCell ⟨w.heap.size, 0, none⟩ (.string (U.extract 1 (k + 1))))) := hb.setCell (Nat.le_refl _) _
        have h1U : (1 : Int) ≤ (U.size : Int) := by omega
        have Hsz := Lib.hid hsz
        clear hsz
        go_wp2_with fail
        refine hcon.out.mono ?_
        rintro e w2 ⟨rfl, q, rfl⟩
        have h1s := Hsz.out
        go_wp2_with fail
        have hcc : ((wa.drewN q).setCell ⟨w.heap.size, 0, none⟩ (.string (U.extract 1 (k + 1)))).cell? ⟨w.heap.size, 0, none⟩ = some (.string (U.extract 1 (k + 1))) := by simp [go_sem, hc1, hz]
        have hff : ((wa.drewN q).setCell ⟨w.heap.size, 0, none⟩ (.string (U.extract 1 (k + 1)))).frozen? ⟨w.heap.size, 0, none⟩ = false := by simpa using hf1
        refine ⟨⟨k, by omega, Lib.hid (by rw [← hnx.out]; exact hcc), hff, by simpa using hz, hg2, (bel_drewN hb q).setCell (Nat.le_refl _) _⟩, ?_⟩
        rw [hcc, hc1]
        show (U.extract 1 (k + 1)).size < U.size
        rw [hnx.out]
        have := hsz2.out
        omega
      · rw [hq] at hcon
        have hfin : Hid (sufx s (k + 1) = keptT xs s) := Lib.hid (by rw [← hg.out, keptD_yes hq])
        have hc1 := hc.out
        generalize sufx s (k + 1) = U at *
        clear hq
        go_wp2_with fail
        refine hcon.out.mono ?_
        rintro e w2 ⟨rfl, q, rfl⟩
        go_wp2_with fail
        go_ret
        exact ⟨by rw [← hfin.out]; rfl, bel_drewN hb _⟩
end Go.Proofs.YtjfcpbedmdnjcabDoor
