/- PlacesOfWord: contracts and the walk. -/
import Derived.Test.YtiblggfihpobkaaDoorWoOv
namespace Go.Proofs.YtiblggfihpobkaaDoor
set_option linter.unusedSimpArgs false
open Go.ChangeShapes Go.WideShapes Go.ChangeAt Go.RowKit
set_option linter.unusedVariables false

/-- The word p is in t at place i. -/
def plwB (p t : ByteArray) (i : Nat) : Bool := decide (t.extract i (i + p.size) = p)
theorem plw_out {p t : ByteArray} {i : Nat} (h1 : 1 ≤ p.size) (h : t.size < i + p.size) : plwB p t i = false := by
  unfold plwB
  rw [decide_eq_false_iff_not]
  intro e
  have := congrArg ByteArray.size e
  rw [ByteArray.size_extract] at this
  omega
theorem selR_more {p : Nat → Bool} {n : Nat} : ∀ d, (∀ i, n ≤ i → p i = false) → selR p 0 (n + d) = selR p 0 n
  | 0, _ => rfl
  | d + 1, h => by
    rw [← Nat.add_assoc, selR_no (by rw [Nat.zero_add]; exact h _ (by omega)), selR_more d h]
theorem selR_plw {p t : ByteArray} (h1 : 1 ≤ p.size) : selR (plwB p t) 0 t.size = selR (plwB p t) 0 (t.size + 1 - p.size) := by
  by_cases h : t.size + 1 - p.size ≤ t.size
  · obtain ⟨d, hd⟩ := Nat.exists_eq_add_of_le h
    rw [show t.size = t.size + 1 - p.size + d from hd, ]
    rw [← hd]
    conv => lhs; rw [hd]
    exact selR_more d fun i hi => plw_out h1 (by omega)
  · omega
theorem pre_iff (l p : List UInt8) : Lib.hasPrefix l p = true ↔ l.take p.length = p := by
  unfold Lib.hasPrefix
  rw [List.isPrefixOf_iff_prefix]
  constructor
  · intro h; exact (List.prefix_iff_eq_take.1 h).symm
  · intro h; rw [← h]; exact List.take_prefix _ _
theorem pre_plw (p t : ByteArray) (i : Nat) (hi : i ≤ t.size) : Lib.hasPrefix (t.extract i t.size).data.toList p.data.toList = plwB p t i := by
  rw [Bool.eq_iff_iff, pre_iff]
  unfold plwB
  rw [decide_eq_true_iff, ba_eq, ext_list, ext_list, len_list, show List.take t.size t.data.toList = t.data.toList from List.take_of_length_le (by rw [len_list]; exact Nat.le_refl _), List.take_drop]
theorem prefix_any (s p : ByteArray) (w : World) :
    Calls Tryd.prog 51 #[.string s, .string p] w fun e w' => e = .returned (.bool (Lib.hasPrefix s.data.toList p.data.toList)) ∧ w = w' :=
  (Tryd.strings_HasPrefix s p w).mono fun _ _ ⟨a, b⟩ => ⟨a, b.symm⟩

set_option maxRecDepth 100000 in
set_option maxHeartbeats 1600000 in
theorem woPlaces_any (p t : ByteArray) (w : World) (h1 : 1 ≤ p.size) (h8 : p.size ≤ 8) (h60 : t.size ≤ 60) :
    Calls Tryd.prog 49 #[.string p, .string t] w (RowOne (selR (plwB p t) 0 (t.size + 1 - p.size)) w) := by
  go_enter Tryd.func49, Tryd.ntmps49
  go_wp2_with fail
  go_loopw [5, 6] (fun v x wr => ∃ k : Nat, k ≤ t.size + 1 - p.size ∧ x = .int .i64 k ∧ Hid (IRow wr w.heap.size v (selR (plwB p t) 0 k)) ∧ Below w.heap.size w wr) (fun _ x _ => t.size + 1 - (intOf x).toNat)
  case atStart => exact ⟨0, by omega, by simp, IRow.nil _ _, Below.refl _ _⟩
  case round =>
    obtain ⟨k, hk, rfl, hI, hb⟩ := hrel
    obtain ⟨wa, rfl⟩ : ∃ wa : World, wa = wr := ⟨_, rfl⟩
    have hsa := hb.size
    by_cases hlt : k < t.size + 1 - p.size
    · skip
      have hl := selR_len (plwB p t) 0 k
      have hz : (k : Int) + (p.size : Int) ≤ (t.size : Int) := by omega
      have hbe : ((t.extract k (k + p.size)).toList == p.toList) = plwB p t (0 + k) := by rw [ba_beq, Nat.zero_add]; rfl
      have hn2 : ((k : Int) + (p.size : Int)).toNat = k + p.size := by omega
      cases hq : plwB p t (0 + k) with
      | true =>
        have hS : Hid (selR (plwB p t) 0 (k + 1) = selR (plwB p t) 0 k ++ [(k : Int)]) := by
          refine Lib.hid ?_
          rw [selR_yes hq]
          simp
        rw [hq] at hbe
        clear hq
        go_wp2_with (at_builtin; refine wpList_push1 rfl (.tmp 25) (.tmp 27) rfl _ _ _ hI.out (by omega) hsa (k : Int) rfl rfl ?_)
        intro v' w3 hI3 hb3
        go_wp2_with fail
        exact ⟨⟨k + 1, by omega, by go_num, by rw [hS.out]; exact hI3, hb.trans hb3⟩, by simp [intOf]; omega⟩
      | false =>
        have hS := Lib.hid (selR_no hq)
        rw [hq] at hbe
        clear hq
        go_wp2_with fail
        exact ⟨⟨k + 1, by omega, by go_num, by rw [hS.out]; exact hI, hb⟩, by simp [intOf]; omega⟩
    · have hks : k = t.size + 1 - p.size := by omega
      have hz : ¬ (k : Int) + (p.size : Int) ≤ (t.size : Int) := by omega
      have Hks := Lib.hid hks
      clear hks
      go_wp2_with fail
      go_ret
      exact ⟨_, rfl, by rw [← Hks.out]; exact hI.out, hb⟩

def txG (t : ByteArray) : Bool := inB t.size 0 60 && allN 26 t
theorem tx_in {t : ByteArray} (g : txG t = true) : t.size ≤ 60 ∧ allN 26 t = true := by
  unfold txG inB at g
  simp at g
  exact ⟨by omega, g.2⟩
def ansPlw (p t : ByteArray) : List Int := if woG 26 p && txG t then selR (plwB p t) 0 (t.size + 1 - p.size) else []
theorem ansPlw_len (p t : ByteArray) : (ansPlw p t).length ≤ 1000 := by
  unfold ansPlw
  split
  · rename_i h
    rw [Bool.and_eq_true] at h
    have := selR_len (plwB p t) 0 (t.size + 1 - p.size)
    have := tx_in h.2
    omega
  · simp
set_option maxRecDepth 100000 in
set_option maxHeartbeats 1600000 in
theorem specPlw_any (p t : ByteArray) (w : World) (hp : p.size ≤ maxLen) (ht : t.size ≤ maxLen) :
    Calls Tryd.prog 22 #[.string p, .string t] w (RowAns (ansPlw p t) (woG 26 p && txG t) w) := by
  cases h1 : woG 26 p
  · rw [show ansPlw p t = [] from by unfold ansPlw; rw [h1]; rfl]
    go_enter Tryd.func22, Tryd.ntmps22
    go_wp2_with fail
    refine (woAny_any p _ hp).mono ?_
    rintro e w1 ⟨rfl, rfl⟩
    rw [h1]
    go_wp2_with fail
    go_ret2
    exact ⟨_, rfl, IRow.nil _ _, Below.refl _ _⟩
  · cases h2 : txG t
    · rw [show ansPlw p t = [] from by unfold ansPlw; rw [h1, h2]; rfl]
      go_enter Tryd.func22, Tryd.ntmps22
      go_wp2_with fail
      refine (woAny_any p _ hp).mono ?_
      rintro e w1 ⟨rfl, rfl⟩
      rw [h1]
      go_wp2_with fail
      refine (woText_any 26 t 0 60 _ (by omega) (by omega) ht).mono ?_
      rintro e w2 ⟨rfl, rfl⟩
      rw [show (inB t.size 0 60 && allN 26 t) = false from h2]
      go_wp2_with fail
      go_ret2
      exact ⟨_, rfl, IRow.nil _ _, Below.refl _ _⟩
    · rw [show ansPlw p t = selR (plwB p t) 0 (t.size + 1 - p.size) from by unfold ansPlw; rw [h1, h2]; rfl]
      obtain ⟨p1, p2, p3⟩ := wo_in h1
      obtain ⟨t1, t2⟩ := tx_in h2
      go_enter Tryd.func22, Tryd.ntmps22
      go_wp2_with fail
      refine (woAny_any p _ hp).mono ?_
      rintro e w1 ⟨rfl, rfl⟩
      rw [h1]
      go_wp2_with fail
      refine (woText_any 26 t 0 60 _ (by omega) (by omega) ht).mono ?_
      rintro e w2 ⟨rfl, rfl⟩
      rw [show (inB t.size 0 60 && allN 26 t) = true from h2]
      go_wp2_with fail
      refine (woPlaces_any p t _ p1 p2 t1).mono ?_
      rintro e w3 ⟨v, rfl, r3, b3⟩
      go_wp2_with fail
      go_ret2
      exact ⟨_, rfl, r3, b3⟩
set_option maxRecDepth 100000 in
set_option maxHeartbeats 1600000 in
theorem implPlw_any (p t : ByteArray) (w : World) (hp : p.size ≤ maxLen) (ht : t.size ≤ maxLen) :
    Calls Tryd.prog 23 #[.string p, .string t] w (RowAns (ansPlw p t) (woG 26 p && txG t) w) := by
  cases h1 : woG 26 p
  · rw [show ansPlw p t = [] from by unfold ansPlw; rw [h1]; rfl]
    go_enter Tryd.func23, Tryd.ntmps23
    go_wp2_with fail
    refine (isWord_any p _ hp).mono ?_
    rintro e w1 ⟨rfl, b1⟩
    rw [h1]
    go_wp2_with fail
    go_ret2
    exact ⟨_, rfl, IRow.nil _ _, b1⟩
  · by_cases h3 : t.size ≤ 60
    · have hz3 : (t.size : Int) ≤ 60 := by omega
      have htx : txG t = allN 26 t := by unfold txG inB; simp; omega
      cases h2 : allN 26 t
      · rw [show ansPlw p t = [] from by unfold ansPlw; rw [h1, htx, h2]; rfl, htx, h2]
        go_enter Tryd.func23, Tryd.ntmps23
        go_wp2_with fail
        refine (isWord_any p _ hp).mono ?_
        rintro e w1 ⟨rfl, b1⟩
        rw [h1]
        go_wp2_with fail
        refine (letters_any 26 t _ (by omega) (by omega) ht).mono ?_
        rintro e w2 ⟨rfl, b2⟩
        rw [h2]
        go_wp2_with fail
        go_ret2
        exact ⟨_, rfl, IRow.nil _ _, bel_trans b1 b2⟩
      · rw [show ansPlw p t = selR (plwB p t) 0 t.size from by unfold ansPlw; rw [h1, htx, h2, selR_plw (wo_in h1).1]; rfl, htx, h2]
        obtain ⟨p1, p2, p3⟩ := wo_in h1
        go_enter Tryd.func23, Tryd.ntmps23
        go_wp2_with fail
        refine (isWord_any p _ hp).mono ?_
        rintro e w1 ⟨rfl, b1⟩
        rw [h1]
        go_wp2_with fail
        refine (letters_any 26 t _ (by omega) (by omega) ht).mono ?_
        rintro e w2 ⟨rfl, b2⟩
        rw [h2]
        go_wp2_with fail
        have hbl := bel_trans b1 b2
        have hbs := hbl.size
        have Hp3 := Lib.hid p3
        clear h1 h2 p3 b1 b2 htx
        go_loopw [6, 23] (fun v x wr => ∃ k : Nat, k ≤ t.size ∧ x = .int .i64 k ∧ Hid (IRow wr w.heap.size v (selR (plwB p t) 0 k)) ∧ Below w.heap.size w wr) (fun _ x _ => t.size - (intOf x).toNat)
        case atStart => exact ⟨0, by omega, by simp, IRow.nil _ _, hbl⟩
        case round =>
          obtain ⟨k, hk, rfl, hI, hb⟩ := hrel
          obtain ⟨wa, rfl⟩ : ∃ wa : World, wa = wr := ⟨_, rfl⟩
          have hsa := hb.size
          by_cases hlt : k < t.size
          · skip
            have hl := selR_len (plwB p t) 0 k
            have hbe : Lib.hasPrefix (t.extract k t.size).data.toList p.data.toList = plwB p t (0 + k) := by rw [Nat.zero_add]; exact pre_plw p t k (by omega)
            cases hq : plwB p t (0 + k) with
            | true =>
              have hS : Hid (selR (plwB p t) 0 (k + 1) = selR (plwB p t) 0 k ++ [(k : Int)]) := by
                refine Lib.hid ?_
                rw [selR_yes hq]
                simp
              rw [hq] at hbe
              clear hq
              have Hbe := Lib.hid hbe
              clear hbe
              go_wp2_with fail
              refine (prefix_any _ p _).mono ?_
              rintro e w2 ⟨rfl, rfl⟩
              rw [Hbe.out]
              go_wp2_with (at_builtin; refine wpList_push1 rfl (.tmp 31) (.tmp 33) rfl _ _ _ hI.out (by omega) hsa (k : Int) rfl rfl ?_)
              intro v' w3 hI3 hb3
              go_wp2_with fail
              exact ⟨⟨k + 1, by omega, by go_num, by rw [hS.out]; exact hI3, hb.trans hb3⟩, by simp [intOf]; omega⟩
            | false =>
              have hS := Lib.hid (selR_no hq)
              rw [hq] at hbe
              clear hq
              have Hbe := Lib.hid hbe
              clear hbe
              go_wp2_with fail
              refine (prefix_any _ p _).mono ?_
              rintro e w2 ⟨rfl, rfl⟩
              rw [Hbe.out]
              go_wp2_with fail
              exact ⟨⟨k + 1, by omega, by go_num, by rw [hS.out]; exact hI, hb⟩, by simp [intOf]; omega⟩
          · have hks : k = t.size := by omega
            have Hks := Lib.hid hks
            clear hks
            go_wp2_with fail
            go_ret2
            exact ⟨_, rfl, by rw [← Hks.out]; exact hI.out, hb⟩
    · have hz3 : ¬ (t.size : Int) ≤ 60 := by omega
      have htx : txG t = false := by unfold txG inB; simp; omega
      rw [show ansPlw p t = [] from by unfold ansPlw; rw [h1, htx]; rfl, htx]
      clear htx
      go_enter Tryd.func23, Tryd.ntmps23
      go_wp2_with fail
      refine (isWord_any p _ hp).mono ?_
      rintro e w1 ⟨rfl, b1⟩
      rw [h1]
      go_wp2_with fail
      go_ret2
      exact ⟨_, rfl, IRow.nil _ _, b1⟩
set_option maxRecDepth 100000 in
set_option maxHeartbeats 1600000 in
theorem walkExactPlacesOfWord (s : ByteArray) (t : ByteArray) (w : World) (hs : s.size ≤ maxLen) (ht : t.size ≤ maxLen) :
    Calls Tryd.prog 6 #[.string s, .string t] w fun e w' => e = .returned (.bool true) ∧ Below w.heap.size w w' := by
  by_cases z0 : s.size ≤ 1048576
  rotate_left
  · go_enter Tryd.func6, Tryd.ntmps6
    go_wp2
    go_ret
    exact ⟨rfl, Below.refl _ _⟩
  by_cases z1 : t.size ≤ 1048576
  rotate_left
  · go_enter Tryd.func6, Tryd.ntmps6
    go_wp2
    go_ret
    exact ⟨rfl, Below.refl _ _⟩
  have hlen : (ansPlw s t).length ≤ 1000 := ansPlw_len s t
  generalize hxs : ansPlw s t = xs at *
  have Hxs := Lib.hid hxs
  clear hxs
  generalize hok : (woG 26 s && txG t) = ok at *
  have Hok := Lib.hid hok
  clear hok
  go_enter Tryd.func6, Tryd.ntmps6
  go_wp2_with fail
  refine (specPlw_any s t _ hs ht).mono ?_
  rw [Hxs.out, Hok.out]
  rintro e w1 ⟨v0, rfl, r0, bl1⟩
  have R0 := Lib.hid r0
  clear r0
  go_wp2_with fail
  refine (implPlw_any s t _ hs ht).mono ?_
  rw [Hxs.out, Hok.out]
  rintro e w2 ⟨v1, rfl, r1, hb2⟩
  have R1 := Lib.hid r1
  clear r1
  have R0b := Lib.hid (R0.out.below hb2)
  have bl2 := bel_trans bl1 hb2
  go_wp2_with fail
  refine (eqInt_same xs v1 v0 _ _ _ R1.out R0b.out).mono ?_
  rintro e w3 ⟨rfl, n3, rfl⟩
  go_wp2_with fail
  refine (mark_any xs v1 _ 1 _ (R1.out.drewN n3) (by omega) (by omega)).mono ?_
  rintro e w4 ⟨rfl, r4, hg4⟩
  have R4 := Lib.hid r4
  clear r4
  have bl4 := bel_grown (bel_drewN bl2 n3) hg4 (R1.out.drewN n3) (Nat.le_trans bl1.size (Nat.le_refl _))
  have R0c := Lib.hid ((R0b.out.drewN n3).kept_by hg4 (R1.out.drewN n3) bl1.size (R0.out))
  go_wp2_with fail
  refine (held_any xs v1 _ 1 _ R4.out (by omega) (by omega)).mono ?_
  rintro e w5 ⟨rfl, n5, rfl⟩
  have t1 : decide ((1 : Int) + (xs.length : Int) < 0) = false := by simp; omega
  go_wp2_with fail
  refine (implPlw_any s t _ hs ht).mono ?_
  rw [Hxs.out, Hok.out]
  rintro e w6 ⟨v2, rfl, r6, hb6⟩
  have R2 := Lib.hid r6
  clear r6
  have hb6b := bel_undrewN hb6
  have R0d := Lib.hid (R0c.out.below hb6b)
  have R1d := Lib.hid (R4.out.below hb6b)
  have bl6 := bel_trans bl4 hb6b
  go_wp2_with fail
  refine (eqInt_same xs v2 v0 _ _ _ R2.out R0d.out).mono ?_
  rintro e w7 ⟨rfl, n7, rfl⟩
  go_wp2_with fail
  refine (held_any xs v1 _ 1 _ (R1d.out.drewN n7) (by omega) (by omega)).mono ?_
  rintro e w8 ⟨rfl, n8, rfl⟩
  go_wp2_with fail
  go_ret
  refine ⟨rfl, ?_⟩
  repeat (first | assumption | with_reducible exact Below.refl _ _ | refine bel_alloc ?_ _ | refine bel_drewN ?_ _ | refine Below.drew ?_ | (refine Below.setCell ?_ (by simp) _) | (refine bel_trans ?_ (by assumption)))
end Go.Proofs.YtiblggfihpobkaaDoor
