/- The text of a puzzle: the contracts of the program and of its model. -/
import Derived.Test.YthmdkbeccohjkaaDoorPtzP
import Derived.Test.YthmdkbeccohjkaaDoorPzHb
import Derived.Deep.RegionHeld3
namespace Go.Proofs.YthmdkbeccohjkaaDoor
open Go.ChangeShapes Go.WideShapes Go.ChangeAt Go.RowKit
set_option linter.unusedVariables false
set_option linter.unusedSimpArgs false

theorem hc3_start {w W : World} {k0 : Nat} {x0_0 x0_1 x0_2 : Value} (h0 : Box3 W k0 x0_0 x0_1 x0_2) (hb : Below w.heap.size w W) : let V := W.drew
    V.cell? ⟨k0, 0, none⟩ = some x0_0 ∧ V.cell? ⟨k0, 1, none⟩ = some x0_1 ∧ V.cell? ⟨k0, 2, none⟩ = some x0_2 ∧ k0 < V.heap.size ∧ Below w.heap.size w V := ⟨h0.1, h0.2.1, h0.2.2.1, h0.2.2.2, hb.drew⟩
theorem hc3_keep {w W w1 : World} {k0 : Nat} {x0_0 x0_1 x0_2 : Value} (h : W.cell? ⟨k0, 0, none⟩ = some x0_0 ∧ W.cell? ⟨k0, 1, none⟩ = some x0_1 ∧ W.cell? ⟨k0, 2, none⟩ = some x0_2 ∧ k0 < W.heap.size ∧ Below w.heap.size w W) (hb : Below W.heap.size W w1) : w1.cell? ⟨k0, 0, none⟩ = some x0_0 ∧ w1.cell? ⟨k0, 1, none⟩ = some x0_1 ∧ w1.cell? ⟨k0, 2, none⟩ = some x0_2 ∧ k0 < w1.heap.size ∧ Below w.heap.size w w1 := by
  obtain ⟨a0_0, a0_1, a0_2, a0_3, hl⟩ := h
  have b0 : Box3 w1 k0 x0_0 x0_1 x0_2 := Box3.keep ⟨a0_0, a0_1, a0_2, a0_3⟩ hb
  exact ⟨b0.1, b0.2.1, b0.2.2.1, b0.2.2.2, bel_trans hl hb⟩
theorem hc3_below {w W : World} {k0 : Nat} {x0_0 x0_1 x0_2 : Value} (h : W.cell? ⟨k0, 0, none⟩ = some x0_0 ∧ W.cell? ⟨k0, 1, none⟩ = some x0_1 ∧ W.cell? ⟨k0, 2, none⟩ = some x0_2 ∧ k0 < W.heap.size ∧ Below w.heap.size w W) : Below w.heap.size w W := h.2.2.2.2
theorem cluT_at (ts : List Tri) (k : Nat) (hk : k < ts.length) (p q r : Nat) (e : ts.getD k tz = ((p : Int), (q : Int), (r : Int))) : (ts.map cluT3).getD k ByteArray.empty = cluT p q r := by
  rw [List.getD_eq_getElem?_getD, List.getElem?_eq_getElem hk] at e
  rw [List.getD_eq_getElem?_getD, List.getElem?_eq_getElem (by rw [List.length_map]; exact hk), List.getElem_map]
  show cluT3 ts[k] = _
  rw [show ts[k] = ((p : Int), (q : Int), (r : Int)) from e]
  rfl

set_option maxRecDepth 100000 in
set_option maxHeartbeats 3200000 in
theorem clueText_any (k a b : Nat) (w : World) (h1 : k ≤ 100) (h2 : a ≤ 100) (h3 : b ≤ 100) (hT : PT w) :
    Calls Tryd.prog 87 #[chn k a b] w fun e w' => e = .returned (.string (cluT k a b)) ∧ Below w.heap.size w w' := by
  have bx0 := Lib.hid (Box3.new w (.int .i64 k) (.int .i64 a) (.int .i64 b) 83)
  have bl0 := bel_alloc (Below.refl _ w) (.cells #[.int .i64 k, .int .i64 a, .int .i64 b] 83)
  have t1 := numS_size3 k h1
  have t2 := numS_size3 a h2
  have t3 := numS_size3 b h3
  have hfin : Hid (numS k ++ ⟨#[46]⟩ ++ numS a ++ ⟨#[46]⟩ ++ numS b = cluT k a b) := rfl
  have z1 : (numS k ++ ⟨#[46]⟩).size = (numS k).size + 1 := by rw [ByteArray.size_append]; rfl
  have z2 : (numS k ++ ⟨#[46]⟩ ++ numS a).size = (numS k).size + 1 + (numS a).size := by rw [ByteArray.size_append, z1]
  have z3 : (numS k ++ ⟨#[46]⟩ ++ numS a ++ ⟨#[46]⟩).size = (numS k).size + 1 + (numS a).size + 1 := by rw [ByteArray.size_append, z2]; rfl
  have z4 : (numS k ++ ⟨#[46]⟩ ++ numS a ++ ⟨#[46]⟩ ++ numS b).size = (numS k).size + 1 + (numS a).size + 1 + (numS b).size := by rw [ByteArray.size_append, z3]
  have hadd1 : ∀ W : World, (Op.stringOp .add (numS k) ⟨#[46]⟩).run Tryd.prog W = .ok (.string (numS k ++ ⟨#[46]⟩)) W := fun W => run_string_add W _ _ (by omega) (by show ((1 : Nat) : Int) ≤ 8388608; omega)
  have hadd2 : ∀ W : World, (Op.stringOp .add (numS k ++ ⟨#[46]⟩) (numS a)).run Tryd.prog W = .ok (.string (numS k ++ ⟨#[46]⟩ ++ numS a)) W := fun W => run_string_add W _ _ (by omega) (by omega)
  have hadd3 : ∀ W : World, (Op.stringOp .add (numS k ++ ⟨#[46]⟩ ++ numS a) ⟨#[46]⟩).run Tryd.prog W = .ok (.string (numS k ++ ⟨#[46]⟩ ++ numS a ++ ⟨#[46]⟩)) W := fun W => run_string_add W _ _ (by omega) (by show ((1 : Nat) : Int) ≤ 8388608; omega)
  have hadd4 : ∀ W : World, (Op.stringOp .add (numS k ++ ⟨#[46]⟩ ++ numS a ++ ⟨#[46]⟩) (numS b)).run Tryd.prog W = .ok (.string (numS k ++ ⟨#[46]⟩ ++ numS a ++ ⟨#[46]⟩ ++ numS b)) W := fun W => run_string_add W _ _ (by omega) (by omega)
  generalize numS k ++ ⟨#[46]⟩ ++ numS a ++ ⟨#[46]⟩ ++ numS b = T4 at *
  generalize numS k ++ ⟨#[46]⟩ ++ numS a ++ ⟨#[46]⟩ = T3 at *
  generalize numS k ++ ⟨#[46]⟩ ++ numS a = T2 at *
  generalize numS k ++ ⟨#[46]⟩ = T1 at *
  go_enter Tryd.func87, Tryd.ntmps87
  go_wp2_with fail
  go_region_held3 (fun w' => w'.cell? ⟨w.heap.size, 0, none⟩ = some (.int .i64 k) ∧ w'.cell? ⟨w.heap.size, 1, none⟩ = some (.int .i64 a) ∧ w'.cell? ⟨w.heap.size, 2, none⟩ = some (.int .i64 b) ∧ w.heap.size < w'.heap.size ∧ Below w.heap.size w w')
    (first | exact hc3_start bx0.out bl0 | exact hc3_keep (by assumption) hb3 | exact hc3_keep (by assumption) hb4 | exact hc3_keep (by assumption) hb5 | assumption | go_keep)
    (first | (go_at_call_of 88 (Value.int IntKind.i64 (k : Int)); refine (itoaT_any k _ h1 (hT.keep (hc3_below (by assumption)))).mono ?_; rintro e w3 ⟨rfl, hb3⟩) | (go_at_call_of 88 (Value.int IntKind.i64 (a : Int)); refine (itoaT_any a _ h2 (hT.keep (hc3_below (by assumption)))).mono ?_; rintro e w4 ⟨rfl, hb4⟩) | (go_at_call_of 88 (Value.int IntKind.i64 (b : Int)); refine (itoaT_any b _ h3 (hT.keep (hc3_below (by assumption)))).mono ?_; rintro e w5 ⟨rfl, hb5⟩))
  all_goals
    have hbl9 := hc3_below (by assumption)
    go_wp2
    go_ret
    exact ⟨by rw [← hfin.out]; rfl, hbl9⟩

set_option maxRecDepth 100000 in
set_option maxHeartbeats 6400000 in
theorem pzText_any (o : Nat) (ts : List Tri) (v : Value) (B : Nat) (w : World) (h : RdT w B v ts) (hB : B ≤ w.heap.size) (ho : o ≤ 8) (hn : ts.length ≤ 6) (hcl : clsG ts = true) :
    Calls Tryd.prog 82 #[pz o v] w fun e w' => e = .returned (.string (textP o ts)) ∧ Below w.heap.size w w' := by
  obtain ⟨A, cap, rfl, hl, hm⟩ := h.form
  unfold maxLen at hm
  have bl0 := Lib.hid (bel_alloc (Below.refl _ w) (.cells #[.int .i64 o, .slice A ts.length cap] 48))
  have bx0 := Lib.hid (Box2.new w (.int .i64 o) (.slice A ts.length cap) 48)
  have H := Lib.hid h
  clear h
  have hcs := Lib.hid (clu_texts hcl)
  have hsz := fun k => outP_size o (ts.map cluT3) (by omega) hcs.out k
  have hfin : Hid (outP o (ts.map cluT3) ts.length = textP o ts) := Lib.hid rfl
  have ho0 := numS_size3 o (by omega)
  have hadd0 : ∀ W : World, (Op.stringOp .add (numS o) ⟨#[58]⟩).run Tryd.prog W = .ok (.string (outP o (ts.map cluT3) 0)) W := fun W => run_string_add W _ _ (by omega) (by show ((1 : Nat) : Int) ≤ 8388608; omega)
  have hs1 : Hid (∀ k, outP o (ts.map cluT3) (k + 1) = (if k = 0 then outP o (ts.map cluT3) k else outP o (ts.map cluT3) k ++ ⟨#[44]⟩) ++ (ts.map cluT3).getD k ByteArray.empty) := Lib.hid (fun k => rfl)
  have hat := Lib.hid (cluT_at ts)
  have hall := Lib.hid (fun k (hk : k < ts.length) => clue_nat (List.all_eq_true.1 hcl (ts.getD k tz) (by rw [List.getD_eq_getElem?_getD, List.getElem?_eq_getElem hk]; exact List.getElem_mem _)))
  generalize hN : ts.length = N at *
  have HN := Lib.hid hN
  clear hN hcl
  generalize ts.map cluT3 = cs at *
  generalize hO : outP o cs = O at *
  clear hO
  obtain ⟨c0, c1, hk0⟩ := bx0.out
  go_enter Tryd.func82, Tryd.ntmps82
  go_wp2_with fail
  refine (l1Num_any o _ (by omega)).mono ?_
  rintro e w1 ⟨rfl, hb1⟩
  have bl1 := Lib.hid (bel_trans bl0.out hb1)
  obtain ⟨d0, d1, hk1⟩ := bx0.out.keep hb1
  clear c0 c1 hk0 hb1
  go_wp2_with fail
  go_loopw [3, 13] (fun out i wr => ∃ k : Nat, k ≤ N ∧ i = .int .i64 k ∧ out = .string (O k) ∧ Below w.heap.size w wr) (fun _ i _ => N - (intOf i).toNat)
  case atStart => exact ⟨0, by omega, rfl, rfl, bl1.out⟩
  case round =>
    obtain ⟨i, hi, rfl, rfl, hbl⟩ := hrel
    have hsi := hsz i
    by_cases hlt : i < N
    · have hkx : i < ts.length := by rw [HN.out]; exact hlt
      obtain ⟨k, a, b, hxe, h1', h2, h3⟩ := hall.out i hlt
      obtain ⟨ad, x, y, z, rfl, hab, hxyz, e0, e1, e2⟩ := (H.out.below hbl hB).at3 hkx
      rw [hxe] at hxyz
      injection hxyz with hx1 hx2
      injection hx2 with hx2 hx3
      subst hx1 hx2 hx3
      have h1 : k ≤ 100 := by omega
      have hct := Lib.hid (hat.out i hlt k a b hxe)
      have hs2 := Lib.hid (hs1.out i)
      clear hxe hkx
      rw [hct.out] at hs2
      have hbl2 := Lib.hid (bel_alloc hbl (.cells #[.int .i64 k, .int .i64 a, .int .i64 b] 83))
      have bx2 := Lib.hid (Box3.new wr (.int .i64 k) (.int .i64 a) (.int .i64 b) 83)
      have t1 := numS_size3 k h1
      have t2 := numS_size3 a h2
      have t3 := numS_size3 b h3
      have hfin : Hid (numS k ++ ⟨#[46]⟩ ++ numS a ++ ⟨#[46]⟩ ++ numS b = cluT k a b) := rfl
      have z1 : (numS k ++ ⟨#[46]⟩).size = (numS k).size + 1 := by rw [ByteArray.size_append]; rfl
      have z2 : (numS k ++ ⟨#[46]⟩ ++ numS a).size = (numS k).size + 1 + (numS a).size := by rw [ByteArray.size_append, z1]
      have z3 : (numS k ++ ⟨#[46]⟩ ++ numS a ++ ⟨#[46]⟩).size = (numS k).size + 1 + (numS a).size + 1 := by rw [ByteArray.size_append, z2]; rfl
      have z4 : (numS k ++ ⟨#[46]⟩ ++ numS a ++ ⟨#[46]⟩ ++ numS b).size = (numS k).size + 1 + (numS a).size + 1 + (numS b).size := by rw [ByteArray.size_append, z3]
      have hadd1 : ∀ W : World, (Op.stringOp .add (numS k) ⟨#[46]⟩).run Tryd.prog W = .ok (.string (numS k ++ ⟨#[46]⟩)) W := fun W => run_string_add W _ _ (by omega) (by show ((1 : Nat) : Int) ≤ 8388608; omega)
      have hadd2 : ∀ W : World, (Op.stringOp .add (numS k ++ ⟨#[46]⟩) (numS a)).run Tryd.prog W = .ok (.string (numS k ++ ⟨#[46]⟩ ++ numS a)) W := fun W => run_string_add W _ _ (by omega) (by omega)
      have hadd3 : ∀ W : World, (Op.stringOp .add (numS k ++ ⟨#[46]⟩ ++ numS a) ⟨#[46]⟩).run Tryd.prog W = .ok (.string (numS k ++ ⟨#[46]⟩ ++ numS a ++ ⟨#[46]⟩)) W := fun W => run_string_add W _ _ (by omega) (by show ((1 : Nat) : Int) ≤ 8388608; omega)
      have hadd4 : ∀ W : World, (Op.stringOp .add (numS k ++ ⟨#[46]⟩ ++ numS a ++ ⟨#[46]⟩) (numS b)).run Tryd.prog W = .ok (.string (numS k ++ ⟨#[46]⟩ ++ numS a ++ ⟨#[46]⟩ ++ numS b)) W := fun W => run_string_add W _ _ (by omega) (by omega)
      have hsn := hsz (i + 1)
      rcases Nat.eq_zero_or_pos i with hi0 | hip
      · have hgt : decide (0 < i) = false := by simp; omega
        have hlast : ∀ W : World, (Op.stringOp .add (O i) (numS k ++ ⟨#[46]⟩ ++ numS a ++ ⟨#[46]⟩ ++ numS b)).run Tryd.prog W = .ok (.string (O (i + 1))) W := by
          intro W
          rw [hs2.out, if_pos hi0]
          exact run_string_add W _ _ (by omega) (by omega)
        clear hs2 hct hi0
        generalize numS k ++ ⟨#[46]⟩ ++ numS a ++ ⟨#[46]⟩ ++ numS b = T4 at *
        generalize numS k ++ ⟨#[46]⟩ ++ numS a ++ ⟨#[46]⟩ = T3 at *
        generalize numS k ++ ⟨#[46]⟩ ++ numS a = T2 at *
        generalize numS k ++ ⟨#[46]⟩ = T1 at *
        go_wp2_with fail
        go_region_held3 (fun w' => w'.cell? ⟨wr.heap.size, 0, none⟩ = some (.int .i64 k) ∧ w'.cell? ⟨wr.heap.size, 1, none⟩ = some (.int .i64 a) ∧ w'.cell? ⟨wr.heap.size, 2, none⟩ = some (.int .i64 b) ∧ wr.heap.size < w'.heap.size ∧ Below w.heap.size w w')
          (first | exact hc3_start bx2.out hbl2.out | exact hc3_keep (by assumption) hb3 | exact hc3_keep (by assumption) hb4 | exact hc3_keep (by assumption) hb5 | assumption | go_keep)
          (first | (go_at_call_of 105 (Value.int IntKind.i64 (k : Int)); refine (l1Num_any k _ (by omega)).mono ?_; rintro e w3 ⟨rfl, hb3⟩) | (go_at_call_of 105 (Value.int IntKind.i64 (a : Int)); refine (l1Num_any a _ (by omega)).mono ?_; rintro e w4 ⟨rfl, hb4⟩) | (go_at_call_of 105 (Value.int IntKind.i64 (b : Int)); refine (l1Num_any b _ (by omega)).mono ?_; rintro e w5 ⟨rfl, hb5⟩))
        all_goals
          have hbl9 := hc3_below (by assumption)
          go_wp2_with fail
          exact ⟨⟨i + 1, by omega, by go_num, rfl, hbl9⟩, by simp [intOf]; omega⟩
      · have hgt : (0 : Int) < (i : Int) := by omega
        have hcomma : ∀ W : World, (Op.stringOp .add (O i) ⟨#[44]⟩).run Tryd.prog W = .ok (.string (O i ++ ⟨#[44]⟩)) W := fun W => run_string_add W _ _ (by omega) (by show ((1 : Nat) : Int) ≤ 8388608; omega)
        have hzc : (O i ++ ⟨#[44]⟩).size = (O i).size + 1 := by rw [ByteArray.size_append]; rfl
        have hlast : ∀ W : World, (Op.stringOp .add (O i ++ ⟨#[44]⟩) (numS k ++ ⟨#[46]⟩ ++ numS a ++ ⟨#[46]⟩ ++ numS b)).run Tryd.prog W = .ok (.string (O (i + 1))) W := by
          intro W
          rw [hs2.out, if_neg (by omega)]
          exact run_string_add W _ _ (by omega) (by omega)
        clear hs2 hct
        generalize O i ++ ⟨#[44]⟩ = Oc at *
        generalize numS k ++ ⟨#[46]⟩ ++ numS a ++ ⟨#[46]⟩ ++ numS b = T4 at *
        generalize numS k ++ ⟨#[46]⟩ ++ numS a ++ ⟨#[46]⟩ = T3 at *
        generalize numS k ++ ⟨#[46]⟩ ++ numS a = T2 at *
        generalize numS k ++ ⟨#[46]⟩ = T1 at *
        go_wp2_with fail
        go_region_held3 (fun w' => w'.cell? ⟨wr.heap.size, 0, none⟩ = some (.int .i64 k) ∧ w'.cell? ⟨wr.heap.size, 1, none⟩ = some (.int .i64 a) ∧ w'.cell? ⟨wr.heap.size, 2, none⟩ = some (.int .i64 b) ∧ wr.heap.size < w'.heap.size ∧ Below w.heap.size w w')
          (first | exact hc3_start bx2.out hbl2.out | exact hc3_keep (by assumption) hb3 | exact hc3_keep (by assumption) hb4 | exact hc3_keep (by assumption) hb5 | assumption | go_keep)
          (first | (go_at_call_of 105 (Value.int IntKind.i64 (k : Int)); refine (l1Num_any k _ (by omega)).mono ?_; rintro e w3 ⟨rfl, hb3⟩) | (go_at_call_of 105 (Value.int IntKind.i64 (a : Int)); refine (l1Num_any a _ (by omega)).mono ?_; rintro e w4 ⟨rfl, hb4⟩) | (go_at_call_of 105 (Value.int IntKind.i64 (b : Int)); refine (l1Num_any b _ (by omega)).mono ?_; rintro e w5 ⟨rfl, hb5⟩))
        all_goals
          have hbl9 := hc3_below (by assumption)
          go_wp2_with fail
          exact ⟨⟨i + 1, by omega, by go_num, rfl, hbl9⟩, by simp [intOf]; omega⟩
    · obtain rfl : i = N := by omega
      go_wp2_with fail
      go_ret
      exact ⟨by rw [← hfin.out]; rfl, hbl⟩
end Go.Proofs.YthmdkbeccohjkaaDoor
