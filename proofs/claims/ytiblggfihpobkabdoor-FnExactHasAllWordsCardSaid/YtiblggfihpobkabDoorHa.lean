/- HasAllWords: contracts and the walk. -/
import Derived.Test.YtiblggfihpobkabDoorHaA
import Derived.Test.YtiblggfihpobkabDoorFew
import Derived.Test.YtiblggfihpobkabDoorWo
namespace Go.Proofs.YtiblggfihpobkabDoor
set_option linter.unusedSimpArgs false
open Go.ChangeShapes Go.WideShapes Go.ChangeAt Go.RowKit
set_option linter.unusedVariables false

theorem bN_set (N : Nat) (r : Nat → Bool) (x : Bool) (q : Nat) (h : q < N) : (bN N r).setIfInBounds q (.bool x) = bN N (updW r q x) := by
  apply Array.ext_getElem?
  intro i
  rw [Array.getElem?_setIfInBounds]
  by_cases e : q = i
  · subst e
    rw [if_pos rfl, if_pos (by rw [bN_size]; exact h), bN_get _ _ _ h]
    simp [updW]
  · rw [if_neg e]
    by_cases hi : i < N
    · rw [bN_get _ _ _ hi, bN_get _ _ _ hi]
      unfold updW
      rw [if_neg (by omega)]
    · rw [Array.getElem?_eq_none (by rw [bN_size]; omega), Array.getElem?_eq_none (by rw [bN_size]; omega)]
theorem info_bool : (Tryd.prog.info? 4).map (fun i => (i.zero, i.size, i.bytes)) = some (some (.bool false), 1, 1) := by kernel_rfl
theorem madeB (v : Value) (n : Nat) : madeCells #[v] n = Array.replicate n v := by
  apply Array.ext
  · simp [madeCells]
  · intro i h1 h2
    simp [madeCells, Nat.mod_one]
theorem mk_bools (n : Nat) (hn : n ≤ 1048576) (W : World) : (Instr.makeSlice 49 (.int .i64 n) (.int .i64 n)).run Tryd.prog W = .ok (.slice (some ⟨W.heap.size, 0, none⟩) n n) (W.alloc (.cells (bN n noW) 4)) := by
  obtain ⟨i0, hi, hz0, hz1, hz2⟩ := info_parts info_bool
  have h := run_make (P := Tryd.prog) W 49 4 i0 _ Tryd.underlying49 hi hz0 .i64 .i64 n n (by omega) (by omega) (by rw [hz2]; omega) (by omega)
  rw [h, hz1, ← bN_zero]
  simp [Value.cells, madeB]
theorem newK_succ (f : Nat → Nat) (k : Nat) : newK f (k + 1) = (newK f k && !thK f k (f k)) := by
  unfold newK
  rw [List.range_succ, List.all_append]
  simp
theorem newK_not (f : Nat → Nat) (k q : Nat) (hk : k < q) (h : thK f k (f k) = true) : newK f q = false := by
  unfold newK
  rw [List.all_eq_false]
  exact ⟨k, List.mem_range.2 hk, by simp [h]⟩
/-- The ring is such a text. -/
def rgG (n L : Nat) (s : ByteArray) : Bool := decide (s.size = n ^ L) && allN n s
def ansHa (a b : Int) (s : ByteArray) : Value := if fwG a b && rgG a.toNat b.toNat s then .tuple #[.bool (newK (rkN a.toNat s b.toNat) s.size), .bool true] else .tuple #[.bool false, .bool false]
theorem eq_guard : Tryd.prog.eqGuardType Tryd.prog.depth 52 = false := by kernel_rfl
set_option maxRecDepth 100000 in
set_option maxHeartbeats 1600000 in
theorem implHa_any (a b : Int) (s : ByteArray) (w : World) (hs : s.size ≤ maxLen) :
    Calls Tryd.prog 14 #[.int .i64 a, .int .i64 b, .string s] w fun e w' => e = .returned (ansHa a b s) ∧ Below w.heap.size w w' := by
  cases h1 : fwG a b
  · rw [show ansHa a b s = .tuple #[.bool false, .bool false] from by unfold ansHa; rw [h1]; rfl]
    go_enter Tryd.func14, Tryd.ntmps14
    go_wp2_with fail
    refine (areListed_any a b _).mono ?_
    rintro e w' ⟨rfl, rfl⟩
    rw [h1]
    go_wp2_with fail
    go_ret2
    exact ⟨rfl, Below.refl _ _⟩
  · obtain ⟨n, L, rfl, rfl, n1, n2, l1, l2, hq⟩ := fw_nat h1
    have hpw := Lib.hid (pow_cast n L)
    have hge := (pw_tn n n1 n2 L).1
    rw [hpw.out] at hge
    obtain ⟨q, hqq⟩ : ∃ q, q = n ^ L := ⟨_, rfl⟩
    rw [← hqq] at hpw hq hge
    by_cases hz : s.size = q
    · cases h2 : allN n s
      · rw [show ansHa n L s = .tuple #[.bool false, .bool false] from by unfold ansHa rgG; rw [Int.toNat_natCast, Int.toNat_natCast, h2, Bool.and_false, Bool.and_false]; rfl]
        have hzi : (s.size : Int) = (q : Int) := by omega
        subst hz
        have Hqq := Lib.hid hqq
        have Hs := Lib.hid hs
        clear hqq hzi hs
        go_enter Tryd.func14, Tryd.ntmps14
        go_wp2_with fail
        refine (areListed_any n L _).mono ?_
        rintro e w' ⟨rfl, rfl⟩
        rw [h1]
        go_wp2_with fail
        refine (powerW_any n L _ n1 n2 (by omega)).mono ?_
        rintro e w' ⟨rfl, rfl⟩
        rw [hpw.out]
        go_wp2_with fail
        refine (letters_any n s _ n1 n2 Hs.out).mono ?_
        rintro e w2 ⟨rfl, b2⟩
        rw [h2]
        go_wp2_with fail
        go_ret2
        exact ⟨rfl, b2⟩
      · have hin : ∀ i, i < s.size → rkN n s L i < s.size := fun i hi => by rw [hz, hqq]; exact (rkN_in h2 (by omega) L i).2
        rw [show ansHa n L s = .tuple #[.bool (sameW (thK (rkN n s L) s.size) (ltW s.size)), .bool true] from by
          unfold ansHa rgG
          rw [Int.toNat_natCast, Int.toNat_natCast, h1, h2, hz, hqq, ring_eq _ _ (by omega) (by rw [← hqq, ← hz]; exact hin)]
          simp]
        subst hz
        have Hqq := Lib.hid hqq
        have Hs := Lib.hid hs
        have heq := fun W => boo_equal (thK (rkN n s L) s.size) (ltW s.size) W
        have hgu := eq_guard
        generalize hr : thK (rkN n s L) s.size = r at *
        have Hr := Lib.hid hr
        clear hqq hs hin hr
        go_enter Tryd.func14, Tryd.ntmps14
        go_wp2_with fail
        refine (areListed_any n L _).mono ?_
        rintro e w' ⟨rfl, rfl⟩
        rw [h1]
        go_wp2_with fail
        refine (powerW_any n L _ n1 n2 (by omega)).mono ?_
        rintro e w' ⟨rfl, rfl⟩
        rw [hpw.out]
        go_wp2_with fail
        refine (letters_any n s _ n1 n2 Hs.out).mono ?_
        rintro e w2 ⟨rfl, b2⟩
        rw [h2]
        go_wp2_with fail
        refine (ranksAround_any n L s _ n1 n2 l1 l2 (by omega) hq Hqq.out h2).mono ?_
        rintro e w3 ⟨rfl, b3⟩
        rw [Hr.out]
        go_wp2_with fail
        refine (ranksUpTo_any s.size _ hq).mono ?_
        rintro e w4 ⟨rfl, b4⟩
        go_wp2_with fail
        go_ret2
        exact ⟨rfl, bel_trans (bel_trans b2 b3) b4⟩
    · rw [show ansHa n L s = .tuple #[.bool false, .bool false] from by
        unfold ansHa rgG
        rw [Int.toNat_natCast, Int.toNat_natCast, ← hqq, show decide (s.size = q) = false from by simpa using hz, Bool.false_and, Bool.and_false]
        rfl]
      have hzi : ((s.size : Int) == (q : Int)) = false := by simpa using (by omega : ¬ (s.size : Int) = (q : Int))
      have hzj : ¬ (s.size : Int) = (q : Int) := by omega
      have hzb : (s.size == q) = false := by simpa using hz
      have Hs := Lib.hid hs
      clear hqq hs
      go_enter Tryd.func14, Tryd.ntmps14
      go_wp2_with fail
      refine (areListed_any n L _).mono ?_
      rintro e w' ⟨rfl, rfl⟩
      rw [h1]
      go_wp2_with fail
      refine (powerW_any n L _ n1 n2 (by omega)).mono ?_
      rintro e w' ⟨rfl, rfl⟩
      rw [hpw.out]
      go_wp2_with fail
      go_ret2
      exact ⟨rfl, Below.refl _ _⟩
set_option maxRecDepth 100000 in
set_option maxHeartbeats 1600000 in
theorem specHa_any (a b : Int) (s : ByteArray) (w : World) (hs : s.size ≤ maxLen) :
    Calls Tryd.prog 13 #[.int .i64 a, .int .i64 b, .string s] w fun e w' => e = .returned (ansHa a b s) ∧ Below w.heap.size w w' := by
  cases h1 : fwG a b
  · rw [show ansHa a b s = .tuple #[.bool false, .bool false] from by unfold ansHa; rw [h1]; rfl]
    go_enter Tryd.func13, Tryd.ntmps13
    go_wp2_with fail
    refine (woFew_any a b _).mono ?_
    rintro e w' ⟨rfl, rfl⟩
    rw [h1]
    go_wp2_with fail
    go_ret2
    exact ⟨rfl, Below.refl _ _⟩
  · obtain ⟨n, L, rfl, rfl, n1, n2, l1, l2, hq⟩ := fw_nat h1
    have hpw := Lib.hid (pow_cast n L)
    have hge := (pw_tn n n1 n2 L).1
    rw [hpw.out] at hge
    obtain ⟨q, hqq⟩ : ∃ q, q = n ^ L := ⟨_, rfl⟩
    rw [← hqq] at hpw hq hge
    have hrg : (inB (s.size : Int) q q && allN n s) = rgG n L s := by
      unfold rgG inB
      rw [← hqq]
      congr 1
      rw [Bool.eq_iff_iff, Bool.and_eq_true, decide_eq_true_iff, decide_eq_true_iff, decide_eq_true_iff]
      omega
    cases h2 : rgG n L s
    · rw [show ansHa n L s = .tuple #[.bool false, .bool false] from by unfold ansHa; rw [Int.toNat_natCast, Int.toNat_natCast, h2, Bool.and_false]; rfl]
      rw [h2] at hrg
      have Hrg := Lib.hid hrg
      have Hs := Lib.hid hs
      clear hrg hs hqq
      go_enter Tryd.func13, Tryd.ntmps13
      go_wp2_with fail
      refine (woFew_any n L _).mono ?_
      rintro e w' ⟨rfl, rfl⟩
      rw [h1]
      go_wp2_with fail
      refine (woPower_any n L _ n1 n2 (by omega)).mono ?_
      rintro e w' ⟨rfl, rfl⟩
      rw [hpw.out]
      go_wp2_with fail
      refine (woText_any n s q q _ n1 n2 Hs.out).mono ?_
      rintro e w2 ⟨rfl, rfl⟩
      rw [Hrg.out]
      go_wp2_with fail
      go_ret2
      exact ⟨rfl, Below.refl _ _⟩
    · have h3 := h2
      unfold rgG at h3
      rw [Bool.and_eq_true, decide_eq_true_iff, ← hqq] at h3
      obtain ⟨hz, hal⟩ := h3
      rw [show ansHa n L s = .tuple #[.bool (newK (rkN n s L) s.size), .bool true] from by unfold ansHa; rw [Int.toNat_natCast, Int.toNat_natCast, h1, h2]; rfl]
      rw [h2] at hrg
      subst hz
      have Hqq := Lib.hid hqq
      have Hrg := Lib.hid hrg
      have Hs := Lib.hid hs
      have HA := Lib.hid hal
      have hin : Hid (∀ i, rkK n (arW s L i) L = (rkN n s L i : Int) ∧ rkN n s L i < s.size) := Lib.hid fun i => by
        have := rkN_in hal (by omega) L i
        rw [← hqq] at this
        exact this
      obtain ⟨f, hf⟩ : ∃ f, f = rkN n s L := ⟨_, rfl⟩
      rw [← hf]
      have hfk : Hid (∀ k, f k = rkN n s L k) := Lib.hid fun k => by rw [hf]
      clear hrg hs hqq hal hf h2
      have hmk := fun W => mk_bools s.size (by omega) W
      go_enter Tryd.func13, Tryd.ntmps13
      go_wp2_with fail
      refine (woFew_any n L _).mono ?_
      rintro e w' ⟨rfl, rfl⟩
      rw [h1]
      go_wp2_with fail
      refine (woPower_any n L _ n1 n2 (by omega)).mono ?_
      rintro e w' ⟨rfl, rfl⟩
      rw [hpw.out]
      go_wp2_with fail
      refine (woText_any n s s.size s.size _ n1 n2 Hs.out).mono ?_
      rintro e w2 ⟨rfl, rfl⟩
      rw [Hrg.out]
      clear h1 Hrg hpw
      go_wp2_with fail
      go_loop [9] (fun x => ∃ (A : ByteArray) (c : Nat), 1 ≤ c ∧ A.size ≤ 700 ∧ x = .string A ∧ Hid (A.data.toList = Lib.repeatL s.data.toList c)) (fun x => 308 - (match x with | .string A => A.size | _ => 0))
      case atStart => exact ⟨s, 1, Nat.le_refl _, by omega, rfl, Lib.hid (Lib.repeatL_one _).symm⟩
      case round =>
        obtain ⟨A, c, hc, hA7, rfl, hA⟩ := hrel
        have hw1 : IntKind.i64.wrap ((s.size : Int) + (L : Int)) = (s.size : Int) + (L : Int) := IntWalk.i64_in _ (by omega)
        by_cases hlt : A.size < s.size + L
        · have hlti : (A.size : Int) < (s.size : Int) + (L : Int) := by omega
          have t1 : ¬ 9223372036854775807 < A.size + s.size := by omega
          have hB : Hid ((A ++ s).data.toList = Lib.repeatL s.data.toList (c + 1)) := Lib.hid (by
            rw [ByteArray.data_append, Array.toList_append, hA.out, Lib.repeatL_add, Lib.repeatL_one])
          have hBz : Hid ((A ++ s).size = A.size + s.size) := Lib.hid ByteArray.size_append
          go_wp2_with fail
          exact ⟨⟨A ++ s, c + 1, by omega, by rw [hBz.out]; omega, rfl, hB⟩, by have := hBz.out; simp only [this]; omega⟩
        · have hlti : ¬ (A.size : Int) < (s.size : Int) + (L : Int) := by omega
          have hAz : Hid (A.size = c * s.size) := Lib.hid (by rw [← len_list, hA.out, Lib.repeatL_length, len_list])
          go_wp2_with fail
          go_loopw [11] (fun x wr => ∃ k : Nat, k ≤ s.size ∧ x = .int .i64 k ∧ Hid (newK f k = true) ∧ Hid (wr.heap[w.heap.size]? = some (.cells (bN s.size (thK f k)) 4)) ∧ Below w.heap.size w wr) (fun x _ => s.size - (intOf x).toNat)
          case atStart => exact ⟨0, by omega, rfl, rfl, Lib.hid (by rw [thK_zero]; exact heap_alloc_new w _), bel_alloc (Below.refl _ _) _⟩
          case round =>
            obtain ⟨k, hk, rfl, hnw, hh, hb⟩ := hrel
            obtain ⟨wa, rfl⟩ : ∃ wa : World, wa = wr := ⟨_, rfl⟩
            by_cases hlk : k < s.size
            · obtain ⟨r1, r2⟩ := hin.out k
              have hext := arW_ext s A c L k hA.out (by rw [← hAz.out]; omega)
              have har := arW_size s L k
              have hall := arW_all HA.out (by omega) L k
              have hwk : IntKind.i64.wrap ((k : Int) + (L : Int)) = (k : Int) + (L : Int) := IntWalk.i64_in _ (by omega)
              have hki : (k : Int) + (L : Int) ≤ (A.size : Int) := by omega
              have hkz : (0 : Int) ≤ (k : Int) + (L : Int) := by omega
              have hkt : ((k : Int) + (L : Int)).toNat = k + L := by omega
              have hkm : (k : Int) ≤ (k : Int) + (L : Int) := by omega
              obtain ⟨m, hm⟩ : ∃ m, m = f k := ⟨_, rfl⟩
              have hts := thK_succ f k
              have hns := newK_succ f k
              have hnn := newK_not f k s.size hlk
              rw [← hm] at hts hns hnn
              have hrv : Hid (rkK n (arW s L k) (arW s L k).size = (m : Int)) := Lib.hid (by rw [har, r1, hm, hfk.out])
              have m1 : (m : Int) < (s.size : Int) := by rw [hm, hfk.out]; omega
              have m2 : m < s.size := by omega
              have Hext := Lib.hid hext
              have Har := Lib.hid har
              have Hall := Lib.hid hall
              have c1 := cell_heap hh.out (bN_get s.size (thK f k) m m2)
              have f1 := froz_heap (q := m) hh.out
              cases hq2 : thK f k m with
              | true =>
                have hfin := Lib.hid (hnn hq2)
                rw [hq2] at c1
                clear hext har hall r1 r2 hm hts hns hnn hq2
                go_wp2_with fail
                rw [Hext.out]
                refine (woRank_any n (arW s L k) wa n1 n2 (by rw [Har.out]; exact l1) (by rw [Har.out]; exact l2) Hall.out).mono ?_
                rintro e w5 ⟨rfl, rfl⟩
                rw [hrv.out]
                go_wp2_with fail
                go_ret2
                exact ⟨by rw [hfin.out]; rfl, hb⟩
              | false =>
                have hn2 : Hid (newK f (k + 1) = true) := Lib.hid (by rw [hns, hnw.out, hq2]; rfl)
                have s1 := Lib.hid (set_heap (q := m) hh.out (.bool true))
                rw [bN_set _ _ _ _ m2, hts] at s1
                have hb1 : Below w.heap.size w (wa.setCell ⟨w.heap.size, m, none⟩ (.bool true)) := hb.setCell (Nat.le_refl _) _
                rw [hq2] at c1
                clear hext har hall r1 r2 hm hts hns hnn hq2
                go_wp2_with fail
                rw [Hext.out]
                refine (woRank_any n (arW s L k) wa n1 n2 (by rw [Har.out]; exact l1) (by rw [Har.out]; exact l2) Hall.out).mono ?_
                rintro e w5 ⟨rfl, rfl⟩
                rw [hrv.out]
                go_wp2_with fail
                exact ⟨⟨k + 1, by omega, by go_num, hn2, s1, hb1⟩, by simp [intOf]; omega⟩
            · obtain rfl : k = s.size := by omega
              go_wp2_with fail
              go_ret2
              exact ⟨by rw [hnw.out]; rfl, hb⟩
theorem ansHa_form (a b : Int) (s : ByteArray) : ∃ (x : Bool) (o : Bool), ansHa a b s = .tuple #[.bool x, .bool o] := by
  unfold ansHa
  split
  · exact ⟨_, _, rfl⟩
  · exact ⟨_, _, rfl⟩
theorem walkExactHasAllWords (a b : Int) (s : ByteArray) (w : World) (ha : (Lit.int .i64 a).wf = true) (hb : (Lit.int .i64 b).wf = true) (hs : s.size ≤ maxLen) :
    Calls Tryd.prog 6 #[.int .i64 a, .int .i64 b, .string s] w fun e w' => e = .returned (.bool true) ∧ Below w.heap.size w w' := by
  clear ha hb
  by_cases z0 : s.size ≤ 1048576
  rotate_left
  · go_enter Tryd.func6, Tryd.ntmps6
    go_wp2
    go_ret
    exact ⟨rfl, Below.refl _ _⟩
  obtain ⟨x, o, hf⟩ := ansHa_form a b s
  have Hf := Lib.hid hf
  clear hf
  go_enter Tryd.func6, Tryd.ntmps6
  go_wp2_with fail
  refine (specHa_any a b s _ hs).mono ?_
  rw [Hf.out]
  rintro e w1 ⟨rfl, b1⟩
  go_wp2_with fail
  refine (implHa_any a b s _ hs).mono ?_
  rw [Hf.out]
  rintro e w2 ⟨rfl, b2⟩
  go_wp2_with fail
  go_ret
  exact ⟨rfl, bel_trans b1 b2⟩
end Go.Proofs.YtiblggfihpobkabDoor
