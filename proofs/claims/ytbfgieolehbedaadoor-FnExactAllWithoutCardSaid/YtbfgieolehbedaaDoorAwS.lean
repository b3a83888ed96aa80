/- AllWithout: the contracts of the model. -/
import Derived.Test.YtbfgieolehbedaaDoorMlT
import Derived.Test.YtbfgieolehbedaaDoorRgA
namespace Go.Proofs.YtbfgieolehbedaaDoor
open Go.ChangeShapes Go.WideShapes Go.ChangeAt Go.RowKit
set_option linter.unusedVariables false
set_option linter.unusedSimpArgs false

set_option maxRecDepth 100000 in
set_option maxHeartbeats 3200000 in
theorem ptWithout_any (p : ByteArray) (t : Nat) (w : World) (h1 : 1 ≤ p.size) (h8 : p.size ≤ 8) (ht : t ≤ 40) :
    Calls Tryd.prog 25 #[.string p, .int .i64 t] w fun e w' => e = .returned (.int .i64 (sumJ (cntS p t) p.size)) ∧ Below w.heap.size w w' := by
  go_enter Tryd.func25, Tryd.ntmps25
  go_wp2_with fail
  refine (ptCounts_any p t _ h1 h8 ht).mono ?_
  rintro e w1 ⟨v, rfl, r1, b1⟩
  rcases r1.form with ⟨hx, _⟩ | ⟨hx, g, cap, rfl, hbg, hgl, hlc, hcm⟩
  · have := rowF_len p.size (cntS p t)
    rw [hx] at this; simp at this
  · rw [rowF_len] at hlc
    have hr1 := r1
    rw [rowF_len] at hr1 ⊢
    unfold maxLen at hcm
    have R1 := Lib.hid hr1
    have hsum := Lib.hid (cntS_sum p t ht)
    have hnn := Lib.hid (cntS_nonneg p t)
    have B1 := Lib.hid b1
    clear r1 hr1 b1 hx
    generalize hfe : cntS p t = f at *
    have Hfe := Lib.hid hfe
    clear hfe
    go_wp2_with fail
    go_loop [5, 15] (fun x i => ∃ k : Nat, k ≤ p.size ∧ i = .int .i64 k ∧ x = .int .i64 (sumJ f k)) (fun _ i => p.size - (intOf i).toNat)
    case atStart => exact ⟨0, by omega, rfl, rfl⟩
    case round =>
      obtain ⟨k, hk, rfl, rfl⟩ := hrel
      by_cases hlt : k < p.size
      · obtain ⟨c0, f0⟩ := rowF_cell R1.out k (by omega)
        have hs : Hid (sumJ f (k + 1) = sumJ f k + f k) := rfl
        have h0 := sumJ_nonneg (g := f) k (fun i _ => hnn.out i)
        have hfk := hnn.out k
        have hle : sumJ f k + f k ≤ 1099511627776 := by
          have hmono : ∀ m, k + 1 ≤ m → m ≤ p.size → sumJ f (k + 1) ≤ sumJ f m := by
            intro m
            induction m with
            | zero => intro h _; omega
            | succ m ih =>
              intro h h'
              by_cases e : k + 1 = m + 1
              · rw [e]; exact Int.le_refl _
              · have := ih (by omega) (by omega)
                have := hnn.out m
                show sumJ f (k + 1) ≤ sumJ f m + f m
                omega
          have h3 := hmono p.size (by omega) (Nat.le_refl _)
          have h4 := hsum.out
          rw [hs.out] at h3
          omega
        generalize sumJ f k = S at *
        generalize f k = y at *
        go_wp2_with fail
        exact ⟨⟨k + 1, by omega, by go_num, by rw [hs.out]⟩, by simp [intOf]; omega⟩
      · obtain rfl : k = p.size := by omega
        go_wp2_with fail
        go_ret
        exact ⟨by rw [← Hfe.out]; rfl, B1.out⟩


theorem lst_len (P : LB) : ∀ (k : Nat) (b : LB), (lstL P k b).length ≤ 2 ^ k
  | 0, b => by
    cases h : P.isSuffixOf b
    · rw [lstL_zero h]; simp
    · rw [lstL_yes h]; simp
  | k + 1, b => by
    cases h : P.isSuffixOf b
    · rw [lstL_succ h, List.length_append, Nat.pow_succ]
      have h1 := lst_len P k (b ++ [104])
      have h2 := lst_len P k (b ++ [116])
      omega
    · rw [lstL_yes h]; simp
theorem SRow.src {w : World} {base : Nat} {v : Value} {xs : List ByteArray} (h : SRow w base v xs) : Src w v xs := by
  have hcells := fun k hk g cap (e : v = .slice (some ⟨g, 0, none⟩) xs.length cap) => (e ▸ h : SRow w base (.slice (some ⟨g, 0, none⟩) xs.length cap) xs).at_ k hk
  rcases h.2 with ⟨e, h0⟩ | ⟨g, cap, cur, e, _⟩
  · left
    exact ⟨e, List.length_eq_zero_iff.1 h0⟩
  · right
    refine ⟨⟨g, 0, none⟩, cap, e, fun j hj => ?_⟩
    rw [Addr.add_lit, Nat.zero_add]
    exact hcells j hj g cap e
theorem ext_end (p b : ByteArray) (h : p.size ≤ b.size) : b.extract (b.size - p.size) b.size = p ↔ p.data.toList.isSuffixOf b.data.toList = true := by
  have hp := len_list p
  have hb := len_list b
  rw [List.isSuffixOf_iff_suffix, List.suffix_iff_eq_drop, hp, hb, ba_eq, ext_list, List.take_of_length_le (by omega)]
  exact eq_comm
theorem suf_short {p b : ByteArray} (h : b.size < p.size) : p.data.toList.isSuffixOf b.data.toList = false := by
  rw [← Bool.not_eq_true, List.isSuffixOf_iff_suffix]
  intro e
  have := e.length_le
  rw [len_list, len_list] at this
  omega
theorem str_snoc (b : ByteArray) (c : UInt8) : (b ++ ⟨#[c]⟩).data.toList = b.data.toList ++ [c] := by rw [ByteArray.data_append, Array.toList_append]
set_option maxRecDepth 100000 in
set_option maxHeartbeats 6400000 in
theorem ptList_any (p : ByteArray) (h1 : 1 ≤ p.size) (h8 : p.size ≤ 8) : ∀ (n : Nat) (b : ByteArray) (w : World), b.size + n ≤ 12 →
    Calls Tryd.prog 26 #[.string p, .string b, .int .i64 n] w (RowS ((lstL p.data.toList n b.data.toList).map baT) w) := by
  intro n
  induction n with
  | zero =>
    intro b w hb
    rcases Nat.lt_or_ge b.size p.size with hlt | hge
    · have hs := suf_short hlt
      have hd : decide ((p.size : Int) ≤ (b.size : Int)) = false := by simp; omega
      have hd2 : decide (p.size ≤ b.size) = false := by simp; omega
      have hb0 : Hid (baT b.data.toList = b) := Lib.hid (ba_eq.2 (baT_list _))
      rw [lstL_zero hs, List.map_singleton, hb0.out]
      clear hs hlt
      go_enter Tryd.func26, Tryd.ntmps26
      go_wp2_with fail
      go_ret
      exact ⟨_, rfl, SRow.lit1 _ _, bel_alloc (Below.refl _ _) _⟩
    · obtain ⟨d, hd⟩ : ∃ d, b.size = d + p.size := ⟨b.size - p.size, by omega⟩
      have e1 : b.size - p.size = d := by omega
      have hx := ext_end p b hge
      rw [e1] at hx
      have hw : IntKind.i64.wrap ((b.size : Int) - (p.size : Int)) = (d : Int) := by rw [IntWalk.i64_in _ (by omega)]; omega
      have hge1 : (p.size : Int) ≤ (b.size : Int) := by omega
      have hd0 : (d : Int) ≤ (b.size : Int) := by omega
      have hd1 : d ≤ b.size := by omega
      by_cases he : b.extract d b.size = p
      · have hs := hx.1 he
        have hq : ((b.extract d b.size).toList == p.toList) = true := by rw [he]; simp
        rw [lstL_yes hs]
        clear hs he hx e1 hd
        go_enter Tryd.func26, Tryd.ntmps26
        go_wp2_with fail
        go_ret
        exact ⟨_, rfl, SRow.nil _ _, Below.refl _ _⟩
      · have hs : p.data.toList.isSuffixOf b.data.toList = false := by
          rw [← Bool.not_eq_true]
          exact fun e => he (hx.2 e)
        have hq : ((b.extract d b.size).toList == p.toList) = false := by
          rw [beq_eq_false_iff_ne]
          intro e
          rw [ByteArray.toList_eq, ByteArray.toList_eq] at e
          exact he (ba_eq.2 e)
        have hb0 : Hid (baT b.data.toList = b) := Lib.hid (ba_eq.2 (baT_list _))
        rw [lstL_zero hs, List.map_singleton, hb0.out]
        clear hs he hx e1 hd
        go_enter Tryd.func26, Tryd.ntmps26
        go_wp2_with fail
        go_ret
        exact ⟨_, rfl, SRow.lit1 _ _, bel_alloc (Below.refl _ _) _⟩
  | succ m ih =>
    intro b w hb
    have IH := Lib.hid ih
    clear ih
    have za : b.size ≤ 12 := by omega
    have hadd1 : ∀ W : World, (Op.stringOp .add b ⟨#[104]⟩).run Tryd.prog W = .ok (.string (b ++ ⟨#[104]⟩)) W := fun W => run_string_add W _ _ (by omega) (by show ((1 : Nat) : Int) ≤ 8388608; omega)
    have hadd2 : ∀ W : World, (Op.stringOp .add b ⟨#[116]⟩).run Tryd.prog W = .ok (.string (b ++ ⟨#[116]⟩)) W := fun W => run_string_add W _ _ (by omega) (by show ((1 : Nat) : Int) ≤ 8388608; omega)
    have z1 : (b ++ ⟨#[104]⟩).size + m ≤ 12 := by rw [ByteArray.size_append]; show b.size + 1 + m ≤ 12; omega
    have z2 : (b ++ ⟨#[116]⟩).size + m ≤ 12 := by rw [ByteArray.size_append]; show b.size + 1 + m ≤ 12; omega
    have hm : IntKind.i64.wrap (((m + 1 : Nat) : Int) - 1) = (m : Int) := by rw [IntWalk.i64_in _ (by omega)]; omega
    have hm2 : IntKind.i64.wrap ((m : Int) + 1 - 1) = (m : Int) := by rw [IntWalk.i64_in _ (by omega)]; omega
    have hn0 : (((m : Int) + 1) == 0) = false := by rw [beq_eq_false_iff_ne]; omega
    have hz := Lib.hid z1
    have hz2 := Lib.hid z2
    have hl1 := Lib.hid (lst_len p.data.toList m (b.data.toList ++ [104]))
    have hl2 := Lib.hid (lst_len p.data.toList m (b.data.toList ++ [116]))
    have hpw := Lib.hid (pow12 m (by omega))
    have e1 := Lib.hid (str_snoc b 104)
    have e2 := Lib.hid (str_snoc b 116)
    clear z1 z2
    rcases Nat.lt_or_ge b.size p.size with hlt | hge
    · have hs := suf_short hlt
      have hd : decide ((p.size : Int) ≤ (b.size : Int)) = false := by simp; omega
      have hd2 : decide (p.size ≤ b.size) = false := by simp; omega
      rw [lstL_succ hs, List.map_append]
      clear hs hlt
      generalize b ++ ⟨#[104]⟩ = bh at *
      generalize b ++ ⟨#[116]⟩ = bt at *
      go_enter Tryd.func26, Tryd.ntmps26
      go_wp2_with fail
      refine (IH.out bh _ hz.out).mono ?_
      rw [e1.out]
      rintro e w1 ⟨v1, rfl, r1, b1⟩
      have R1 := Lib.hid r1
      have B1 := Lib.hid b1
      clear r1 b1
      go_wp2_with fail
      refine (IH.out bt _ hz2.out).mono ?_
      rw [e2.out]
      rintro e w2 ⟨v2, rfl, r2, b2⟩
      have R1b := Lib.hid (R1.out.below b2)
      have R2 := Lib.hid r2
      have B2 := Lib.hid (bel_trans B1.out b2)
      have hs2 : w.heap.size ≤ w2.heap.size := B2.out.size
      clear r2 b2
      go_wp2_with (at_builtin; refine wpList_pushG _ rfl (.tmp 32) (.tmp 38) rfl w.heap.size v1 v2 _ R1b.out (by have := hl1.out; have := hl2.out; have := hpw.out; simp only [List.length_map]; omega) hs2 rfl rfl R2.out.src ?_)
      intro v3 w3 r3 b3
      have R3 := Lib.hid r3
      have B3 := Lib.hid (B2.out.trans b3)
      clear r3 b3
      go_wp2_with fail
      go_ret
      exact ⟨_, rfl, R3.out, B3.out⟩

    · obtain ⟨d, hd⟩ : ∃ d, b.size = d + p.size := ⟨b.size - p.size, by omega⟩
      have e3 : b.size - p.size = d := by omega
      have hx := ext_end p b hge
      rw [e3] at hx
      have hw : IntKind.i64.wrap ((b.size : Int) - (p.size : Int)) = (d : Int) := by rw [IntWalk.i64_in _ (by omega)]; omega
      have hge1 : (p.size : Int) ≤ (b.size : Int) := by omega
      have hd0 : (d : Int) ≤ (b.size : Int) := by omega
      have hd1 : d ≤ b.size := by omega
      by_cases he : b.extract d b.size = p
      · have hs := hx.1 he
        have hq : ((b.extract d b.size).toList == p.toList) = true := by rw [he]; simp
        rw [lstL_yes hs]
        clear hs he hx e3 hd
        go_enter Tryd.func26, Tryd.ntmps26
        go_wp2_with fail
        go_ret
        exact ⟨_, rfl, SRow.nil _ _, Below.refl _ _⟩
      · have hs : p.data.toList.isSuffixOf b.data.toList = false := by
          rw [← Bool.not_eq_true]
          exact fun e => he (hx.2 e)
        have hq : ((b.extract d b.size).toList == p.toList) = false := by
          rw [beq_eq_false_iff_ne]
          intro e
          rw [ByteArray.toList_eq, ByteArray.toList_eq] at e
          exact he (ba_eq.2 e)
        rw [lstL_succ hs, List.map_append]
        clear hs he hx e3 hd
        generalize b ++ ⟨#[104]⟩ = bh at *
        generalize b ++ ⟨#[116]⟩ = bt at *
        go_enter Tryd.func26, Tryd.ntmps26
        go_wp2_with fail
        refine (IH.out bh _ hz.out).mono ?_
        rw [e1.out]
        rintro e w1 ⟨v1, rfl, r1, b1⟩
        have R1 := Lib.hid r1
        have B1 := Lib.hid b1
        clear r1 b1
        go_wp2_with fail
        refine (IH.out bt _ hz2.out).mono ?_
        rw [e2.out]
        rintro e w2 ⟨v2, rfl, r2, b2⟩
        have R1b := Lib.hid (R1.out.below b2)
        have R2 := Lib.hid r2
        have B2 := Lib.hid (bel_trans B1.out b2)
        have hs2 : w.heap.size ≤ w2.heap.size := B2.out.size
        clear r2 b2
        go_wp2_with (at_builtin; refine wpList_pushG _ rfl (.tmp 32) (.tmp 38) rfl w.heap.size v1 v2 _ R1b.out (by have := hl1.out; have := hl2.out; have := hpw.out; simp only [List.length_map]; omega) hs2 rfl rfl R2.out.src ?_)
        intro v3 w3 r3 b3
        have R3 := Lib.hid r3
        have B3 := Lib.hid (B2.out.trans b3)
        clear r3 b3
        go_wp2_with fail
        go_ret
        exact ⟨_, rfl, R3.out, B3.out⟩

end Go.Proofs.YtbfgieolehbedaaDoor
