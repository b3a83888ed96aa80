/- Lists of prime words: the search. -/
import Derived.Test.YtiblggfihpobkabPwC
namespace Go.Proofs.Ytiblggfihpobkab
set_option linter.unusedSimpArgs false
open Go.ChangeShapes Go.WideShapes Go.ChangeAt Go.RowKit
set_option linter.unusedVariables false

theorem below_up {B : Nat} {W W' : World} (h : Below W.heap.size W W') (hb : B ≤ W.heap.size) : Below B W W' :=
  ⟨h.os, h.tape, h.output, h.size, fun k hk => h.block k (by omega)⟩
theorem below_le {B B2 : Nat} {W W' : World} (h : Below B2 W W') (hb : B ≤ B2) : Below B W W' :=
  ⟨h.os, h.tape, h.output, h.size, fun k hk => h.block k (by omega)⟩
theorem dfs_succ (n : Nat) (ls : List Int) (d : Nat) (s : ByteArray) : dfs n ls (d + 1) s = hit ls s ++ kids n ls d s n := rfl
theorem kids_le (n : Nat) (ls : List Int) (d : Nat) (s : ByteArray) : ∀ k, k ≤ n → (kids n ls d s k).length ≤ (kids n ls d s n).length := by
  have step : ∀ k e, (kids n ls d s k).length ≤ (kids n ls d s (k + e)).length := by
    intro k e
    induction e with
    | zero => exact Nat.le_refl _
    | succ e ih => rw [← Nat.add_assoc, kids_succ, List.length_append]; omega
  intro k hk
  obtain ⟨e, rfl⟩ := Nat.exists_eq_add_of_le hk
  exact step k e
set_option maxRecDepth 100000 in
set_option maxHeartbeats 3200000 in
theorem searchZ_any (B n g cap : Nat) (ls : List Int) (mx : Nat) (n1 : 1 ≤ n) (n2 : n ≤ 26) (hm : Hid (mxI ls (ls.length - 1) = (mx : Int))) (h0 : Hid (hasI ls 0 = false)) (hl1 : 1 ≤ ls.length) (hl2 : ls.length ≤ 1000) (hmx : mx ≤ 8)
    (s : ByteArray) (hs : s.size + 0 = mx) (W : World) (v : Value) (xs : List ByteArray) (hS : Sch B n g cap ls v xs W) (hL : xs.length + (dfs n ls 0 s).length ≤ 1000000) :
    Calls Try.prog 70 #[.string s, .pointer (some ⟨B + 1, 0, none⟩), .pointer (some ⟨B + 2, 0, none⟩), .pointer (some ⟨B, 0, none⟩), .pointer (some ⟨B + 3, 0, none⟩)] W fun e W' => e = .returned (.tuple #[]) ∧ (∃ v', Sch B n g cap ls v' (xs ++ dfs n ls 0 s) W') ∧ Below B W W' := by
  have eg : ∀ args w, (callFunc 70 args).run Try.prog w = .ok (.enter 70 args) w := Go.Proofs.enters_of Try.func70 (by kernel_rfl) rfl
  obtain ⟨c2, c3, c5, f5, c6, row, cel, gl, sz⟩ := hS
  have HS : Hid (Sch B n g cap ls v xs W) := Lib.hid ⟨c2, c3, c5, f5, c6, row, cel, gl, sz⟩
  have HCl := Lib.hid cel
  have HL := Lib.hid hL
  clear row cel hL
  rw [show dfs n ls 0 s = hit ls s from rfl]
  have hq1 : ((s.size : Int) == (mx : Int)) = true := by simp; omega
  cases hh : hasI ls (s.size : Int)
  · have hhit : hit ls s = [] := by unfold hit; rw [hh]; rfl
    have hS1 : Sch B n g cap ls v (xs ++ hit ls s) W := by rw [hhit, List.append_nil]; exact HS.out
    have hB1 : Below B W W := Below.refl _ _
    have HS1 := Lib.hid hS1
    have HB1 := Lib.hid hB1
    clear hS1 hB1
    go_enter Try.func70, Try.ntmps70
    go_wp2_with fail
    refine (containsI_any ls g cap (s.size : Int) _ HCl.out hl1 hl2).mono ?_
    rintro e w1 ⟨rfl, rfl⟩
    rw [hh]
    have hS1 := HS1.out
    have hB1 := HB1.out
    clear HS HCl c2 c3 c5 f5 c6 gl sz HS1 HB1 hh
    obtain ⟨c2, c3, c5, f5, c6, row, cel, gl, sz⟩ := hS1
    have c6 : W.cell? ⟨B + 3, 0, none⟩ = some (.func (.func 70) #[] #[.pointer (some ⟨B + 1, 0, none⟩), .pointer (some ⟨B + 2, 0, none⟩), .pointer (some ⟨B, 0, none⟩), .pointer (some ⟨B + 3, 0, none⟩)]) := c6
    have HS1 : Hid (Sch B n g cap ls v (xs ++ hit ls s) W) := Lib.hid ⟨c2, c3, c5, f5, c6, row, cel, gl, sz⟩
    have HCel := Lib.hid cel
    clear row cel
    go_wp2_with fail
    refine (maxI_any ls g cap _ HCel.out hl1 hl2).mono ?_
    rintro e w4 ⟨rfl, rfl⟩
    rw [hm.out]
    go_wp2_with fail
    refine bodyPost_ret (results_none rfl _ _ _) rfl ?_
    exact ⟨rfl, ⟨_, HS1.out⟩, hB1⟩
  · have hs1 : 1 ≤ s.size := by
      rcases Nat.eq_zero_or_pos s.size with e | e
      · have := h0.out
        rw [e] at hh
        rw [show hasI ls ((0 : Nat) : Int) = hasI ls 0 from rfl, this] at hh
        cases hh
      · exact e
    cases hp : isPr s
    · have hhit : Hid (hit ls s = []) := Lib.hid (by unfold hit; rw [hh, hp]; rfl)
      go_enter Try.func70, Try.ntmps70
      go_wp2_with fail
      refine (containsI_any ls g cap (s.size : Int) _ HCl.out hl1 hl2).mono ?_
      rintro e w1 ⟨rfl, rfl⟩
      rw [hh]
      go_wp2_with fail
      refine (isPrime_any s _ hs1 (by omega)).mono ?_
      rintro e W1 ⟨rfl, hb1⟩
      rw [hp]
      have hS1 : Sch B n g cap ls v (xs ++ hit ls s) W1 := by rw [hhit.out, List.append_nil]; exact HS.out.keep hb1
      have hB1 : Below B W W1 := below_up hb1 (by omega)
      clear hp hh
      clear HS HCl c2 c3 c5 f5 c6 gl sz
      obtain ⟨c2, c3, c5, f5, c6, row, cel, gl, sz⟩ := hS1
      have c6 : W1.cell? ⟨B + 3, 0, none⟩ = some (.func (.func 70) #[] #[.pointer (some ⟨B + 1, 0, none⟩), .pointer (some ⟨B + 2, 0, none⟩), .pointer (some ⟨B, 0, none⟩), .pointer (some ⟨B + 3, 0, none⟩)]) := c6
      have HS1 : Hid (Sch B n g cap ls v (xs ++ hit ls s) W1) := Lib.hid ⟨c2, c3, c5, f5, c6, row, cel, gl, sz⟩
      have HCel := Lib.hid cel
      clear row cel
      go_wp2_with fail
      refine (maxI_any ls g cap _ HCel.out hl1 hl2).mono ?_
      rintro e w4 ⟨rfl, rfl⟩
      rw [hm.out]
      go_wp2_with fail
      refine bodyPost_ret (results_none rfl _ _ _) rfl ?_
      exact ⟨rfl, ⟨_, HS1.out⟩, hB1⟩
    · have hhit : Hid (hit ls s = [s]) := Lib.hid (by unfold hit; rw [hh, hp]; rfl)
      go_enter Try.func70, Try.ntmps70
      go_wp2_with fail
      refine (containsI_any ls g cap (s.size : Int) _ HCl.out hl1 hl2).mono ?_
      rintro e w1 ⟨rfl, rfl⟩
      rw [hh]
      go_wp2_with fail
      refine (isPrime_any s _ hs1 (by omega)).mono ?_
      rintro e w2 ⟨rfl, hb2⟩
      rw [hp]
      clear hp hh
      have hS2 := HS.out.keep hb2
      obtain ⟨d2, d3, d5, g5, d6, row2, cel2, gl2, sz2⟩ := hS2
      have HS2 : Hid (Sch B n g cap ls v xs w2) := Lib.hid ⟨d2, d3, d5, g5, d6, row2, cel2, gl2, sz2⟩
      have hB2 : Below B W w2 := below_up hb2 (by omega)
      have hxl : xs.length + 1 ≤ 1000000 := by
        have := HL.out
        rw [show dfs n ls 0 s = hit ls s from rfl] at this
        rw [hhit.out] at this
        simp at this
        omega
      go_wp2_with (at_builtin; refine wpList_pushS1 s rfl (.tmp 15) (.tmp 17) rfl _ _ _ row2 hxl sz2 rfl rfl ?_)
      intro v' w3 hr3 hb3
      rcases hr3.form with ⟨hx, _⟩ | ⟨hx, ga, ca, rfl, _, _, _, hca⟩
      · simp at hx
      · have hS3 := HS2.out.more hb3 hr3
        have hB3 : Below B W (w3.setCell ⟨B + 2, 0, none⟩ (.slice (some ⟨ga, 0, none⟩) (xs ++ [s]).length ca)) := Below.setCell (hB2.trans (below_le hb3 (by omega))) (by show B ≤ B + 2; omega) _
        have k5 : w3.cell? ⟨B + 2, 0, none⟩ = some v := (hb3.cell (p := ⟨B + 2, 0, none⟩) (by simp)).trans d5
        have k5f : w3.frozen? ⟨B + 2, 0, none⟩ = false := (hb3.frozen (p := ⟨B + 2, 0, none⟩) (by simp)).trans g5
        rw [← hhit.out] at hS3 hB3
        have HS3 := Lib.hid hS3
        have HB3 := Lib.hid hB3
        clear hS3 hB3 row2 cel2
        have k2 : w3.cell? ⟨B, 0, none⟩ = some (.int .i64 n) := (hb3.cell (p := ⟨B, 0, none⟩) (by simp)).trans d2
        have k3 : w3.cell? ⟨B + 1, 0, none⟩ = some (.slice (some ⟨g, 0, none⟩) ls.length cap) := (hb3.cell (p := ⟨B + 1, 0, none⟩) (by simp)).trans d3
        have HCel := Lib.hid HS3.out.cel
        generalize hln : (xs ++ [s]).length = ln at *
        have hln2 : (xs ++ hit ls s).length = ln := by rw [hhit.out]; exact hln
        rw [hln2] at HS3 HB3 HCel
        have HS1 := HS3
        have hB1 := HB3.out
        clear HS HS2 HCl c2 c3 c5 f5 c6 gl sz d2 d3 d5 g5 d6 gl2 sz2 HS3 HB3 hln hln2
        go_wp2_with fail
        refine (maxI_any ls g cap _ HCel.out hl1 hl2).mono ?_
        rintro e w4 ⟨rfl, rfl⟩
        rw [hm.out]
        go_wp2_with fail
        refine bodyPost_ret (results_none rfl _ _ _) rfl ?_
        exact ⟨rfl, ⟨_, HS1.out⟩, hB1⟩
set_option maxRecDepth 100000 in
set_option maxHeartbeats 3200000 in
theorem searchS_any (B n g cap : Nat) (ls : List Int) (mx : Nat) (n1 : 1 ≤ n) (n2 : n ≤ 26) (hm : Hid (mxI ls (ls.length - 1) = (mx : Int))) (h0 : Hid (hasI ls 0 = false)) (hl1 : 1 ≤ ls.length) (hl2 : ls.length ≤ 1000) (hmx : mx ≤ 8) (d : Nat)
    (ih : Hid (∀ s : ByteArray, s.size + d = mx → ∀ (W : World) (v : Value) (xs : List ByteArray), Sch B n g cap ls v xs W → xs.length + (dfs n ls d s).length ≤ 1000000 → Calls Try.prog 70 #[.string s, .pointer (some ⟨B + 1, 0, none⟩), .pointer (some ⟨B + 2, 0, none⟩), .pointer (some ⟨B, 0, none⟩), .pointer (some ⟨B + 3, 0, none⟩)] W fun e W' => e = .returned (.tuple #[]) ∧ (∃ v', Sch B n g cap ls v' (xs ++ dfs n ls d s) W') ∧ Below B W W'))
    (s : ByteArray) (hs : s.size + (d + 1) = mx) (W : World) (v : Value) (xs : List ByteArray) (hS : Sch B n g cap ls v xs W) (hL : xs.length + (dfs n ls (d + 1) s).length ≤ 1000000) :
    Calls Try.prog 70 #[.string s, .pointer (some ⟨B + 1, 0, none⟩), .pointer (some ⟨B + 2, 0, none⟩), .pointer (some ⟨B, 0, none⟩), .pointer (some ⟨B + 3, 0, none⟩)] W fun e W' => e = .returned (.tuple #[]) ∧ (∃ v', Sch B n g cap ls v' (xs ++ dfs n ls (d + 1) s) W') ∧ Below B W W' := by
  have eg : ∀ args w, (callFunc 70 args).run Try.prog w = .ok (.enter 70 args) w := Go.Proofs.enters_of Try.func70 (by kernel_rfl) rfl
  obtain ⟨c2, c3, c5, f5, c6, row, cel, gl, sz⟩ := hS
  have HS : Hid (Sch B n g cap ls v xs W) := Lib.hid ⟨c2, c3, c5, f5, c6, row, cel, gl, sz⟩
  have HCl := Lib.hid cel
  have HL := Lib.hid hL
  clear row cel hL
  have hq1 : ((s.size : Int) == (mx : Int)) = false := by simp; omega
  have hq2 : ¬ (s.size : Int) = (mx : Int) := by omega
  cases hh : hasI ls (s.size : Int)
  · have hhit : hit ls s = [] := by unfold hit; rw [hh]; rfl
    have hS1 : Sch B n g cap ls v (xs ++ hit ls s) W := by rw [hhit, List.append_nil]; exact HS.out
    have hB1 : Below B W W := Below.refl _ _
    have HS1 := Lib.hid hS1
    have HB1 := Lib.hid hB1
    clear hS1 hB1
    go_enter Try.func70, Try.ntmps70
    go_wp2_with fail
    refine (containsI_any ls g cap (s.size : Int) _ HCl.out hl1 hl2).mono ?_
    rintro e w1 ⟨rfl, rfl⟩
    rw [hh]
    have hS1 := HS1.out
    have hB1 := HB1.out
    clear HS HCl c2 c3 c5 f5 c6 gl sz HS1 HB1 hh
    obtain ⟨c2, c3, c5, f5, c6, row, cel, gl, sz⟩ := hS1
    have c6 : W.cell? ⟨B + 3, 0, none⟩ = some (.func (.func 70) #[] #[.pointer (some ⟨B + 1, 0, none⟩), .pointer (some ⟨B + 2, 0, none⟩), .pointer (some ⟨B, 0, none⟩), .pointer (some ⟨B + 3, 0, none⟩)]) := c6
    have HS1 : Hid (Sch B n g cap ls v (xs ++ hit ls s) W) := Lib.hid ⟨c2, c3, c5, f5, c6, row, cel, gl, sz⟩
    have HCel := Lib.hid cel
    clear row cel
    go_wp2_with fail
    refine (maxI_any ls g cap _ HCel.out hl1 hl2).mono ?_
    rintro e w4 ⟨rfl, rfl⟩
    rw [hm.out]
    go_wp2_with fail
    go_loopw [25] (fun x wr => ∃ (k : Nat) (vk : Value), k ≤ n ∧ x = .int .i64 k ∧ Hid (Sch B n g cap ls vk (xs ++ hit ls s ++ kids n ls d s k) wr) ∧ Below B W wr) (fun x _ => n - (intOf x).toNat)
    case atStart => exact ⟨0, _, by omega, rfl, Lib.hid (by rw [show kids n ls d s 0 = [] from rfl, List.append_nil]; exact HS1.out), hB1⟩
    case round =>
      obtain ⟨k, vk, hk, rfl, hSk, hBk⟩ := hrel
      obtain ⟨wa, rfl⟩ : ∃ wa : World, wa = wr := ⟨_, rfl⟩
      clear HS1 HCel hB1
      by_cases hlt : k < n
      · have c6k : wa.cell? ⟨B + 3, 0, none⟩ = some (.func (.func 70) #[] #[.pointer (some ⟨B + 1, 0, none⟩), .pointer (some ⟨B + 2, 0, none⟩), .pointer (some ⟨B, 0, none⟩), .pointer (some ⟨B + 3, 0, none⟩)]) := hSk.out.c6
        have hk26 : k < 26 := by omega
        have hk27 : k + 1 ≤ 26 := by omega
        have hk28 : (k : Int) + 1 ≤ 26 := by omega
        have hk29 : (0 : Int) ≤ (k : Int) + 1 := by omega
        have hk30 : (k : Int) ≤ (k : Int) + 1 := by omega
        have hk31 : IntKind.i64.wrap ((k : Int) + 1) = (k : Int) + 1 := IntWalk.i64_in _ (by omega)
        have h1s := one_size k hk26
        have hcall : ∀ W2 : World, Sch B n g cap ls vk (xs ++ hit ls s ++ kids n ls d s k) W2 → Calls Try.prog 70 #[.string (s ++ one k), .pointer (some ⟨B + 1, 0, none⟩), .pointer (some ⟨B + 2, 0, none⟩), .pointer (some ⟨B, 0, none⟩), .pointer (some ⟨B + 3, 0, none⟩)] W2 fun e W' => e = .returned (.tuple #[]) ∧ (∃ v', Sch B n g cap ls v' (xs ++ hit ls s ++ kids n ls d s (k + 1)) W') ∧ Below B W2 W' := fun W2 h2 => by
          have hz : (s ++ one k).size + d = mx := by rw [ByteArray.size_append, h1s]; omega
          have hle : (xs ++ hit ls s ++ kids n ls d s k).length + (dfs n ls d (s ++ one k)).length ≤ 1000000 := by
            have e1 := kids_succ n ls d s k
            have e2 := kids_le n ls d s (k + 1) hlt
            rw [e1, List.length_append] at e2
            have e3 := HL.out
            rw [dfs_succ, List.length_append] at e3
            simp only [List.length_append]
            omega
          have := ih.out (s ++ one k) hz W2 vk _ h2 hle
          rw [kids_succ, ← List.append_assoc]
          exact this
        have HC := Lib.hid hcall
        have hal : one k = (⟨#[97, 98, 99, 100, 101, 102, 103, 104, 105, 106, 107, 108, 109, 110, 111, 112, 113, 114, 115, 116, 117, 118, 119, 120, 121, 122]⟩ : ByteArray).extract k (k + 1) := rfl
        rw [hal] at h1s HC
        have t1 : ¬ 9223372036854775807 < s.size + (ByteArray.extract (⟨#[97, 98, 99, 100, 101, 102, 103, 104, 105, 106, 107, 108, 109, 110, 111, 112, 113, 114, 115, 116, 117, 118, 119, 120, 121, 122]⟩ : ByteArray) k (k + 1)).size := by omega
        have t2 : ¬ 9223372036854775807 < s.size + 1 := by omega
        clear hcall h1s hal
        go_wp2_with fail
        go_region_with (go_at_call 70; refine (HC.out _ (by first | exact hSk.out | exact hSk.out.keep (by repeat (first | assumption | with_reducible exact Below.refl _ _ | refine bel_alloc ?_ _ | refine bel_drewN ?_ _ | refine Below.drew ?_ | (refine Below.setCell ?_ (by simp) _) | (refine bel_trans ?_ (by assumption)))))).mono ?_; rintro e w6 ⟨rfl, ⟨v6, hS6⟩, hB6⟩; have HS6 := Lib.hid hS6; clear hS6)
        all_goals
          go_wp2_with fail
          exact ⟨⟨k + 1, v6, by omega, by go_num, HS6, by first | exact hBk.drew.trans hB6 | exact hBk.trans hB6⟩, by simp [intOf]; omega⟩
      · obtain rfl : k = n := by omega
        have hfin : Hid (∃ v', Sch B k g cap ls v' (xs ++ dfs k ls (d + 1) s) wa) := Lib.hid ⟨vk, by rw [dfs_succ, ← List.append_assoc]; exact hSk.out⟩
        go_wp2_with fail
        go_end0
        exact ⟨rfl, hfin.out, hBk⟩
  · have hs1 : 1 ≤ s.size := by
      rcases Nat.eq_zero_or_pos s.size with e | e
      · have := h0.out
        rw [e] at hh
        rw [show hasI ls ((0 : Nat) : Int) = hasI ls 0 from rfl, this] at hh
        cases hh
      · exact e
    cases hp : isPr s
    · have hhit : Hid (hit ls s = []) := Lib.hid (by unfold hit; rw [hh, hp]; rfl)
      go_enter Try.func70, Try.ntmps70
      go_wp2_with fail
      refine (containsI_any ls g cap (s.size : Int) _ HCl.out hl1 hl2).mono ?_
      rintro e w1 ⟨rfl, rfl⟩
      rw [hh]
      go_wp2_with fail
      refine (isPrime_any s _ hs1 (by omega)).mono ?_
      rintro e W1 ⟨rfl, hb1⟩
      rw [hp]
      have hS1 : Sch B n g cap ls v (xs ++ hit ls s) W1 := by rw [hhit.out, List.append_nil]; exact HS.out.keep hb1
      have hB1 : Below B W W1 := below_up hb1 (by omega)
      clear hp hh
      clear HS HCl c2 c3 c5 f5 c6 gl sz
      obtain ⟨c2, c3, c5, f5, c6, row, cel, gl, sz⟩ := hS1
      have c6 : W1.cell? ⟨B + 3, 0, none⟩ = some (.func (.func 70) #[] #[.pointer (some ⟨B + 1, 0, none⟩), .pointer (some ⟨B + 2, 0, none⟩), .pointer (some ⟨B, 0, none⟩), .pointer (some ⟨B + 3, 0, none⟩)]) := c6
      have HS1 : Hid (Sch B n g cap ls v (xs ++ hit ls s) W1) := Lib.hid ⟨c2, c3, c5, f5, c6, row, cel, gl, sz⟩
      have HCel := Lib.hid cel
      clear row cel
      go_wp2_with fail
      refine (maxI_any ls g cap _ HCel.out hl1 hl2).mono ?_
      rintro e w4 ⟨rfl, rfl⟩
      rw [hm.out]
      go_wp2_with fail
      go_loopw [25] (fun x wr => ∃ (k : Nat) (vk : Value), k ≤ n ∧ x = .int .i64 k ∧ Hid (Sch B n g cap ls vk (xs ++ hit ls s ++ kids n ls d s k) wr) ∧ Below B W wr) (fun x _ => n - (intOf x).toNat)
      case atStart => exact ⟨0, _, by omega, rfl, Lib.hid (by rw [show kids n ls d s 0 = [] from rfl, List.append_nil]; exact HS1.out), hB1⟩
      case round =>
        obtain ⟨k, vk, hk, rfl, hSk, hBk⟩ := hrel
        obtain ⟨wa, rfl⟩ : ∃ wa : World, wa = wr := ⟨_, rfl⟩
        clear HS1 HCel hB1
        by_cases hlt : k < n
        · have c6k : wa.cell? ⟨B + 3, 0, none⟩ = some (.func (.func 70) #[] #[.pointer (some ⟨B + 1, 0, none⟩), .pointer (some ⟨B + 2, 0, none⟩), .pointer (some ⟨B, 0, none⟩), .pointer (some ⟨B + 3, 0, none⟩)]) := hSk.out.c6
          have hk26 : k < 26 := by omega
          have hk27 : k + 1 ≤ 26 := by omega
          have hk28 : (k : Int) + 1 ≤ 26 := by omega
          have hk29 : (0 : Int) ≤ (k : Int) + 1 := by omega
          have hk30 : (k : Int) ≤ (k : Int) + 1 := by omega
          have hk31 : IntKind.i64.wrap ((k : Int) + 1) = (k : Int) + 1 := IntWalk.i64_in _ (by omega)
          have h1s := one_size k hk26
          have hcall : ∀ W2 : World, Sch B n g cap ls vk (xs ++ hit ls s ++ kids n ls d s k) W2 → Calls Try.prog 70 #[.string (s ++ one k), .pointer (some ⟨B + 1, 0, none⟩), .pointer (some ⟨B + 2, 0, none⟩), .pointer (some ⟨B, 0, none⟩), .pointer (some ⟨B + 3, 0, none⟩)] W2 fun e W' => e = .returned (.tuple #[]) ∧ (∃ v', Sch B n g cap ls v' (xs ++ hit ls s ++ kids n ls d s (k + 1)) W') ∧ Below B W2 W' := fun W2 h2 => by
            have hz : (s ++ one k).size + d = mx := by rw [ByteArray.size_append, h1s]; omega
            have hle : (xs ++ hit ls s ++ kids n ls d s k).length + (dfs n ls d (s ++ one k)).length ≤ 1000000 := by
              have e1 := kids_succ n ls d s k
              have e2 := kids_le n ls d s (k + 1) hlt
              rw [e1, List.length_append] at e2
              have e3 := HL.out
              rw [dfs_succ, List.length_append] at e3
              simp only [List.length_append]
              omega
            have := ih.out (s ++ one k) hz W2 vk _ h2 hle
            rw [kids_succ, ← List.append_assoc]
            exact this
          have HC := Lib.hid hcall
          have hal : one k = (⟨#[97, 98, 99, 100, 101, 102, 103, 104, 105, 106, 107, 108, 109, 110, 111, 112, 113, 114, 115, 116, 117, 118, 119, 120, 121, 122]⟩ : ByteArray).extract k (k + 1) := rfl
          rw [hal] at h1s HC
          have t1 : ¬ 9223372036854775807 < s.size + (ByteArray.extract (⟨#[97, 98, 99, 100, 101, 102, 103, 104, 105, 106, 107, 108, 109, 110, 111, 112, 113, 114, 115, 116, 117, 118, 119, 120, 121, 122]⟩ : ByteArray) k (k + 1)).size := by omega
          have t2 : ¬ 9223372036854775807 < s.size + 1 := by omega
          clear hcall h1s hal
          go_wp2_with fail
          go_region_with (go_at_call 70; refine (HC.out _ (by first | exact hSk.out | exact hSk.out.keep (by repeat (first | assumption | with_reducible exact Below.refl _ _ | refine bel_alloc ?_ _ | refine bel_drewN ?_ _ | refine Below.drew ?_ | (refine Below.setCell ?_ (by simp) _) | (refine bel_trans ?_ (by assumption)))))).mono ?_; rintro e w6 ⟨rfl, ⟨v6, hS6⟩, hB6⟩; have HS6 := Lib.hid hS6; clear hS6)
          all_goals
            go_wp2_with fail
            exact ⟨⟨k + 1, v6, by omega, by go_num, HS6, by first | exact hBk.drew.trans hB6 | exact hBk.trans hB6⟩, by simp [intOf]; omega⟩
        · obtain rfl : k = n := by omega
          have hfin : Hid (∃ v', Sch B k g cap ls v' (xs ++ dfs k ls (d + 1) s) wa) := Lib.hid ⟨vk, by rw [dfs_succ, ← List.append_assoc]; exact hSk.out⟩
          go_wp2_with fail
          go_end0
          exact ⟨rfl, hfin.out, hBk⟩
    · have hhit : Hid (hit ls s = [s]) := Lib.hid (by unfold hit; rw [hh, hp]; rfl)
      go_enter Try.func70, Try.ntmps70
      go_wp2_with fail
      refine (containsI_any ls g cap (s.size : Int) _ HCl.out hl1 hl2).mono ?_
      rintro e w1 ⟨rfl, rfl⟩
      rw [hh]
      go_wp2_with fail
      refine (isPrime_any s _ hs1 (by omega)).mono ?_
      rintro e w2 ⟨rfl, hb2⟩
      rw [hp]
      clear hp hh
      have hS2 := HS.out.keep hb2
      obtain ⟨d2, d3, d5, g5, d6, row2, cel2, gl2, sz2⟩ := hS2
      have HS2 : Hid (Sch B n g cap ls v xs w2) := Lib.hid ⟨d2, d3, d5, g5, d6, row2, cel2, gl2, sz2⟩
      have hB2 : Below B W w2 := below_up hb2 (by omega)
      have hxl : xs.length + 1 ≤ 1000000 := by
        have := HL.out
        rw [dfs_succ, List.length_append] at this
        rw [hhit.out] at this
        simp at this
        omega
      go_wp2_with (at_builtin; refine wpList_pushS1 s rfl (.tmp 15) (.tmp 17) rfl _ _ _ row2 hxl sz2 rfl rfl ?_)
      intro v' w3 hr3 hb3
      rcases hr3.form with ⟨hx, _⟩ | ⟨hx, ga, ca, rfl, _, _, _, hca⟩
      · simp at hx
      · have hS3 := HS2.out.more hb3 hr3
        have hB3 : Below B W (w3.setCell ⟨B + 2, 0, none⟩ (.slice (some ⟨ga, 0, none⟩) (xs ++ [s]).length ca)) := Below.setCell (hB2.trans (below_le hb3 (by omega))) (by show B ≤ B + 2; omega) _
        have k5 : w3.cell? ⟨B + 2, 0, none⟩ = some v := (hb3.cell (p := ⟨B + 2, 0, none⟩) (by simp)).trans d5
        have k5f : w3.frozen? ⟨B + 2, 0, none⟩ = false := (hb3.frozen (p := ⟨B + 2, 0, none⟩) (by simp)).trans g5
        rw [← hhit.out] at hS3 hB3
        have HS3 := Lib.hid hS3
        have HB3 := Lib.hid hB3
        clear hS3 hB3 row2 cel2
        have k2 : w3.cell? ⟨B, 0, none⟩ = some (.int .i64 n) := (hb3.cell (p := ⟨B, 0, none⟩) (by simp)).trans d2
        have k3 : w3.cell? ⟨B + 1, 0, none⟩ = some (.slice (some ⟨g, 0, none⟩) ls.length cap) := (hb3.cell (p := ⟨B + 1, 0, none⟩) (by simp)).trans d3
        have HCel := Lib.hid HS3.out.cel
        generalize hln : (xs ++ [s]).length = ln at *
        have hln2 : (xs ++ hit ls s).length = ln := by rw [hhit.out]; exact hln
        rw [hln2] at HS3 HB3 HCel
        have HS1 := HS3
        have hB1 := HB3.out
        clear HS HS2 HCl c2 c3 c5 f5 c6 gl sz d2 d3 d5 g5 d6 gl2 sz2 HS3 HB3 hln hln2
        go_wp2_with fail
        refine (maxI_any ls g cap _ HCel.out hl1 hl2).mono ?_
        rintro e w4 ⟨rfl, rfl⟩
        rw [hm.out]
        go_wp2_with fail
        go_loopw [25] (fun x wr => ∃ (k : Nat) (vk : Value), k ≤ n ∧ x = .int .i64 k ∧ Hid (Sch B n g cap ls vk (xs ++ hit ls s ++ kids n ls d s k) wr) ∧ Below B W wr) (fun x _ => n - (intOf x).toNat)
        case atStart => exact ⟨0, _, by omega, rfl, Lib.hid (by rw [show kids n ls d s 0 = [] from rfl, List.append_nil]; exact HS1.out), hB1⟩
        case round =>
          obtain ⟨k, vk, hk, rfl, hSk, hBk⟩ := hrel
          obtain ⟨wa, rfl⟩ : ∃ wa : World, wa = wr := ⟨_, rfl⟩
          clear HS1 HCel hB1
          by_cases hlt : k < n
          · have c6k : wa.cell? ⟨B + 3, 0, none⟩ = some (.func (.func 70) #[] #[.pointer (some ⟨B + 1, 0, none⟩), .pointer (some ⟨B + 2, 0, none⟩), .pointer (some ⟨B, 0, none⟩), .pointer (some ⟨B + 3, 0, none⟩)]) := hSk.out.c6
            have hk26 : k < 26 := by omega
            have hk27 : k + 1 ≤ 26 := by omega
            have hk28 : (k : Int) + 1 ≤ 26 := by omega
            have hk29 : (0 : Int) ≤ (k : Int) + 1 := by omega
            have hk30 : (k : Int) ≤ (k : Int) + 1 := by omega
            have hk31 : IntKind.i64.wrap ((k : Int) + 1) = (k : Int) + 1 := IntWalk.i64_in _ (by omega)
            have h1s := one_size k hk26
            have hcall : ∀ W2 : World, Sch B n g cap ls vk (xs ++ hit ls s ++ kids n ls d s k) W2 → Calls Try.prog 70 #[.string (s ++ one k), .pointer (some ⟨B + 1, 0, none⟩), .pointer (some ⟨B + 2, 0, none⟩), .pointer (some ⟨B, 0, none⟩), .pointer (some ⟨B + 3, 0, none⟩)] W2 fun e W' => e = .returned (.tuple #[]) ∧ (∃ v', Sch B n g cap ls v' (xs ++ hit ls s ++ kids n ls d s (k + 1)) W') ∧ Below B W2 W' := fun W2 h2 => by
              have hz : (s ++ one k).size + d = mx := by rw [ByteArray.size_append, h1s]; omega
              have hle : (xs ++ hit ls s ++ kids n ls d s k).length + (dfs n ls d (s ++ one k)).length ≤ 1000000 := by
                have e1 := kids_succ n ls d s k
                have e2 := kids_le n ls d s (k + 1) hlt
                rw [e1, List.length_append] at e2
                have e3 := HL.out
                rw [dfs_succ, List.length_append] at e3
                simp only [List.length_append]
                omega
              have := ih.out (s ++ one k) hz W2 vk _ h2 hle
              rw [kids_succ, ← List.append_assoc]
              exact this
            have HC := Lib.hid hcall
            have hal : one k = (⟨#[97, 98, 99, 100, 101, 102, 103, 104, 105, 106, 107, 108, 109, 110, 111, 112, 113, 114, 115, 116, 117, 118, 119, 120, 121, 122]⟩ : ByteArray).extract k (k + 1) := rfl
            rw [hal] at h1s HC
            have t1 : ¬ 9223372036854775807 < s.size + (ByteArray.extract (⟨#[97, 98, 99, 100, 101, 102, 103, 104, 105, 106, 107, 108, 109, 110, 111, 112, 113, 114, 115, 116, 117, 118, 119, 120, 121, 122]⟩ : ByteArray) k (k + 1)).size := by omega
            have t2 : ¬ 9223372036854775807 < s.size + 1 := by omega
            clear hcall h1s hal
            go_wp2_with fail
            go_region_with (go_at_call 70; refine (HC.out _ (by first | exact hSk.out | exact hSk.out.keep (by repeat (first | assumption | with_reducible exact Below.refl _ _ | refine bel_alloc ?_ _ | refine bel_drewN ?_ _ | refine Below.drew ?_ | (refine Below.setCell ?_ (by simp) _) | (refine bel_trans ?_ (by assumption)))))).mono ?_; rintro e w6 ⟨rfl, ⟨v6, hS6⟩, hB6⟩; have HS6 := Lib.hid hS6; clear hS6)
            all_goals
              go_wp2_with fail
              exact ⟨⟨k + 1, v6, by omega, by go_num, HS6, by first | exact hBk.drew.trans hB6 | exact hBk.trans hB6⟩, by simp [intOf]; omega⟩
          · obtain rfl : k = n := by omega
            have hfin : Hid (∃ v', Sch B k g cap ls v' (xs ++ dfs k ls (d + 1) s) wa) := Lib.hid ⟨vk, by rw [dfs_succ, ← List.append_assoc]; exact hSk.out⟩
            go_wp2_with fail
            go_end0
            exact ⟨rfl, hfin.out, hBk⟩
end Go.Proofs.Ytiblggfihpobkab
