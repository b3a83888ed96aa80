/- PrimeWords: contracts and the walk. -/
import Derived.Test.YtiblggfihpobkabPwS
import Derived.Laws.EntriesVeiled
import Derived.Test.YtiblggfihpobkabPwQ
import Derived.Test.YtiblggfihpobkabFew
namespace Go.Proofs.Ytiblggfihpobkab
set_option linter.unusedSimpArgs false
open Go.ChangeShapes Go.WideShapes Go.ChangeAt Go.RowKit
set_option linter.unusedVariables false

set_option maxRecDepth 100000 in
set_option maxHeartbeats 1600000 in
theorem woPrimes_any (n L : Nat) (w : World) (n1 : 1 ≤ n) (n2 : n ≤ 26) (l1 : 1 ≤ L) (l2 : L ≤ 8) (hq : n ^ L ≤ 300) :
    Calls Try.prog 37 #[.int .i64 n, .int .i64 L] w (RowS (pwL n L (n ^ L)) w) := by
  obtain ⟨q, hqq⟩ : ∃ q, q = n ^ L := ⟨_, rfl⟩
  have hpw := pow_cast n L
  rw [← hqq] at hq hpw
  rw [← hqq]
  have Hpw := Lib.hid hpw
  clear hpw hqq
  go_enter Try.func37, Try.ntmps37
  go_wp2_with fail
  go_loopw [5, 6] (fun v x wr => ∃ k : Nat, k ≤ q ∧ x = .int .i64 k ∧ Hid (SRow wr w.heap.size v (pwL n L k)) ∧ Below w.heap.size w wr) (fun _ x _ => q - (intOf x).toNat)
  case atStart => exact ⟨0, by omega, rfl, SRow.nil _ _, Below.refl _ _⟩
  case round =>
    obtain ⟨k, hk, rfl, hI, hb⟩ := hrel
    obtain ⟨wa, rfl⟩ : ∃ wa : World, wa = wr := ⟨_, rfl⟩
    have hsa := hb.size
    have hl := pwL_len n L k
    by_cases hlt : k < q
    · have hz : (k : Int) < (q : Int) := by omega
      have hS := pwL_succ n L k
      have hsz := wdB_size n L k
      generalize hwd : wdB n L k = t at *
      have Hwd := Lib.hid hwd
      clear hwd
      cases hp : isPr t with
      | true =>
        have hS2 : Hid (pwL n L (k + 1) = pwL n L k ++ [t]) := Lib.hid (by rw [hS]; unfold hit1; rw [hp]; rfl)
        have Hp := Lib.hid hp
        clear hS hp
        go_wp2_with fail
        refine (woPower_any n L _ n1 n2 (by omega)).mono ?_
        rintro e w2 ⟨rfl, rfl⟩
        rw [Hpw.out]
        go_wp2_with fail
        refine (woOf_any n L k _ n1 n2 l2 (by omega)).mono ?_
        rintro e w3 ⟨rfl, rfl⟩
        rw [Hwd.out]
        go_wp2_with fail
        refine (woPrime_any t _ (by omega) (by omega)).mono ?_
        rintro e w4 ⟨rfl, b4⟩
        rw [Hp.out]
        have hb4 := bel_trans hb b4
        have hs4 := hb4.size
        go_wp2_with (at_builtin; refine wpList_pushS1 t rfl (.tmp 21) (.tmp 23) rfl _ _ _ (hI.out.below b4) (by omega) hs4 rfl rfl ?_)
        intro v' w5 hI5 hb5
        go_wp2_with fail
        exact ⟨⟨k + 1, by omega, by go_num, by rw [hS2.out]; exact hI5, hb4.trans hb5⟩, by simp [intOf]; omega⟩
      | false =>
        have hS2 : Hid (pwL n L (k + 1) = pwL n L k) := Lib.hid (by rw [hS]; unfold hit1; rw [hp]; exact List.append_nil _)
        have Hp := Lib.hid hp
        clear hS hp
        go_wp2_with fail
        refine (woPower_any n L _ n1 n2 (by omega)).mono ?_
        rintro e w2 ⟨rfl, rfl⟩
        rw [Hpw.out]
        go_wp2_with fail
        refine (woOf_any n L k _ n1 n2 l2 (by omega)).mono ?_
        rintro e w3 ⟨rfl, rfl⟩
        rw [Hwd.out]
        go_wp2_with fail
        refine (woPrime_any t _ (by omega) (by omega)).mono ?_
        rintro e w4 ⟨rfl, b4⟩
        rw [Hp.out]
        go_wp2_with fail
        exact ⟨⟨k + 1, by omega, by go_num, by rw [hS2.out]; exact hI.out.below b4, bel_trans hb b4⟩, by simp [intOf]; omega⟩
    · obtain rfl : k = q := by omega
      go_wp2_with fail
      refine (woPower_any n L _ n1 n2 (by omega)).mono ?_
      rintro e w2 ⟨rfl, rfl⟩
      rw [Hpw.out]
      go_wp2_with fail
      go_ret
      exact ⟨_, rfl, hI.out, hb⟩
theorem search_any (B n g cap : Nat) (ls : List Int) (mx : Nat) (n1 : 1 ≤ n) (n2 : n ≤ 26) (hm : Hid (mxI ls (ls.length - 1) = (mx : Int))) (h0 : Hid (hasI ls 0 = false)) (hl1 : 1 ≤ ls.length) (hl2 : ls.length ≤ 1000) (hmx : mx ≤ 8) :
    ∀ d : Nat, ∀ s : ByteArray, s.size + d = mx → ∀ (W : World) (v : Value) (xs : List ByteArray), Sch B n g cap ls v xs W → xs.length + (dfs n ls d s).length ≤ 1000000 →
      Calls Try.prog 70 #[.string s, .pointer (some ⟨B + 1, 0, none⟩), .pointer (some ⟨B + 2, 0, none⟩), .pointer (some ⟨B, 0, none⟩), .pointer (some ⟨B + 3, 0, none⟩)] W fun e W' => e = .returned (.tuple #[]) ∧ (∃ v', Sch B n g cap ls v' (xs ++ dfs n ls d s) W') ∧ Below B W W' := by
  intro d
  induction d with
  | zero => intro s hs W v xs hS hL; exact searchZ_any B n g cap ls mx n1 n2 hm h0 hl1 hl2 hmx s hs W v xs hS hL
  | succ d ih => intro s hs W v xs hS hL; exact searchS_any B n g cap ls mx n1 n2 hm h0 hl1 hl2 hmx d (Lib.hid ih) s hs W v xs hS hL
/-- Four boxes are laid, the search in the last. -/
def box4 (w : World) (n g cap : Nat) (ls : List Int) : World :=
  (((w.alloc (.cells #[.int .i64 n] 3)).alloc (.cells #[.slice (some ⟨g, 0, none⟩) ls.length cap] 37)).alloc (.cells #[.slice none 0 0] 25)).alloc (.cells #[fvS w.heap.size] 94)
theorem box4_sch (w : World) (n g cap : Nat) (ls : List Int) (hC : Cel w g ls) (hg : g < w.heap.size) : Sch w.heap.size n g cap ls (.slice none 0 0) [] (box4 w n g cap ls) ∧ Below w.heap.size w (box4 w n g cap ls) := by
  have hb : Below w.heap.size w (box4 w n g cap ls) := by
    unfold box4
    exact bel_alloc (bel_alloc (bel_alloc (bel_alloc (Below.refl _ _) _) _) _) _
  refine ⟨⟨?_, ?_, ?_, ?_, ?_, SRow.nil _ _, hC.keep hb hg, hg, ?_⟩, hb⟩
  · unfold box4; simp [go_sem]
  · unfold box4; simp [go_sem]
  · unfold box4; simp [go_sem]
  · unfold box4; simp [go_sem]
  · unfold box4; simp [go_sem]
  · unfold box4; simp
set_option maxRecDepth 100000 in
set_option maxHeartbeats 1600000 in
/-- All prime words with these numbers of letters, mx at most. -/
theorem primesOf_any (n g cap mx : Nat) (ls : List Int) (w : World) (n1 : 1 ≤ n) (n2 : n ≤ 26) (hC : Cel w g ls) (hg : g < w.heap.size) (hm : mxI ls (ls.length - 1) = (mx : Int)) (h0 : hasI ls 0 = false) (hl1 : 1 ≤ ls.length) (hl2 : ls.length ≤ 1000) (hmx : mx ≤ 8) (hL : (dfs n ls mx ByteArray.empty).length ≤ 1000000) :
    Calls Try.prog 41 #[.int .i64 n, .slice (some ⟨g, 0, none⟩) ls.length cap] w (RowS (dfs n ls mx ByteArray.empty) w) := by
  have eg : ∀ args w, (callFunc 70 args).run Try.prog w = .ok (.enter 70 args) w := Go.Proofs.enters_of Try.func70 (by kernel_rfl) rfl
  have HC := Lib.hid hC
  have Hm := Lib.hid hm
  have H0 := Lib.hid h0
  have HL := Lib.hid hL
  clear hC hm h0 hL
  have hb4 := box4_sch w n g cap ls HC.out hg
  have Hb4 := Lib.hid hb4
  clear hg hb4
  go_enter Try.func41, Try.ntmps41
  go_wp2_with fail
  refine (search_any w.heap.size n g cap ls mx n1 n2 Hm H0 hl1 hl2 hmx mx ByteArray.empty (by show 0 + mx = mx; omega) (box4 w n g cap ls) (.slice none 0 0) [] Hb4.out.1 (by simpa using HL.out)).mono ?_
  rintro e w' ⟨rfl, ⟨v', hS⟩, hb⟩
  have c5 : w'.cell? ⟨w.heap.size + 1 + 1, 0, none⟩ = some v' := hS.c5
  rw [List.nil_append] at hS
  have HS := Lib.hid hS
  clear hS
  go_wp2_with fail
  go_ret
  exact ⟨v', rfl, HS.out.row.mono (by omega), Hb4.out.2.trans hb⟩
/-- What a call answers that makes a slice of texts: the slice holds xs, in memory made since the call began. -/
def RowT (xs : List ByteArray) (ok : Bool) (w : World) (e : Ending) (w' : World) : Prop :=
  ∃ v, e = .returned (.tuple #[v, .bool ok]) ∧ SRow w' w.heap.size v xs ∧ Below w.heap.size w w'
def ansPw (a b : Int) : List ByteArray := if fwG a b then pwL a.toNat b.toNat (a.toNat ^ b.toNat) else []
theorem ansPw_len (a b : Int) : (ansPw a b).length ≤ 5000 := by
  unfold ansPw
  split
  · rename_i h
    obtain ⟨n, l, rfl, rfl, _, _, _, _, hq⟩ := fw_nat h
    have := pwL_len n l (n ^ l)
    show (pwL n l (n ^ l)).length ≤ 5000
    omega
  · simp
theorem specPw_any (a b : Int) (w : World) :
    Calls Try.prog 12 #[.int .i64 a, .int .i64 b] w (RowT (ansPw a b) (fwG a b) w) := by
  cases h1 : fwG a b
  · rw [show ansPw a b = [] from by unfold ansPw; rw [h1]; rfl]
    go_enter Try.func12, Try.ntmps12
    go_wp2_with fail
    refine (woFew_any a b _).mono ?_
    rintro e w' ⟨rfl, rfl⟩
    rw [h1]
    go_wp2_with fail
    go_ret2
    exact ⟨_, rfl, SRow.nil _ _, Below.refl _ _⟩
  · obtain ⟨n, l, rfl, rfl, n1, n2, l1, l2, hq⟩ := fw_nat h1
    rw [show ansPw n l = pwL n l (n ^ l) from by unfold ansPw; rw [h1]; rfl]
    have Hq := Lib.hid hq
    clear hq
    go_enter Try.func12, Try.ntmps12
    go_wp2_with fail
    refine (woFew_any n l _).mono ?_
    rintro e w' ⟨rfl, rfl⟩
    rw [h1]
    go_wp2_with fail
    refine (woPrimes_any n l _ n1 n2 l1 l2 Hq.out).mono ?_
    rintro e w2 ⟨v, rfl, r2, b2⟩
    go_wp2_with fail
    go_ret2
    exact ⟨_, rfl, r2, b2⟩
theorem cel_lit (w : World) (x : Int) : Cel (w.alloc (.cells #[.int .i64 x] 3)) w.heap.size [x] := fun j hj => by
  obtain rfl : j = 0 := by simpa using hj
  exact new_cell _ _ _
theorem implPw_any (a b : Int) (w : World) :
    Calls Try.prog 13 #[.int .i64 a, .int .i64 b] w (RowT (ansPw a b) (fwG a b) w) := by
  cases h1 : fwG a b
  · rw [show ansPw a b = [] from by unfold ansPw; rw [h1]; rfl]
    go_enter Try.func13, Try.ntmps13
    go_wp2_with fail
    refine (areListed_any a b _).mono ?_
    rintro e w' ⟨rfl, rfl⟩
    rw [h1]
    go_wp2_with fail
    go_ret2
    exact ⟨_, rfl, SRow.nil _ _, Below.refl _ _⟩
  · obtain ⟨n, l, rfl, rfl, n1, n2, l1, l2, hq⟩ := fw_nat h1
    rw [show ansPw n l = dfs n [(l : Int)] l ByteArray.empty from by unfold ansPw; rw [h1, pw_eq n l n1 n2]; rfl]
    have hlen := Lib.hid (Nat.le_trans (dfs_len n [(l : Int)] l ByteArray.empty) (dn_le n l n2 l2 hq))
    have Hq := Lib.hid hq
    clear hq
    go_enter Try.func13, Try.ntmps13
    go_wp2_with fail
    refine (areListed_any n l _).mono ?_
    rintro e w' ⟨rfl, rfl⟩
    rw [h1]
    go_wp2_with fail
    refine (primesOf_any n w.heap.size 1 l [(l : Int)] _ n1 n2 (cel_lit w l) (by simp) rfl (by unfold hasI; simp; omega) (by simp) (by simp) l2 (by have := hlen.out; omega)).mono ?_
    rintro e w2 ⟨v, rfl, r2, b2⟩
    go_wp2_with fail
    go_ret2
    exact ⟨_, rfl, r2.mono (by simp), bel_trans (bel_alloc (Below.refl _ _) _) b2⟩
set_option maxRecDepth 100000 in
set_option maxHeartbeats 1600000 in
theorem walkExactPrimeWords (a b : Int) (w : World) (ha : (Lit.int .i64 a).wf = true) (hb : (Lit.int .i64 b).wf = true) :
    Calls Try.prog 4 #[.int .i64 a, .int .i64 b] w fun e w' => e = .returned (.bool true) ∧ Below w.heap.size w w' := by
  clear ha hb
  have hlen : (ansPw a b).length ≤ 5000 := ansPw_len a b
  generalize hxs : ansPw a b = xs at *
  have Hxs := Lib.hid hxs
  clear hxs
  generalize hok : fwG a b = ok at *
  have Hok := Lib.hid hok
  clear hok
  go_enter Try.func4, Try.ntmps4
  go_wp2_with fail
  refine (specPw_any a b _).mono ?_
  rw [Hxs.out, Hok.out]
  rintro e w1 ⟨v0, rfl, r0, b1⟩
  have R0 := Lib.hid r0
  have s1 := b1.size
  have bl := b1
  clear r0 b1
  go_wp2_with fail
  refine (implPw_any a b _).mono ?_
  rw [Hxs.out, Hok.out]
  rintro e w2 ⟨v1, rfl, r1, b2⟩
  have R1 := Lib.hid r1
  have R0b := R0
  have bl1 := bl
  replace R0 := Lib.hid (R0.out.below b2)
  replace bl := bel_trans bl b2
  clear r1
  go_wp2_with fail
  refine (eqStr_same xs v1 v0 _ _ _ R1.out R0.out).mono ?_
  rintro e w3 ⟨rfl, n3, rfl⟩
  go_wp2_with fail
  refine (markS_any xs v1 _ 1 _ (R1.out.drewN n3) (by omega) (by omega) b2.size).mono ?_
  rintro e w4 ⟨rfl, r4, g4⟩
  have R4 := Lib.hid r4
  clear r4
  have g4' : Below w1.heap.size w1 w4 := b2.trans (show Below w1.heap.size w2 w4 from ⟨g4.os, g4.tape, g4.output, g4.size, g4.block⟩)
  replace bl := bel_trans bl1 g4'
  replace R0 := Lib.hid (R0b.out.below g4')
  clear R0b bl1
  go_wp2_with fail
  refine (heldS_any xs v1 _ 1 _ R4.out (by omega) (by omega)).mono ?_
  rintro e w5 ⟨rfl, b5⟩
  replace bl := bel_trans bl b5
  replace R0 := Lib.hid (R0.out.below b5)
  replace R4 := Lib.hid (R4.out.below b5)
  have t1 : decide ((1 : Int) + (xs.length : Int) < 0) = false := by simp; omega
  go_wp2_with fail
  refine (implPw_any a b _).mono ?_
  rw [Hxs.out, Hok.out]
  rintro e w6 ⟨v2, rfl, r6, b6⟩
  have R2 := Lib.hid r6
  clear r6
  replace bl := bel_trans bl b6
  replace R0 := Lib.hid (R0.out.below b6)
  replace R4 := Lib.hid (R4.out.below b6)
  go_wp2_with fail
  refine (eqStr_same xs v2 v0 _ _ _ R2.out R0.out).mono ?_
  rintro e w7 ⟨rfl, n7, rfl⟩
  go_wp2_with fail
  refine (heldS_any xs v1 _ 1 _ (R4.out.drewN n7) (by omega) (by omega)).mono ?_
  rintro e w8 ⟨rfl, b8⟩
  replace bl := bel_trans (bel_drewN bl n7) b8
  go_wp2_with fail
  go_ret
  exact ⟨rfl, bl⟩
end Go.Proofs.Ytiblggfihpobkab
