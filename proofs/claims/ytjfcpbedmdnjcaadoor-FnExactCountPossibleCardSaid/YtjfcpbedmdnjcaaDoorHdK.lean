/- CountPossible, FirstPossible: the contracts of the program and of its model, and the walks. -/
import Derived.Test.YtjfcpbedmdnjcaaDoorHdJ
import Derived.Shelf.GgClosure.Gives
namespace Go.Proofs.YtjfcpbedmdnjcaaDoor
set_option linter.unusedSimpArgs false
open Go.ChangeShapes Go.WideShapes Go.ChangeAt Go.RowKit
set_option linter.unusedVariables false

def cntP (f : Nat → Int) : Nat → Nat
  | 0 => 0
  | n + 1 => if 0 < f n then cntP f n + 1 else cntP f n
def posT (m : Nat) (f : Nat → Int) : Nat → List ByteArray
  | 0 => []
  | n + 1 => if 0 < f n then posT m f n ++ [rkT 100 119 m n] else posT m f n
def fstR (f : Nat → Int) : Nat → Nat
  | 0 => 0
  | n + 1 => if 0 < f 0 then 0 else fstR (fun i => f (i + 1)) n + 1
theorem cntP_le (f : Nat → Int) : ∀ n, cntP f n ≤ n
  | 0 => Nat.le_refl _
  | n + 1 => by
    have := cntP_le f n
    unfold cntP
    split <;> omega
theorem posT_len (m : Nat) (f : Nat → Int) : ∀ n, (posT m f n).length = cntP f n
  | 0 => rfl
  | n + 1 => by
    have := posT_len m f n
    unfold posT cntP
    split <;> simp [this]
theorem cntP_top (f : Nat → Int) (n : Nat) (h : ∀ i, i < n → 0 ≤ f i) : 0 < cntP f n ↔ 0 < topV f n := by
  induction n with
  | zero => simp [cntP, topV]
  | succ n ih =>
    have h1 := ih (fun i hi => h i (by omega))
    have h2 := h n (by omega)
    have h3 := (topV_ge f n).1
    unfold cntP topV
    split <;> split <;> omega
/-- The first one that is more than 0. -/
theorem posT_head (m : Nat) (f : Nat → Int) : ∀ n, 0 < cntP f n → ∃ k, k < n ∧ 0 < f k ∧ (∀ j, j < k → ¬ 0 < f j) ∧ (posT m f n).getD 0 ByteArray.empty = rkT 100 119 m k
  | 0, h => by simp [cntP] at h
  | n + 1, h => by
    by_cases hc : 0 < cntP f n
    · obtain ⟨k, a, b, c, d⟩ := posT_head m f n hc
      refine ⟨k, by omega, b, c, ?_⟩
      have hl := posT_len m f n
      unfold posT
      split
      · rw [List.getD_eq_getElem?_getD, List.getElem?_append_left (by omega), ← List.getD_eq_getElem?_getD]; exact d
      · exact d
    · have h0 : cntP f n = 0 := by omega
      have hl := posT_len m f n
      have hnil : posT m f n = [] := List.length_eq_zero_iff.1 (by omega)
      have hn : 0 < f n := by
        unfold cntP at h
        split at h
        · assumption
        · omega
      refine ⟨n, by omega, hn, fun j hj => ?_, ?_⟩
      · clear hnil hl h hc hn
        induction n with
        | zero => omega
        | succ n ih =>
          unfold cntP at h0
          split at h0
          · omega
          · rename_i hx
            by_cases e : j = n
            · subst e; exact hx
            · exact ih h0 (by omega)
      · unfold posT
        rw [if_pos hn, hnil]
        rfl
def ansCp (a b c p q r : Int) (s : ByteArray) : Value := if goodH a b c p q r && signsB s then .tuple #[.int .i64 (cntP (vS a b c p q r s) (2 ^ s.size)), .bool true] else .tuple #[.int .i64 0, .bool false]
theorem ansCp_form (a b c p q r : Int) (s : ByteArray) : ∃ (x : Int) (o : Bool), ansCp a b c p q r s = .tuple #[.int .i64 x, .bool o] := by
  unfold ansCp
  split
  · exact ⟨_, _, rfl⟩
  · exact ⟨0, _, rfl⟩
def ansFp (a b c p q r : Int) (s : ByteArray) : Value := if (goodH a b c p q r && signsB s) && decide (0 < topS a b c p q r s) then .tuple #[.string ((posT s.size (vS a b c p q r s) (2 ^ s.size)).getD 0 ByteArray.empty), .bool true] else .tuple #[.string ⟨#[]⟩, .bool false]
theorem ansFp_form (a b c p q r : Int) (s : ByteArray) : ∃ (x : ByteArray) (o : Bool), ansFp a b c p q r s = .tuple #[.string x, .bool o] := by
  unfold ansFp
  split
  · exact ⟨_, _, rfl⟩
  · exact ⟨_, _, rfl⟩

set_option maxRecDepth 100000 in
set_option maxHeartbeats 3200000 in
theorem hdPossible_any (a b c p q r : Int) (s : ByteArray) (w : World) (hr : inR a b c) (hp : inR p q r) (ha : allG s = true) (h1 : 1 ≤ s.size) (h6 : s.size ≤ 6) :
    Calls Tryd.prog 57 #[hdn a b c p q r, .string s] w (RowS (posT s.size (vS a b c p q r s) (2 ^ s.size)) w) := by
    have bx := Lib.hid (Box6.new w a b c p q r 31)
    have hp8 := pow8 s.size (by omega)
    have hbth : Hid (∀ j : Nat, j < 2 ^ s.size → ∀ W : World, Calls Tryd.prog 36 #[hdn a b c p q r, .string (rkT 100 119 s.size j), .string s] W fun e w' => e = .returned (.int .i64 (vS a b c p q r s j)) ∧ Below W.heap.size W w') := Lib.hid (fun j hj W => by
      have hz := rkT_size 100 119 s.size j
      exact hdBoth_any a b c p q r _ s W hr hp (rkT_days _ _ hj) ha (by omega) (by omega) (by omega))
    have hV : Hid (∀ j, 0 ≤ vS a b c p q r s j ∧ vS a b c p q r s j ≤ 100000000000000) := Lib.hid (fun j => vS_in hr hp s (by omega) j)
    have hlen := Lib.hid (allDy_len s.size)
    have bl1 := Lib.hid (bel_alloc (Below.refl _ w) (.cells #[.int .i64 a, .int .i64 b, .int .i64 c, .int .i64 p, .int .i64 q, .int .i64 r] 31))
    obtain ⟨f, hf⟩ : ∃ f, f = vS a b c p q r s := ⟨_, rfl⟩
    rw [← hf] at hbth hV ⊢
    clear hf
    clear hr hp ha
    go_enter Tryd.func57, Tryd.ntmps57
    go_wp2_with fail
    refine (cnAll_any s.size _ (by omega)).mono ?_
    rintro e w2 ⟨v, rfl, hR, hb2⟩
    have bx2 := Lib.hid (bx.out.keep hb2)
    have bl2 := Lib.hid (bel_trans bl1.out hb2)
    have hsw := Lib.hid bl2.out.size
    clear hb2
    rcases hR.form with ⟨hx, _⟩ | ⟨hx, g, cap, rfl, hbg, hgl, hlc, hcm⟩
    · have := hlen.out
      rw [hx] at this
      simp at this
      have := Nat.pow_pos (n := s.size) (show 0 < 2 by omega)
      omega
    have HRw := Lib.hid hR
    clear hR hx hbg
    generalize hN : (allDy s.size).length = N at *
    have HN := Lib.hid (hN.trans rfl)
    have hNe : N = 2 ^ s.size := hlen.out
    have HNe := Lib.hid hNe
    rw [← hNe] at hp8
    clear hN hNe
    go_wp2_with fail
    go_loopw [5, 12] (fun x i wr => ∃ j : Nat, j ≤ N ∧ i = .int .i64 j ∧ Hid (SRow wr w2.heap.size x (posT s.size f j)) ∧ Below w2.heap.size w2 wr) (fun _ i _ => N - (intOf i).toNat)
    case atStart => exact ⟨0, by omega, rfl, Lib.hid (World.ownsRow_nil _ _ _ _), Below.refl _ _⟩
    case round =>
      obtain ⟨j, hj, rfl, hout, hbl⟩ := hrel
      obtain ⟨wa, rfl⟩ : ∃ wa : World, wa = wr := ⟨_, rfl⟩
      by_cases hlt : j < N
      · have hj2 : j < 2 ^ s.size := by rw [← HNe.out]; exact hlt
        have hb := Lib.hid (hbth.out j hj2)
        have hr0 := HRw.out.below hbl
        rw [← HN.out] at hr0
        have c0 := hr0.at_ j (by rw [HN.out]; exact hlt)
        rw [allDy_at _ _ hj2] at c0
        obtain ⟨d0, d1, d2, d3, d4, d5, d6⟩ := bx2.out.keep hbl
        have hpl := Lib.hid (show (posT s.size f j).length + 1 ≤ 1000000 by have := posT_len s.size f j; have := cntP_le f j; omega)
        clear hr0
        have hyes : Hid (0 < f j → posT s.size f j ++ [rkT 100 119 s.size j] = posT s.size f (j + 1)) := Lib.hid (fun h => by conv => rhs; unfold posT; rw [if_pos h])
        have hno : Hid (¬ 0 < f j → posT s.size f j = posT s.size f (j + 1)) := Lib.hid (fun h => by conv => rhs; unfold posT; rw [if_neg h])
        generalize rkT 100 119 s.size j = T at *
        generalize f j = V at *
        generalize posT s.size f j = xs at *
        by_cases hlt2 : 0 < V
        · go_wp2_with fail
          refine (hb.out _).mono ?_
          rintro e w3 ⟨rfl, hb3⟩
          have hout2 := Lib.hid (hout.out.below hb3)
          have hbl2 := Lib.hid (hbl.trans (hb3.mono hbl.size))
          have hs3 := hbl2.out.size
          clear hb3 d0 d1 d2 d3 d4 d5 d6 c0
          go_wp2_with (at_builtin; refine wpList_pushS1 _ rfl (.tmp 21) (.tmp 23) rfl _ _ _ hout2.out hpl.out hs3 rfl rfl ?_)
          intro v' w4 hI4 hb4
          have HI := Lib.hid hI4
          rw [hyes.out hlt2] at HI
          clear hI4
          go_wp2_with fail
          exact ⟨⟨j + 1, by omega, by go_num, HI, hbl2.out.trans hb4⟩, by simp [intOf]; omega⟩
        · have hlt3 : decide (0 < V) = false := by simpa using hlt2
          go_wp2_with fail
          refine (hb.out _).mono ?_
          rintro e w3 ⟨rfl, hb3⟩
          have hout2 := Lib.hid (hout.out.below hb3)
          rw [hno.out hlt2] at hout2
          have hbl2 := Lib.hid (hbl.trans (hb3.mono hbl.size))
          clear hb3 d0 d1 d2 d3 d4 d5 d6 c0
          go_wp2_with fail
          exact ⟨⟨j + 1, by omega, by go_num, hout2, hbl2.out⟩, by simp [intOf]; omega⟩
      · have hjN : j = N := by omega
        have HJ := Lib.hid (hjN.trans HNe.out)
        clear hjN
        go_wp2_with fail
        go_ret
        exact ⟨_, rfl, by rw [← HJ.out]; exact hout.out.mono hsw.out, bel_trans bl2.out hbl⟩

set_option maxRecDepth 100000 in
set_option maxHeartbeats 3200000 in
theorem specCp_any (a b c p q r : Int) (s : ByteArray) (w : World) (hs : s.size ≤ maxLen) :
    Calls Tryd.prog 25 #[hdn a b c p q r, .string s] w fun e w' => e = .returned (ansCp a b c p q r s) ∧ Below w.heap.size w w' := by
  have HS := Lib.hid hs
  have bx := Lib.hid (Box6.new w a b c p q r 31)
  cases h : (goodH a b c p q r && signsB s)
  · rw [show ansCp a b c p q r s = .tuple #[.int .i64 0, .bool false] from by unfold ansCp; rw [h]; rfl]
    go_enter Tryd.func25, Tryd.ntmps25
    go_wp2_with fail
    refine (hdAsked_any _ _ _ _ _ _ s _ HS.out).mono ?_
    rintro e w1 ⟨rfl, hb1⟩
    rw [h]
    go_wp2_with fail
    go_ret2
    exact ⟨rfl, bel_trans (bel_alloc (Below.refl _ _) _) hb1⟩
  · have h' := h
    rw [Bool.and_eq_true] at h'
    obtain ⟨hr, hp⟩ := goodH_in h'.1
    obtain ⟨h1, h6, ha⟩ := signs_in h'.2
    have c1 : 1 ≤ c ∧ c ≤ 10 ∧ 1 ≤ r ∧ r ≤ 10 := by unfold inR at hr hp; omega
    obtain ⟨c1, c2, c3, c4⟩ := c1
    have hP : Hid (∀ W : World, Calls Tryd.prog 57 #[hdn a b c p q r, .string s] W (RowS (posT s.size (vS a b c p q r s) (2 ^ s.size)) W)) := Lib.hid (fun W => hdPossible_any a b c p q r s W hr hp ha h1 h6)
    have hpl := posT_len s.size (vS a b c p q r s) (2 ^ s.size)
    rw [show ansCp a b c p q r s = .tuple #[.int .i64 (cntP (vS a b c p q r s) (2 ^ s.size)), .bool true] from by unfold ansCp; rw [h]; rfl]
    rw [← hpl]
    generalize posT s.size (vS a b c p q r s) (2 ^ s.size) = xs at *
    clear hr hp ha h' c1 c2 c3 c4 hpl
    go_enter Tryd.func25, Tryd.ntmps25
    go_wp2_with fail
    refine (hdAsked_any _ _ _ _ _ _ s _ HS.out).mono ?_
    rintro e w1 ⟨rfl, hb1⟩
    rw [h]
    have bx1 := Lib.hid (bx.out.keep hb1)
    have bl1 := Lib.hid (bel_trans (bel_alloc (Below.refl _ w) _) hb1)
    obtain ⟨d0, d1, d2, d3, d4, d5, d6⟩ := bx1.out
    clear hb1
    go_wp2_with fail
    refine (hP.out _).mono ?_
    rintro e w2 ⟨v, rfl, hR, hb2⟩
    have bl2 := Lib.hid (bel_trans bl1.out hb2)
    rcases hR.form with ⟨hx, A, cap, rfl⟩ | ⟨hx, g, cap, rfl, _, _, hlc, hcm⟩
    · clear hR hb2
      go_wp2_with fail
      go_ret2
      exact ⟨by rw [hx]; rfl, bl2.out⟩
    · clear hR hb2
      go_wp2_with fail
      go_ret2
      exact ⟨rfl, bl2.out⟩

set_option maxRecDepth 100000 in
set_option maxHeartbeats 3200000 in
theorem implCp_any (a b c p q r : Int) (s : ByteArray) (w : World) (hs : s.size ≤ maxLen) :
    Calls Tryd.prog 26 #[hdn a b c p q r, .string s] w fun e w' => e = .returned (ansCp a b c p q r s) ∧ Below w.heap.size w w' := by
  have HS := Lib.hid hs
  have bx := Lib.hid (Box6.new w a b c p q r 31)
  cases h : (goodH a b c p q r && signsB s)
  · rw [show ansCp a b c p q r s = .tuple #[.int .i64 0, .bool false] from by unfold ansCp; rw [h]; rfl]
    go_enter Tryd.func26, Tryd.ntmps26
    go_wp2_with fail
    refine (isSigned_any _ _ _ _ _ _ s _ HS.out).mono ?_
    rintro e w1 ⟨rfl, hb1⟩
    rw [h]
    go_wp2_with fail
    go_ret2
    exact ⟨rfl, bel_trans (bel_alloc (Below.refl _ _) _) hb1⟩
  · have h' := h
    rw [Bool.and_eq_true] at h'
    obtain ⟨hr, hp⟩ := goodH_in h'.1
    obtain ⟨h1, h6, ha⟩ := signs_in h'.2
    have c1 : 1 ≤ c ∧ c ≤ 10 ∧ 1 ≤ r ∧ r ≤ 10 := by unfold inR at hr hp; omega
    obtain ⟨c1, c2, c3, c4⟩ := c1
    have hA : Hid (∀ W : World, Calls Tryd.prog 58 #[hdn a b c p q r, .string s] W (RowOne (allV a b c p q r s) W)) := Lib.hid (fun W => allBoth_any a b c p q r s W hr hp ha h1 (by omega))
    have hp8 := pow8 s.size (by omega)
    have hal := allV_len a b c p q r s
    have hat : Hid (∀ j, j < 2 ^ s.size → (allV a b c p q r s).getD j 0 = vS a b c p q r s j) := Lib.hid (fun j hj => by rw [allV_at, if_pos hj])
    rw [show ansCp a b c p q r s = .tuple #[.int .i64 (cntP (vS a b c p q r s) (2 ^ s.size)), .bool true] from by unfold ansCp; rw [h]; rfl]
    obtain ⟨f, hf⟩ : ∃ f, f = vS a b c p q r s := ⟨_, rfl⟩
    rw [← hf] at hat ⊢
    clear hf
    generalize allV a b c p q r s = zs at *
    clear hr hp ha h' c1 c2 c3 c4
    go_enter Tryd.func26, Tryd.ntmps26
    go_wp2_with fail
    refine (isSigned_any _ _ _ _ _ _ s _ HS.out).mono ?_
    rintro e w1 ⟨rfl, hb1⟩
    rw [h]
    have bx1 := Lib.hid (bx.out.keep hb1)
    have bl1 := Lib.hid (bel_trans (bel_alloc (Below.refl _ w) _) hb1)
    obtain ⟨d0, d1, d2, d3, d4, d5, d6⟩ := bx1.out
    clear hb1
    go_wp2_with fail
    refine (hA.out _).mono ?_
    rintro e w2 ⟨v, rfl, hR, hb2⟩
    have bl2 := Lib.hid (bel_trans bl1.out hb2)
    clear hb2 d0 d1 d2 d3 d4 d5 d6
    rcases hR.form with ⟨hx, _⟩ | ⟨hx, g, cap, rfl, hbg, hgl, hlc, hcm⟩
    · rw [hx] at hal
      simp at hal
      have := Nat.pow_pos (n := s.size) (show 0 < 2 by omega)
      omega
    have HR := Lib.hid hR
    clear hR hx hbg
    generalize hN : zs.length = N at *
    have HN := Lib.hid hN
    have HNe := Lib.hid hal
    rw [← hal] at hp8
    clear hN hal
    go_wp2_with fail
    go_loop [6, 17] (fun x i => ∃ j : Nat, j ≤ N ∧ i = .int .i64 j ∧ x = .int .i64 (cntP f j)) (fun _ i => N - (intOf i).toNat)
    case atStart => exact ⟨0, by omega, rfl, rfl⟩
    case round =>
      obtain ⟨j, hj, rfl, rfl⟩ := hrel
      by_cases hlt : j < N
      · have hj2 : j < 2 ^ s.size := by rw [← HNe.out]; exact hlt
        have hr0 := HR.out
        rw [← HN.out] at hr0
        have c0 := hr0.at_ j (by rw [HN.out]; exact hlt)
        rw [hat.out j hj2] at c0
        have hcl := cntP_le f j
        clear hr0
        have hyes : Hid (0 < f j → cntP f (j + 1) = cntP f j + 1) := Lib.hid (fun h => by conv => lhs; unfold cntP; rw [if_pos h])
        have hno : Hid (¬ 0 < f j → cntP f (j + 1) = cntP f j) := Lib.hid (fun h => by conv => lhs; unfold cntP; rw [if_neg h])
        generalize f j = V at *
        generalize cntP f j = C at *
        by_cases hlt2 : 0 < V
        · have hC : (C : Int) ≤ 1000000 := by omega
          go_wp2_with fail
          exact ⟨⟨j + 1, by omega, by go_num, by rw [hyes.out hlt2]; go_num⟩, by simp [intOf]; omega⟩
        · have hlt3 : decide (0 < V) = false := by simpa using hlt2
          go_wp2_with fail
          exact ⟨⟨j + 1, by omega, by go_num, by rw [hno.out hlt2]⟩, by simp [intOf]; omega⟩
      · have hjN : j = N := by omega
        have HJ := Lib.hid (hjN.trans HNe.out)
        clear hjN
        go_wp2_with fail
        go_ret2
        exact ⟨by rw [← HJ.out]; rfl, bl2.out⟩

set_option maxRecDepth 100000 in
set_option maxHeartbeats 3200000 in
theorem walkExactCountPossible (a b c p q r : Int) (s : ByteArray) (w : World) (ha : (Lit.int .i64 a).wf = true) (hb : (Lit.int .i64 b).wf = true) (hc : (Lit.int .i64 c).wf = true) (hp : (Lit.int .i64 p).wf = true) (hq : (Lit.int .i64 q).wf = true) (hr : (Lit.int .i64 r).wf = true) (zs : s.size ≤ maxLen) :
    Calls Tryd.prog 9 #[hdn a b c p q r, .string s] w fun e w' => e = .returned (.bool true) ∧ Below w.heap.size w w' := by
  clear ha hb hc hp hq hr
  by_cases ls : s.size ≤ 1048576
  · skip
    obtain ⟨x, ok, hv⟩ := ansCp_form a b c p q r s
    have Zs := Lib.hid zs
    have Hv := Lib.hid hv
    clear hv zs
    have bx := Lib.hid (Box6.new w a b c p q r 26)
    go_enter Tryd.func9, Tryd.ntmps9
    go_wp2_with fail
    refine (toHidden_any _ _ _ _ _ _ _).mono ?_
    rintro e w1 ⟨rfl, hb1⟩
    have bx1 := Lib.hid (bx.out.keep hb1)
    go_wp2_with fail
    refine (specCp_any _ _ _ _ _ _ s _ Zs.out).mono ?_
    rw [Hv.out]
    rintro e w2 ⟨rfl, hb2⟩
    obtain ⟨c0, c1, c2, c3, c4, c5, hk⟩ := bx1.out.keep hb2
    go_wp2_with fail
    refine (toHidden_any _ _ _ _ _ _ _).mono ?_
    rintro e w3 ⟨rfl, hb3⟩
    go_wp2_with fail
    refine (implCp_any _ _ _ _ _ _ s _ Zs.out).mono ?_
    rw [Hv.out]
    rintro e w4 ⟨rfl, hb4⟩
    go_wp2_with fail
    go_ret
    exact ⟨rfl, bel_trans (bel_trans (bel_trans (bel_trans (bel_alloc (Below.refl _ _) _) hb1) hb2) hb3) hb4⟩
  · go_enter Tryd.func9, Tryd.ntmps9
    go_wp2
    go_ret
    exact ⟨rfl, bel_alloc (Below.refl _ _) _⟩

set_option maxRecDepth 100000 in
set_option maxHeartbeats 3200000 in
theorem specFp_any (a b c p q r : Int) (s : ByteArray) (w : World) (hs : s.size ≤ maxLen) :
    Calls Tryd.prog 27 #[hdn a b c p q r, .string s] w fun e w' => e = .returned (ansFp a b c p q r s) ∧ Below w.heap.size w w' := by
  have HS := Lib.hid hs
  have bx := Lib.hid (Box6.new w a b c p q r 31)
  cases h : (goodH a b c p q r && signsB s)
  · rw [show ansFp a b c p q r s = .tuple #[.string ⟨#[]⟩, .bool false] from by unfold ansFp; rw [h]; rfl]
    go_enter Tryd.func27, Tryd.ntmps27
    go_wp2_with fail
    refine (hdAsked_any _ _ _ _ _ _ s _ HS.out).mono ?_
    rintro e w1 ⟨rfl, hb1⟩
    rw [h]
    go_wp2_with fail
    go_ret2
    exact ⟨rfl, bel_trans (bel_alloc (Below.refl _ _) _) hb1⟩
  · have h' := h
    rw [Bool.and_eq_true] at h'
    obtain ⟨hr, hp⟩ := goodH_in h'.1
    obtain ⟨h1, h6, ha⟩ := signs_in h'.2
    have c1 : 1 ≤ c ∧ c ≤ 10 ∧ 1 ≤ r ∧ r ≤ 10 := by unfold inR at hr hp; omega
    obtain ⟨c1, c2, c3, c4⟩ := c1
    have hP : Hid (∀ W : World, Calls Tryd.prog 57 #[hdn a b c p q r, .string s] W (RowS (posT s.size (vS a b c p q r s) (2 ^ s.size)) W)) := Lib.hid (fun W => hdPossible_any a b c p q r s W hr hp ha h1 h6)
    have hpl := posT_len s.size (vS a b c p q r s) (2 ^ s.size)
    have htop := cntP_top (vS a b c p q r s) (2 ^ s.size) (fun i _ => (vS_in hr hp s (by omega) i).1)
    rw [← hpl] at htop
    by_cases ht : 0 < topS a b c p q r s
    · have hlen := htop.2 ht
      rw [show ansFp a b c p q r s = .tuple #[.string ((posT s.size (vS a b c p q r s) (2 ^ s.size)).getD 0 ByteArray.empty), .bool true] from by unfold ansFp; rw [h, decide_eq_true ht]; rfl]
      generalize posT s.size (vS a b c p q r s) (2 ^ s.size) = xs at *
      obtain ⟨T, hT⟩ : ∃ T, T = xs.getD 0 ByteArray.empty := ⟨_, rfl⟩
      rw [← hT]
      have hTT := Lib.hid hT
      clear hr hp ha h' c1 c2 c3 c4 hpl htop ht hT
      go_enter Tryd.func27, Tryd.ntmps27
      go_wp2_with fail
      refine (hdAsked_any _ _ _ _ _ _ s _ HS.out).mono ?_
      rintro e w1 ⟨rfl, hb1⟩
      rw [h]
      have bx1 := Lib.hid (bx.out.keep hb1)
      have bl1 := Lib.hid (bel_trans (bel_alloc (Below.refl _ w) _) hb1)
      obtain ⟨d0, d1, d2, d3, d4, d5, d6⟩ := bx1.out
      clear hb1
      go_wp2_with fail
      refine (hP.out _).mono ?_
      rintro e w2 ⟨v, rfl, hR, hb2⟩
      have bl2 := Lib.hid (bel_trans bl1.out hb2)
      rcases hR.form with ⟨hx, A, cap, rfl⟩ | ⟨hx, g, cap, rfl, _, _, hlc, hcm⟩
      · rw [hx] at hlen; simp at hlen
      · have c0 := hR.at_ 0 hlen
        have hne : ((xs.length : Int) == 0) = false := by rw [beq_eq_false_iff_ne]; omega
        unfold maxLen at hcm
        rw [← hTT.out] at c0
        generalize xs.length = N at *
        clear hR hb2 d0 d1 d2 d3 d4 d5 d6 hx
        go_wp2_with fail
        go_ret2
        exact ⟨rfl, bl2.out⟩
    · have hlen : (posT s.size (vS a b c p q r s) (2 ^ s.size)).length = 0 := by
        have := mt htop.1 ht
        omega
      rw [show ansFp a b c p q r s = .tuple #[.string ⟨#[]⟩, .bool false] from by unfold ansFp; rw [h, decide_eq_false ht]; rfl]
      generalize posT s.size (vS a b c p q r s) (2 ^ s.size) = xs at *
      clear hr hp ha h' c1 c2 c3 c4 hpl htop ht
      go_enter Tryd.func27, Tryd.ntmps27
      go_wp2_with fail
      refine (hdAsked_any _ _ _ _ _ _ s _ HS.out).mono ?_
      rintro e w1 ⟨rfl, hb1⟩
      rw [h]
      have bx1 := Lib.hid (bx.out.keep hb1)
      have bl1 := Lib.hid (bel_trans (bel_alloc (Below.refl _ w) _) hb1)
      obtain ⟨d0, d1, d2, d3, d4, d5, d6⟩ := bx1.out
      clear hb1
      go_wp2_with fail
      refine (hP.out _).mono ?_
      rintro e w2 ⟨v, rfl, hR, hb2⟩
      have bl2 := Lib.hid (bel_trans bl1.out hb2)
      rcases hR.form with ⟨hx, A, cap, rfl⟩ | ⟨hx, g, cap, rfl, _, _, hlc, hcm⟩
      · clear hR hb2 d0 d1 d2 d3 d4 d5 d6
        go_wp2_with fail
        go_ret2
        exact ⟨rfl, bl2.out⟩
      · omega

theorem gives_fp (x : Int) (W : World) : FnGives Tryd.prog 60 #[] #[.int .i64 x] (.bool (decide (0 < x))) W := by
  change Calls Tryd.prog 60 #[.int .i64 x] W _
  by_cases h : 0 < x
  · rw [decide_eq_true h]
    go_enter Tryd.func60, Tryd.ntmps60
    go_wp2
    go_ret
    exact ⟨rfl, 0, rfl⟩
  · rw [decide_eq_false h]
    have hd : decide (0 < x) = false := by simpa using h
    go_enter Tryd.func60, Tryd.ntmps60
    go_wp2
    go_ret
    exact ⟨rfl, 0, rfl⟩
open Go.Sort Go.Shelf in
theorem first_any (a b c p q r : Int) (s : ByteArray) (v : Value) (base k : Nat) (w : World) (h7 : s.size ≤ 7) (hR : IRow w base v (allV a b c p q r s)) (hk : k < 2 ^ s.size) (h0 : 0 < vS a b c p q r s k) (hj : ∀ j, j < k → ¬ 0 < vS a b c p q r s j) :
    Calls Tryd.prog 59 #[v, .func (.func 60) #[] #[]] w fun e w' => e = .returned (.int .i64 (k : Int)) ∧ ∃ q, w' = w.drewN q := by
  have hl := allV_len a b c p q r s
  have hpos := Nat.pow_pos (n := s.size) (show 0 < 2 by omega)
  have hp8 := pow8 s.size (by omega)
  rcases hR.form with ⟨hx, _⟩ | ⟨hx, g, cap, rfl, _, _, hlc, hcm⟩
  · rw [hx] at hl; simp at hl; omega
  · have eg : ∀ args w, (callFunc 60 args).run Tryd.prog w = .ok (.enter 60 args) w := Go.Proofs.enters_of Tryd.func60 (by kernel_rfl) rfl
    have hgd : ∀ j, j < (allV a b c p q r s).length → (allV a b c p q r s)[j]! = vS a b c p q r s j := fun j hj => by
      have e := allV_at a b c p q r s j
      rw [if_pos (by omega), List.getD_eq_getElem?_getD, List.getElem?_eq_getElem hj] at e
      rw [getElem!_pos _ j hj]
      exact e
    have h := Tryd.slices_IndexFunc (α := Int) (Value.int .i64) (fun x => decide (0 < x)) 60 #[] eg g 0 (allV a b c p q r s).length cap (allV a b c p q r s) w (fun W x _ => gives_fp x W) (Nat.le_refl _) (by omega) (fun j hj => by
      rw [Nat.zero_add, hR.at_ j hj, hgd j hj, allV_at, if_pos (by omega)])
    rw [List.take_length] at h
    have hm : Lib.idxBy (fun _ y => decide (0 < y)) (allV a b c p q r s) default = ((0 + k : Nat) : Int) := by
      unfold Lib.idxBy
      refine Lib.idxByFrom_hit _ _ _ k 0 (by omega) ?_ ?_
      · rw [hgd k (by omega)]; exact decide_eq_true h0
      · intro j hj2
        rw [hgd j (by omega)]
        exact decide_eq_false (hj j hj2)
    rw [hm, Nat.zero_add] at h
    exact h

set_option maxRecDepth 100000 in
set_option maxHeartbeats 3200000 in
theorem implFp_any (a b c p q r : Int) (s : ByteArray) (w : World) (hs : s.size ≤ maxLen) :
    Calls Tryd.prog 28 #[hdn a b c p q r, .string s] w fun e w' => e = .returned (ansFp a b c p q r s) ∧ Below w.heap.size w w' := by
  have HS := Lib.hid hs
  cases h : (goodH a b c p q r && signsB s)
  · rw [show ansFp a b c p q r s = .tuple #[.string ⟨#[]⟩, .bool false] from by unfold ansFp; rw [h]; rfl]
    go_enter Tryd.func28, Tryd.ntmps28
    go_wp2_with fail
    refine (behind_no a b c p q r s _ HS.out h).mono ?_
    rintro e w1 ⟨rfl, hb1⟩
    go_wp2_with fail
    go_ret2
    exact ⟨rfl, bel_trans (bel_alloc (Below.refl _ _) _) hb1⟩
  · have h' := h
    rw [Bool.and_eq_true] at h'
    obtain ⟨hr, hp⟩ := goodH_in h'.1
    obtain ⟨h1, h6, ha⟩ := signs_in h'.2
    have c1 : 1 ≤ c ∧ c ≤ 10 ∧ 1 ≤ r ∧ r ≤ 10 := by unfold inR at hr hp; omega
    obtain ⟨c1, c2, c3, c4⟩ := c1
    have hB : Hid (∀ W : World, Calls Tryd.prog 48 #[hdn a b c p q r, .string s] W fun e w' => ∃ v, e = .returned (.tuple #[v, .bool (decide (0 < topS a b c p q r s))]) ∧ IRow w' W.heap.size v (allV a b c p q r s) ∧ Below W.heap.size W w') := Lib.hid (fun W => behind_yes a b c p q r s W h'.1 h'.2)
    by_cases ht : 0 < topS a b c p q r s
    rotate_left
    · rw [show ansFp a b c p q r s = .tuple #[.string ⟨#[]⟩, .bool false] from by unfold ansFp; rw [h, decide_eq_false ht]; rfl]
      rw [decide_eq_false ht] at hB
      clear hr hp ha h' c1 c2 c3 c4 ht
      go_enter Tryd.func28, Tryd.ntmps28
      go_wp2_with fail
      refine (hB.out _).mono ?_
      rintro e w1 ⟨v, rfl, hR, hb1⟩
      go_wp2_with fail
      go_ret2
      exact ⟨rfl, bel_trans (bel_alloc (Below.refl _ _) _) hb1⟩
    have htop := cntP_top (vS a b c p q r s) (2 ^ s.size) (fun i _ => (vS_in hr hp s (by omega) i).1)
    obtain ⟨k, k1, k2, k3, k4⟩ := posT_head s.size (vS a b c p q r s) (2 ^ s.size) (htop.2 ht)
    rw [show ansFp a b c p q r s = .tuple #[.string (rkT 100 119 s.size k), .bool true] from by unfold ansFp; rw [h, decide_eq_true ht, k4]; rfl]
    rw [decide_eq_true ht] at hB
    have hI : Hid (∀ (W : World) (base : Nat) (v : Value), IRow W base v (allV a b c p q r s) → Calls Tryd.prog 59 #[v, .func (.func 60) #[] #[]] W fun e w' => e = .returned (.int .i64 (k : Int)) ∧ ∃ q, w' = W.drewN q) := Lib.hid (fun W base v h => first_any a b c p q r s v base k W (by omega) h k1 k2 k3)
    have hX : Hid (∀ W : World, Calls Tryd.prog 56 #[.int .i64 (k : Int), .int .i64 s.size, .string ⟨#[100, 119]⟩] W fun e w' => e = .returned (.string (rkT 100 119 s.size k)) ∧ Below W.heap.size W w') := Lib.hid (fun W => textOfRank_any 100 119 s.size _ W (by omega) k1)
    generalize rkT 100 119 s.size k = T at *
    generalize allV a b c p q r s = zs at *
    clear hr hp ha h' c1 c2 c3 c4 ht k1 k2 k3 k4 htop
    go_enter Tryd.func28, Tryd.ntmps28
    go_wp2_with fail
    refine (hB.out _).mono ?_
    rintro e w1 ⟨v, rfl, hR, hb1⟩
    have bl1 := Lib.hid (bel_trans (bel_alloc (Below.refl _ w) _) hb1)
    have HR := Lib.hid hR
    clear hb1 hR
    go_wp2_with fail
    refine (hI.out _ _ _ HR.out).mono ?_
    rintro e w2 ⟨rfl, n2, rfl⟩
    go_wp2_with fail
    refine (hX.out _).mono ?_
    rintro e w4 ⟨rfl, hb4⟩
    go_wp2_with fail
    go_ret2
    exact ⟨rfl, bel_trans (bel_drewN bl1.out _) hb4⟩

set_option maxRecDepth 100000 in
set_option maxHeartbeats 3200000 in
theorem walkExactFirstPossible (a b c p q r : Int) (s : ByteArray) (w : World) (ha : (Lit.int .i64 a).wf = true) (hb : (Lit.int .i64 b).wf = true) (hc : (Lit.int .i64 c).wf = true) (hp : (Lit.int .i64 p).wf = true) (hq : (Lit.int .i64 q).wf = true) (hr : (Lit.int .i64 r).wf = true) (zs : s.size ≤ maxLen) :
    Calls Tryd.prog 10 #[hdn a b c p q r, .string s] w fun e w' => e = .returned (.bool true) ∧ Below w.heap.size w w' := by
  clear ha hb hc hp hq hr
  by_cases ls : s.size ≤ 1048576
  · skip
    obtain ⟨x, ok, hv⟩ := ansFp_form a b c p q r s
    have Zs := Lib.hid zs
    have Hv := Lib.hid hv
    clear hv zs
    have bx := Lib.hid (Box6.new w a b c p q r 26)
    go_enter Tryd.func10, Tryd.ntmps10
    go_wp2_with fail
    refine (toHidden_any _ _ _ _ _ _ _).mono ?_
    rintro e w1 ⟨rfl, hb1⟩
    have bx1 := Lib.hid (bx.out.keep hb1)
    go_wp2_with fail
    refine (specFp_any _ _ _ _ _ _ s _ Zs.out).mono ?_
    rw [Hv.out]
    rintro e w2 ⟨rfl, hb2⟩
    obtain ⟨c0, c1, c2, c3, c4, c5, hk⟩ := bx1.out.keep hb2
    go_wp2_with fail
    refine (toHidden_any _ _ _ _ _ _ _).mono ?_
    rintro e w3 ⟨rfl, hb3⟩
    go_wp2_with fail
    refine (implFp_any _ _ _ _ _ _ s _ Zs.out).mono ?_
    rw [Hv.out]
    rintro e w4 ⟨rfl, hb4⟩
    go_wp2_with fail
    go_ret
    exact ⟨rfl, bel_trans (bel_trans (bel_trans (bel_trans (bel_alloc (Below.refl _ _) _) hb1) hb2) hb3) hb4⟩
  · go_enter Tryd.func10, Tryd.ntmps10
    go_wp2
    go_ret
    exact ⟨rfl, bel_alloc (Below.refl _ _) _⟩

end Go.Proofs.YtjfcpbedmdnjcaaDoor
