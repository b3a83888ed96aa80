/- CountPrimeWords, CountNecklaces: contracts and walks. -/
import Derived.Test.YtiblggfihpobkabDv
namespace Go.Proofs.Ytiblggfihpobkab
set_option linter.unusedSimpArgs false
open Go.ChangeShapes Go.WideShapes Go.ChangeAt Go.RowKit
set_option linter.unusedVariables false

theorem dvS_next (g : Nat → Int) (L : Nat) (ks : List Int) (i k : Nat) (h : ks.getD i 0 = (k : Int)) : dvS g L ks (i + 1) = dvS g L ks i + (if k < L then (k : Int) * g k else 0) := by
  show dvS g L ks i + _ = _
  rw [h, Int.toNat_natCast]
  congr 1
  by_cases e : k < L
  · rw [if_pos e, if_pos (by omega)]
  · rw [if_neg e, if_neg (by omega)]
theorem dvA_next (g : Nat → Int) (ks : List Int) (i k : Nat) (h : ks.getD i 0 = (k : Int)) : dvA g ks (i + 1) = dvA g ks i + g k := by
  show dvA g ks i + _ = _
  rw [h, Int.toNat_natCast]
/-- What is left behind the first i numbers that divide L. -/
def pcI (n L i : Nat) : Int := (n : Int) ^ L - dvS (pcW n) L (dvL L) i
theorem pcI_zero (n L : Nat) : pcI n L 0 = (n : Int) ^ L := by unfold pcI dvS; omega
theorem pcI_all (n L : Nat) (h : 1 ≤ L) : (pcI n L (dvL L).length).tdiv (L : Int) = pcW n L := by
  unfold pcI
  rw [dvL_all _ L h]
  exact pcL_all n L h
theorem pcI_bnd (n : Nat) (n1 : 1 ≤ n) (n2 : n ≤ 26) (L : Nat) (h1 : 1 ≤ L) (h8 : L ≤ 8) (i : Nat) (hi : i ≤ (dvL L).length) : -bnd L ≤ pcI n L i ∧ pcI n L i ≤ bnd L := by
  obtain ⟨k, hk, he⟩ := dvL_some (pcW n) L h1 i hi
  have := (pcW_bnd n n1 n2 L h1 h8).2 k hk
  unfold pcI
  rw [he]
  exact this
set_option maxRecDepth 100000 in
set_option maxHeartbeats 1600000 in
theorem countPrimes_any (n : Nat) (n1 : 1 ≤ n) (n2 : n ≤ 26) : ∀ (L : Nat), 1 ≤ L → L ≤ 8 → ∀ w : World,
    Calls Try.prog 47 #[.int .i64 n, .int .i64 L] w fun e w' => e = .returned (.int .i64 (pcW n L)) ∧ Below w.heap.size w w' := by
  intro L
  induction L using Nat.strongRecOn with
  | _ L ih =>
    intro h1 h8 w
    have hfin := Lib.hid (pcI_all n L h1)
    have hbL := bnd_pos L
    have hll := dvL_len L h1
    have hl8 := selR_len (dvp L) 1 (L - 1)
    have IH := Lib.hid ih
    clear ih
    go_enter Try.func47, Try.ntmps47
    go_wp2_with fail
    refine (powerW_any n L _ n1 n2 (by omega)).mono ?_
    rintro e w' ⟨rfl, rfl⟩
    rw [← pcI_zero n L]
    go_wp2_with fail
    refine (divisors_any L _ h1 h8).mono ?_
    rintro e w1 ⟨v, rfl, r1, b1⟩
    rcases r1.form with ⟨hx, _⟩ | ⟨hx, g, cap, rfl, hbg, hgl, hlc, hcm⟩
    · rw [hx] at hll; simp at hll
    · have HI := Lib.hid r1
      clear r1
      unfold maxLen at hcm
      have hN8 : (dvL L).length ≤ 8 := by omega
      clear hll hl8
      generalize hN : (dvL L).length = N at *
      have HN := Lib.hid hN
      clear hN
      go_wp2_with fail
      go_loopw [5, 14] (fun x i wr => ∃ k : Nat, k ≤ N ∧ i = .int .i64 k ∧ x = .int .i64 (pcI n L k) ∧ Hid (IRow wr w.heap.size (.slice (some ⟨g, 0, none⟩) N cap) (dvL L)) ∧ Below w.heap.size w wr) (fun _ i _ => N - (intOf i).toNat)
      case atStart => exact ⟨0, by omega, rfl, rfl, HI, b1⟩
      case round =>
        obtain ⟨i, hi, rfl, rfl, hI, hbl⟩ := hrel
        obtain ⟨wa, rfl⟩ : ∃ wa : World, wa = wr := ⟨_, rfl⟩
        have hx1 := pcI_bnd n n1 n2 L h1 h8 i (by rw [HN.out]; exact hi)
        by_cases hlt : i < N
        · obtain ⟨k, hk, k1, k2⟩ := dvL_in L i (by rw [HN.out]; exact hlt)
          have hrow := hI.out
          rw [← HN.out] at hrow
          have c0 := hrow.at_ i (by rw [HN.out]; exact hlt)
          rw [hk] at c0
          have hnx : pcI n L (i + 1) = pcI n L i - (if k < L then (k : Int) * pcW n k else 0) := by
            unfold pcI
            rw [dvS_next _ _ _ i k hk]
            omega
          have hx2 := pcI_bnd n n1 n2 L h1 h8 (i + 1) (by rw [HN.out]; exact hlt)
          have Hk := Lib.hid hk
          clear hrow hk
          by_cases hkl : k < L
          · rw [if_pos hkl] at hnx
            have hz : (k : Int) < (L : Int) := by omega
            have hp := (pcW_bnd n n1 n2 k k1 (by omega)).1
            have hp2 := bnd_pos k
            obtain ⟨m1, m2⟩ := mul_bnd (k := (k : Int)) (x := pcW n k) (by omega) (by omega) (by omega) (by omega)
            have Hnx := Lib.hid hnx
            have hw1 : IntKind.i64.wrap ((k : Int) * pcW n k) = (k : Int) * pcW n k := IntWalk.i64_in _ (by omega)
            have hw2 : IntKind.i64.wrap (pcI n L i - (k : Int) * pcW n k) = pcI n L i - (k : Int) * pcW n k := IntWalk.i64_in _ (by omega)
            clear hnx
            go_wp2_with fail
            refine (IH.out k hkl k1 (by omega) _).mono ?_
            rintro e w5 ⟨rfl, b5⟩
            go_wp2_with fail
            exact ⟨⟨i + 1, by omega, by go_num, by rw [Hnx.out], hI.out.below b5, bel_trans hbl b5⟩, by simp [intOf]; omega⟩
          · rw [if_neg hkl, Int.sub_zero] at hnx
            have hz : ¬ (k : Int) < (L : Int) := by omega
            have Hnx := Lib.hid hnx
            clear hnx
            go_wp2_with fail
            exact ⟨⟨i + 1, by omega, by go_num, by rw [Hnx.out], hI.out, hbl⟩, by simp [intOf]; omega⟩
        · obtain rfl : i = N := by omega
          have hL0 : ¬ (L : Int) = 0 := by omega
          have hLn : ¬ L = 0 := by omega
          have hLb : ((L : Int) == 0) = false := by simpa using hL0
          have hLc : (L == 0) = false := by simpa using hLn
          obtain ⟨t1, t2⟩ := tdiv_bnd _ _ L h1 hx1.1 hx1.2
          have hw1 : IntKind.i64.wrap ((pcI n L i).tdiv (L : Int)) = (pcI n L i).tdiv (L : Int) := IntWalk.i64_in _ (by omega)
          go_wp2_with fail
          go_ret
          exact ⟨by rw [← hfin.out]; rfl, hbl⟩
def ansPc (a b : Int) : Value := if loG a b then .tuple #[.int .i64 (pcW a.toNat b.toNat), .bool true] else .tuple #[.int .i64 0, .bool false]
def ansNk (a b : Int) : Value := if loG a b then .tuple #[.int .i64 (nkS (pcW a.toNat) b.toNat b.toNat), .bool true] else .tuple #[.int .i64 0, .bool false]
theorem specPc_any (a b : Int) (w : World) :
    Calls Try.prog 17 #[.int .i64 a, .int .i64 b] w fun e w' => e = .returned (ansPc a b) ∧ Below w.heap.size w w' := by
  cases h1 : loG a b
  · rw [show ansPc a b = .tuple #[.int .i64 0, .bool false] from by unfold ansPc; rw [h1]; rfl]
    go_enter Try.func17, Try.ntmps17
    go_wp2_with fail
    refine (woLong_any a b _).mono ?_
    rintro e w' ⟨rfl, rfl⟩
    rw [h1]
    go_wp2_with fail
    go_ret2
    exact ⟨rfl, Below.refl _ _⟩
  · obtain ⟨n, L, rfl, rfl, n1, n2, l1, l2⟩ := lo_nat h1
    rw [show ansPc n L = .tuple #[.int .i64 (pcW n L), .bool true] from by unfold ansPc; rw [h1]; rfl]
    go_enter Try.func17, Try.ntmps17
    go_wp2_with fail
    refine (woLong_any n L _).mono ?_
    rintro e w' ⟨rfl, rfl⟩
    rw [h1]
    go_wp2_with fail
    refine (woPrimeCount_any n n1 n2 L l1 l2 _).mono ?_
    rintro e w2 ⟨rfl, rfl⟩
    go_wp2_with fail
    go_ret2
    exact ⟨rfl, Below.refl _ _⟩
theorem implPc_any (a b : Int) (w : World) :
    Calls Try.prog 18 #[.int .i64 a, .int .i64 b] w fun e w' => e = .returned (ansPc a b) ∧ Below w.heap.size w w' := by
  cases h1 : loG a b
  · rw [show ansPc a b = .tuple #[.int .i64 0, .bool false] from by unfold ansPc; rw [h1]; rfl]
    go_enter Try.func18, Try.ntmps18
    go_wp2_with fail
    refine (areWords_any a b _).mono ?_
    rintro e w' ⟨rfl, rfl⟩
    rw [h1]
    go_wp2_with fail
    go_ret2
    exact ⟨rfl, Below.refl _ _⟩
  · obtain ⟨n, L, rfl, rfl, n1, n2, l1, l2⟩ := lo_nat h1
    rw [show ansPc n L = .tuple #[.int .i64 (pcW n L), .bool true] from by unfold ansPc; rw [h1]; rfl]
    go_enter Try.func18, Try.ntmps18
    go_wp2_with fail
    refine (areWords_any n L _).mono ?_
    rintro e w' ⟨rfl, rfl⟩
    rw [h1]
    go_wp2_with fail
    refine (countPrimes_any n n1 n2 L l1 l2 _).mono ?_
    rintro e w2 ⟨rfl, b2⟩
    go_wp2_with fail
    go_ret2
    exact ⟨rfl, b2⟩
theorem ansPc_form (a b : Int) : ∃ (x : Int) (o : Bool), ansPc a b = .tuple #[.int .i64 x, .bool o] := by
  unfold ansPc
  split
  · exact ⟨_, _, rfl⟩
  · exact ⟨_, _, rfl⟩
theorem ansNk_form (a b : Int) : ∃ (x : Int) (o : Bool), ansNk a b = .tuple #[.int .i64 x, .bool o] := by
  unfold ansNk
  split
  · exact ⟨_, _, rfl⟩
  · exact ⟨_, _, rfl⟩
theorem walkExactCountPrimeWords (a b : Int) (w : World) (ha : (Lit.int .i64 a).wf = true) (hb : (Lit.int .i64 b).wf = true) :
    Calls Try.prog 5 #[.int .i64 a, .int .i64 b] w fun e w' => e = .returned (.bool true) ∧ Below w.heap.size w w' := by
  clear ha
  clear hb
  obtain ⟨x, o, hf⟩ := ansPc_form a b
  have Hf := Lib.hid hf
  clear hf
  go_enter Try.func5, Try.ntmps5
  go_wp2_with fail
  refine (specPc_any a b _).mono ?_
  rw [Hf.out]
  rintro e w1 ⟨rfl, b1⟩
  go_wp2_with fail
  refine (implPc_any a b _).mono ?_
  rw [Hf.out]
  rintro e w2 ⟨rfl, b2⟩
  go_wp2_with fail
  go_ret
  exact ⟨rfl, bel_trans b1 b2⟩
theorem pcW_all (n : Nat) (n1 : 1 ≤ n) (n2 : n ≤ 26) (L : Nat) (h1 : 1 ≤ L) (h8 : L ≤ 8) : -208830000000 ≤ pcW n L ∧ pcW n L ≤ 208830000000 := by
  have := (pcW_bnd n n1 n2 L h1 h8).1
  have := bnd_pos L
  omega
set_option maxRecDepth 100000 in
set_option maxHeartbeats 1600000 in
theorem specNk_any (a b : Int) (w : World) :
    Calls Try.prog 19 #[.int .i64 a, .int .i64 b] w fun e w' => e = .returned (ansNk a b) ∧ Below w.heap.size w w' := by
  cases h1 : loG a b
  · rw [show ansNk a b = .tuple #[.int .i64 0, .bool false] from by unfold ansNk; rw [h1]; rfl]
    go_enter Try.func19, Try.ntmps19
    go_wp2_with fail
    refine (woLong_any a b _).mono ?_
    rintro e w' ⟨rfl, rfl⟩
    rw [h1]
    go_wp2_with fail
    go_ret2
    exact ⟨rfl, Below.refl _ _⟩
  · obtain ⟨n, L, rfl, rfl, n1, n2, l1, l2⟩ := lo_nat h1
    rw [show ansNk n L = .tuple #[.int .i64 (nkS (pcW n) L L), .bool true] from by unfold ansNk; rw [h1]; rfl]
    go_enter Try.func19, Try.ntmps19
    go_wp2_with fail
    refine (woLong_any n L _).mono ?_
    rintro e w' ⟨rfl, rfl⟩
    rw [h1]
    clear h1
    go_wp2_with fail
    go_loop [6, 7] (fun x i => ∃ k : Nat, k ≤ L ∧ i = .int .i64 ((k : Int) + 1) ∧ x = .int .i64 (nkS (pcW n) L k)) (fun _ i => L + 1 - (intOf i).toNat)
    case atStart => exact ⟨0, by omega, rfl, rfl⟩
    case round =>
      obtain ⟨k, hk, rfl, rfl⟩ := hrel
      obtain ⟨x1, x2⟩ := nkS_bnd (g := pcW n) (L := L) (B := 208830000000) (by omega) k (fun j j1 j2 => pcW_all n n1 n2 j j1 (by omega))
      by_cases hlt : k < L
      · have hn0 : ¬ ((k : Int) + 1) = 0 := by omega
        have hnb : (((k : Int) + 1) == 0) = false := by simpa using hn0
        have htm : (L : Int).tmod ((k : Int) + 1) = ((L % (k + 1) : Nat) : Int) := rem_nat L (k + 1)
        have hem : (L : Int) % ((k : Int) + 1) = ((L % (k + 1) : Nat) : Int) := rfl
        have hm8 : L % (k + 1) ≤ 8 := Nat.le_trans (Nat.mod_le _ _) l2
        have hz : ((k : Int) + 1) ≤ (L : Int) := by omega
        have hnx : nkS (pcW n) L (k + 1) = nkS (pcW n) L k + (if L % (k + 1) = 0 then pcW n (k + 1) else 0) := rfl
        by_cases hq : L % (k + 1) = 0
        · rw [if_pos hq] at hnx
          rw [hq] at htm hem
          have hp := pcW_all n n1 n2 (k + 1) (by omega) (by omega)
          have Hnx := Lib.hid hnx
          have hw2 : IntKind.i64.wrap (nkS (pcW n) L k + pcW n (k + 1)) = nkS (pcW n) L k + pcW n (k + 1) := IntWalk.i64_in _ (by omega)
          clear hq hm8 hnx
          go_wp2_with fail
          refine (woPrimeCount_any n n1 n2 (k + 1) (by omega) (by omega) _).mono ?_
          rintro e w' ⟨rfl, rfl⟩
          go_wp2_with fail
          exact ⟨⟨k + 1, by omega, by go_num, by rw [Hnx.out]⟩, by simp [intOf]; omega⟩
        · rw [if_neg hq, Int.add_zero] at hnx
          have Hnx := Lib.hid hnx
          clear hnx
          generalize L % (k + 1) = q at *
          have hqz : ¬ (q : Int) = 0 := by omega
          have hqi : ((q : Int) == 0) = false := by simpa using hqz
          have hqb : (q == 0) = false := by simpa using hq
          have hw1 : IntKind.i64.wrap (q : Int) = (q : Int) := IntWalk.i64_in _ (by omega)
          go_wp2_with fail
          exact ⟨⟨k + 1, by omega, by go_num, by rw [Hnx.out]⟩, by simp [intOf]; omega⟩
      · obtain rfl : k = L := by omega
        have hz : ¬ ((k : Int) + 1) ≤ (k : Int) := by omega
        go_wp2_with fail
        go_ret2
        exact ⟨rfl, Below.refl _ _⟩
set_option maxRecDepth 100000 in
set_option maxHeartbeats 1600000 in
theorem implNk_any (a b : Int) (w : World) :
    Calls Try.prog 20 #[.int .i64 a, .int .i64 b] w fun e w' => e = .returned (ansNk a b) ∧ Below w.heap.size w w' := by
  cases h1 : loG a b
  · rw [show ansNk a b = .tuple #[.int .i64 0, .bool false] from by unfold ansNk; rw [h1]; rfl]
    go_enter Try.func20, Try.ntmps20
    go_wp2_with fail
    refine (areWords_any a b _).mono ?_
    rintro e w' ⟨rfl, rfl⟩
    rw [h1]
    go_wp2_with fail
    go_ret2
    exact ⟨rfl, Below.refl _ _⟩
  · obtain ⟨n, L, rfl, rfl, n1, n2, l1, l2⟩ := lo_nat h1
    rw [show ansNk n L = .tuple #[.int .i64 (nkS (pcW n) L L), .bool true] from by unfold ansNk; rw [h1]; rfl]
    have hfin : Hid (dvA (pcW n) (dvL L) (dvL L).length = nkS (pcW n) L L) := Lib.hid (dvA_sel (pcW n) L L)
    have hll := dvL_len L l1
    have hl8 := selR_len (dvp L) 1 (L - 1)
    go_enter Try.func20, Try.ntmps20
    go_wp2_with fail
    refine (areWords_any n L _).mono ?_
    rintro e w' ⟨rfl, rfl⟩
    rw [h1]
    clear h1
    go_wp2_with fail
    refine (divisors_any L _ l1 l2).mono ?_
    rintro e w1 ⟨v, rfl, r1, b1⟩
    rcases r1.form with ⟨hx, _⟩ | ⟨hx, g, cap, rfl, hbg, hgl, hlc, hcm⟩
    · rw [hx] at hll; simp at hll
    · have HI := Lib.hid r1
      clear r1
      unfold maxLen at hcm
      have hN8 : (dvL L).length ≤ 8 := by omega
      clear hll hl8
      generalize hN : (dvL L).length = N at *
      have HN := Lib.hid hN
      clear hN
      go_wp2_with fail
      go_loopw [6, 16] (fun x i wr => ∃ k : Nat, k ≤ N ∧ i = .int .i64 k ∧ x = .int .i64 (dvA (pcW n) (dvL L) k) ∧ Hid (IRow wr w.heap.size (.slice (some ⟨g, 0, none⟩) N cap) (dvL L)) ∧ Below w.heap.size w wr) (fun _ i _ => N - (intOf i).toNat)
      case atStart => exact ⟨0, by omega, rfl, rfl, HI, b1⟩
      case round =>
        obtain ⟨i, hi, rfl, rfl, hI, hbl⟩ := hrel
        obtain ⟨wa, rfl⟩ : ∃ wa : World, wa = wr := ⟨_, rfl⟩
        obtain ⟨x1, x2⟩ := dvA_bnd (g := pcW n) (ks := dvL L) (B := 208830000000) (fun j hj => by
          obtain ⟨k, e, k1, k2⟩ := dvL_in L j hj
          rw [e, Int.toNat_natCast]
          exact pcW_all n n1 n2 k k1 (by omega)) i (by rw [HN.out]; exact hi)
        by_cases hlt : i < N
        · obtain ⟨k, hk, k1, k2⟩ := dvL_in L i (by rw [HN.out]; exact hlt)
          have hrow := hI.out
          rw [← HN.out] at hrow
          have c0 := hrow.at_ i (by rw [HN.out]; exact hlt)
          rw [hk] at c0
          have Hnx := Lib.hid (dvA_next (pcW n) (dvL L) i k hk)
          have Hk := Lib.hid hk
          clear hrow hk
          have hp := pcW_all n n1 n2 k k1 (by omega)
          have hw2 : IntKind.i64.wrap (dvA (pcW n) (dvL L) i + pcW n k) = dvA (pcW n) (dvL L) i + pcW n k := IntWalk.i64_in _ (by omega)
          go_wp2_with fail
          refine (countPrimes_any n n1 n2 k k1 (by omega) _).mono ?_
          rintro e w5 ⟨rfl, b5⟩
          go_wp2_with fail
          exact ⟨⟨i + 1, by omega, by go_num, by rw [Hnx.out], hI.out.below b5, bel_trans hbl b5⟩, by simp [intOf]; omega⟩
        · obtain rfl : i = N := by omega
          go_wp2_with fail
          go_ret2
          exact ⟨by rw [← hfin.out]; rfl, hbl⟩
theorem walkExactCountNecklaces (a b : Int) (w : World) (ha : (Lit.int .i64 a).wf = true) (hb : (Lit.int .i64 b).wf = true) :
    Calls Try.prog 6 #[.int .i64 a, .int .i64 b] w fun e w' => e = .returned (.bool true) ∧ Below w.heap.size w w' := by
  clear ha
  clear hb
  obtain ⟨x, o, hf⟩ := ansNk_form a b
  have Hf := Lib.hid hf
  clear hf
  go_enter Try.func6, Try.ntmps6
  go_wp2_with fail
  refine (specNk_any a b _).mono ?_
  rw [Hf.out]
  rintro e w1 ⟨rfl, b1⟩
  go_wp2_with fail
  refine (implNk_any a b _).mono ?_
  rw [Hf.out]
  rintro e w2 ⟨rfl, b2⟩
  go_wp2_with fail
  go_ret
  exact ⟨rfl, bel_trans b1 b2⟩
end Go.Proofs.Ytiblggfihpobkab
