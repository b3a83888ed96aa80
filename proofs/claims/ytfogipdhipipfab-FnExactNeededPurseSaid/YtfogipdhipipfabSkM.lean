/- NeededPurse: the contracts of the program and of its model, and the walk. -/
import Derived.Test.YtfogipdhipipfabSkI
namespace Go.Proofs.Ytfogipdhipipfab
set_option linter.unusedSimpArgs false
open Go.ChangeShapes Go.WideShapes Go.ChangeAt Go.RowKit
set_option linter.unusedVariables false

/-- The first number from s on, of r of them. -/
def npS (c : Nat → Bool) : Nat → Nat → Option Nat
  | 0, _ => none
  | r + 1, s => if c s then some s else npS c r (s + 1)
def npC (H T G : Nat) (a b : Int) (P : Nat) : Bool := decide (a * gsI H T G G ≤ gsI H T G P * b)
def npG (h o g a b : Int) : Bool := coinG h o && (inB g 1 16 && (inB a 0 1000 && inB b 1 1000))
def npV : Option Nat → Value
  | some P => .tuple #[.int .i64 (P : Int), .bool true]
  | none => .tuple #[.int .i64 0, .bool false]
def ansNP (h o g a b : Int) : Value := if npG h o g a b then npV (npS (npC h.toNat (o - h).toNat g.toNat a b) (g.toNat + 1) 0) else fail1
theorem npV_form (x : Option Nat) : ∃ (n : Int) (o : Bool), npV x = .tuple #[.int .i64 n, .bool o] := by
  cases x
  · exact ⟨0, false, rfl⟩
  · exact ⟨_, true, rfl⟩
theorem ansNP_form (h o g a b : Int) : ∃ (x : Int) (ok : Bool), ansNP h o g a b = .tuple #[.int .i64 x, .bool ok] := if_form1 _ (npV_form _) ⟨0, false, rfl⟩
theorem ansNP_no {h o g a b : Int} (x : npG h o g a b = false) : ansNP h o g a b = .tuple #[.int .i64 0, .bool false] := by unfold ansNP; rw [x]; rfl
theorem ansNP_yes {H T G : Nat} {o a b : Int} (x : npG H o G a b = true) (hT : o - (H : Int) = (T : Int)) : ansNP H o G a b = npV (npS (npC H T G a b) (G + 1) 0) := by
  unfold ansNP
  rw [x, hT]
  simp
theorem npS_yes {c : Nat → Bool} {r s : Nat} (h : c s = true) : npS c (r + 1) s = some s := by rw [npS, if_pos h]
theorem npS_no {c : Nat → Bool} {r s : Nat} (h : c s = false) : npS c (r + 1) s = npS c r (s + 1) := by rw [npS, if_neg (by rw [h]; simp)]
theorem np_nat {h o g a b : Int} (x : npG h o g a b = true) : coinG h o = true ∧ 0 ≤ a ∧ a ≤ 1000 ∧ 1 ≤ b ∧ b ≤ 1000 ∧ ∃ H T G : Nat, h = H ∧ o - h = T ∧ g = G ∧ 1 ≤ H ∧ 1 ≤ T ∧ H + T ≤ 10 ∧ 1 ≤ G ∧ G ≤ 16 := by
  unfold npG at x
  rw [Bool.and_eq_true, Bool.and_eq_true, Bool.and_eq_true, inB_iff, inB_iff, inB_iff] at x
  obtain ⟨x1, x2, x3, x4⟩ := x
  obtain ⟨r1, r2, r3, r4⟩ := coin_in x1
  exact ⟨x1, x3.1, x3.2, x4.1, x4.2, h.toNat, (o - h).toNat, g.toNat, by omega, by omega, by omega, by omega, by omega, by omega, by omega, by omega⟩
/-- A fraction in lowest terms is at least another one, reckoned by small numbers. -/
theorem least_eq {a b n d X Y : Int} (hb : 1 ≤ b) (hab : a ≤ b) (hn : 0 ≤ n) (hd : 1 ≤ d) (hY : 1 ≤ Y) (hc : X * b = a * Y) :
    (if d < n then false else decide (n * (b / d) + (n * (b % d) + d - 1) / d ≤ a)) = decide (n * Y ≤ X * d) := by
  have key : n * Y ≤ X * d ↔ n * b ≤ a * d := by
    have e1 : X * d * b = a * d * Y := by rw [Int.mul_right_comm, hc, Int.mul_right_comm]
    have e2 : n * Y * b = n * b * Y := Int.mul_right_comm _ _ _
    constructor
    · intro h
      have := Int.mul_le_mul_of_nonneg_right h (show 0 ≤ b by omega)
      rw [e1, e2] at this
      exact Int.le_of_mul_le_mul_right this (by omega)
    · intro h
      have := Int.mul_le_mul_of_nonneg_right h (show 0 ≤ Y by omega)
      rw [← e1, ← e2] at this
      exact Int.le_of_mul_le_mul_right this (by omega)
  by_cases hdn : d < n
  · rw [if_pos hdn]
    symm
    rw [decide_eq_false_iff_not, key]
    have h1 := Int.mul_le_mul_of_nonneg_right hab (show 0 ≤ d by omega)
    have h2 := Int.mul_lt_mul_of_pos_left hdn (show 0 < b by omega)
    rw [Int.mul_comm n b]
    omega
  · rw [if_neg hdn]
    congr 1
    rw [eq_iff_iff, key]
    have hq := Int.mul_ediv_add_emod b d
    have hr0 := Int.emod_nonneg b (show d ≠ 0 by omega)
    generalize b / d = q at *
    generalize b % d = r at *
    have hnb : n * b = n * q * d + n * r := by rw [← hq, Int.mul_add, ← Int.mul_assoc, Int.mul_right_comm]
    have hm0 := Int.mul_nonneg hn hr0
    rw [hnb]
    generalize n * q = Q at *
    generalize n * r = R at *
    have hu := Int.mul_ediv_add_emod (R + d - 1) d
    have hv0 := Int.emod_nonneg (R + d - 1) (show d ≠ 0 by omega)
    have hv1 := Int.emod_lt_of_pos (R + d - 1) (show 0 < d by omega)
    generalize (R + d - 1) / d = u at *
    generalize (R + d - 1) % d = v at *
    rw [Int.mul_comm d u] at hu
    constructor
    · intro h
      have := Int.mul_le_mul_of_nonneg_right h (show 0 ≤ d by omega)
      rw [Int.add_mul] at this
      omega
    · intro h
      have h3 : (u - 1) * d < (a - Q) * d := by
        rw [Int.sub_mul, Int.sub_mul]
        omega
      have := Int.lt_of_mul_lt_mul_right h3 (show 0 ≤ d by omega)
      omega
theorem np_cross (X Y : Int) (hX : 0 ≤ X) (hY : 1 ≤ Y) : X * low Y X Y = low X X Y * Y := by
  have g1 : ((Int.gcd X Y : Nat) : Int) ∣ X := Int.gcd_dvd_left ..
  have g2 : ((Int.gcd X Y : Nat) : Int) ∣ Y := Int.gcd_dvd_right ..
  unfold low
  generalize ((Int.gcd X Y : Nat) : Int) = g at *
  obtain ⟨x, rfl⟩ := g1
  obtain ⟨y, rfl⟩ := g2
  have hg : g ≠ 0 := by rintro rfl; simp at hY
  rw [Int.mul_ediv_cancel_left _ hg, Int.mul_ediv_cancel_left _ hg, Int.mul_comm g x, Int.mul_assoc]
set_option maxRecDepth 100000 in
set_option maxHeartbeats 3200000 in
theorem skAtLeast_any (a b n d : Int) (w : World) (ha : 0 ≤ a) (hb : 1 ≤ b) (hb2 : b ≤ 240000000000000) (hn : 0 ≤ n) (hn2 : n ≤ 1000) (hd : 1 ≤ d) (hd2 : d ≤ 1000) :
    Calls Try.prog 40 #[.int .i64 a, .int .i64 b, .int .i64 n, .int .i64 d] w fun e w' => e = .returned (.bool (if d < n then false else decide (n * (b / d) + (n * (b % d) + d - 1) / d ≤ a))) ∧ ∃ q, w' = w.drewN q := by
  by_cases h : d < n
  · rw [if_pos h]
    go_enter Try.func40, Try.ntmps40
    go_wp2
    go_ret
    exact ⟨rfl, 0, rfl⟩
  · rw [if_neg h]
    have hq0 := Int.ediv_nonneg (show 0 ≤ b by omega) (show 0 ≤ d by omega)
    have hq1 := Int.ediv_le_self (a := b) d (show 0 ≤ b by omega)
    have hr0 := Int.emod_nonneg b (show d ≠ 0 by omega)
    have hr1 := Int.emod_lt_of_pos b (show 0 < d by omega)
    have m0 := Int.mul_nonneg hn hq0
    have m1 := Int.mul_le_mul hn2 hq1 hq0 (by omega)
    have m2 := Int.mul_nonneg hn hr0
    have m3 := Int.mul_le_mul hn2 (show b % d ≤ 1000 by omega) hr0 (by omega)
    have hw1 : IntKind.i64.wrap (n * (b / d)) = n * (b / d) := IntWalk.i64_in _ (by omega)
    have hw2 : IntKind.i64.wrap (n * (b % d)) = n * (b % d) := IntWalk.i64_in _ (by omega)
    have hw3 : IntKind.i64.wrap (n * (b % d) + d) = n * (b % d) + d := IntWalk.i64_in _ (by omega)
    have hw4 : IntKind.i64.wrap (n * (b % d) + d - 1) = n * (b % d) + d - 1 := IntWalk.i64_in _ (by omega)
    have hu0 := Int.ediv_nonneg (show 0 ≤ n * (b % d) + d - 1 by omega) (show 0 ≤ d by omega)
    have hu1 := Int.ediv_le_self (a := n * (b % d) + d - 1) d (by omega)
    have hp : 0 ≤ n * (b % d) + d - 1 := by omega
    have hd0 : ¬ d = 0 := by omega
    have hw5 : IntKind.i64.wrap ((n * (b % d) + d - 1) / d) = (n * (b % d) + d - 1) / d := IntWalk.i64_in _ (by omega)
    have hw6 : IntKind.i64.wrap (b / d) = b / d := IntWalk.i64_in _ (by omega)
    have hw7 : IntKind.i64.wrap (n * (b / d) + (n * (b % d) + d - 1) / d) = n * (b / d) + (n * (b % d) + d - 1) / d := IntWalk.i64_in _ (by omega)
    go_enter Try.func40, Try.ntmps40
    go_wp2_with fail
    go_quiet (fail)
    go_wp2_with fail
    go_ret
    exact ⟨rfl, _, rfl⟩

set_option maxRecDepth 100000 in
set_option maxHeartbeats 3200000 in
theorem specNP_any (h o g a b : Int) (w : World) :
    Calls Try.prog 12 #[cn h o, .int .i64 g, .int .i64 a, .int .i64 b] w fun e w' => e = .returned (ansNP h o g a b) ∧ Below w.heap.size w w' := by
  have bx0 := Lib.hid (Box2.new w (.int .i64 h) (.int .i64 o) 32)
  have bl0 := Lib.hid (bel_alloc (Below.refl _ w) (.cells #[.int .i64 h, .int .i64 o] 32))
  cases h1 : coinG h o
  · skip
    rw [ansNP_no (show npG h o g a b = false from by unfold npG; simp [h1])]
    go_enter Try.func12, Try.ntmps12
    go_wp2_with fail
    refine (ptCoin_any _ _ _).mono ?_
    rintro e w1 ⟨rfl, hb1⟩
    rw [h1]
    have bx1 := Lib.hid (bx0.out.keep hb1)
    have bl1 := Lib.hid (bel_trans bl0.out hb1)
    clear hb1
    go_wp2_with fail
    go_ret2
    exact ⟨rfl, bl1.out⟩
  · cases h2 : inB g 1 16
    · have hs2 : skG 0 g = false := by unfold skG; rw [h2]; rfl
      rw [ansNP_no (show npG h o g a b = false from by unfold npG; simp [h1, h2])]
      go_enter Try.func12, Try.ntmps12
      go_wp2_with fail
      refine (ptCoin_any _ _ _).mono ?_
      rintro e w1 ⟨rfl, hb1⟩
      rw [h1]
      have bx1 := Lib.hid (bx0.out.keep hb1)
      have bl1 := Lib.hid (bel_trans bl0.out hb1)
      clear hb1
      go_wp2_with fail
      refine (l1In_any _ _ _ _).mono ?_
      rintro e w2 ⟨rfl, rfl⟩
      rw [h2]
      go_wp2_with fail
      go_ret2
      exact ⟨rfl, bl1.out⟩
    · have hs2 : skG 0 g = true := by unfold skG; rw [h2]; have := (inB_iff _ _ _).1 h2; simp [inB]; omega
      cases h3 : inB a 0 1000
      · skip
        rw [ansNP_no (show npG h o g a b = false from by unfold npG; simp [h1, h2, h3])]
        go_enter Try.func12, Try.ntmps12
        go_wp2_with fail
        refine (ptCoin_any _ _ _).mono ?_
        rintro e w1 ⟨rfl, hb1⟩
        rw [h1]
        have bx1 := Lib.hid (bx0.out.keep hb1)
        have bl1 := Lib.hid (bel_trans bl0.out hb1)
        clear hb1
        go_wp2_with fail
        refine (l1In_any _ _ _ _).mono ?_
        rintro e w2 ⟨rfl, rfl⟩
        rw [h2]
        go_wp2_with fail
        refine (l1In_any _ _ _ _).mono ?_
        rintro e w3 ⟨rfl, rfl⟩
        rw [h3]
        go_wp2_with fail
        go_ret2
        exact ⟨rfl, bl1.out⟩
      · cases h4 : inB b 1 1000
        · skip
          rw [ansNP_no (show npG h o g a b = false from by unfold npG; simp [h1, h2, h3, h4])]
          go_enter Try.func12, Try.ntmps12
          go_wp2_with fail
          refine (ptCoin_any _ _ _).mono ?_
          rintro e w1 ⟨rfl, hb1⟩
          rw [h1]
          have bx1 := Lib.hid (bx0.out.keep hb1)
          have bl1 := Lib.hid (bel_trans bl0.out hb1)
          clear hb1
          go_wp2_with fail
          refine (l1In_any _ _ _ _).mono ?_
          rintro e w2 ⟨rfl, rfl⟩
          rw [h2]
          go_wp2_with fail
          refine (l1In_any _ _ _ _).mono ?_
          rintro e w3 ⟨rfl, rfl⟩
          rw [h3]
          go_wp2_with fail
          refine (l1In_any _ _ _ _).mono ?_
          rintro e w4 ⟨rfl, rfl⟩
          rw [h4]
          go_wp2_with fail
          go_ret2
          exact ⟨rfl, bl1.out⟩
        · have hg : npG h o g a b = true := by unfold npG; rw [h1, h2, h3, h4]; rfl
          obtain ⟨_, a0, a1, b0, b1, H, T, G, rfl, hT, rfl, H1, T1, HT, G1, G16⟩ := np_nat hg
          rw [ansNP_yes hg hT]
          obtain ⟨q3, q4⟩ := gsI_in H1 T1 HT G1 G16 G (Nat.le_refl _)
          have hYp := (chkG_at H1 T1 HT G1 G16 (Nat.zero_le G)).2.1
          obtain ⟨R, hR⟩ : ∃ R, R = npS (npC H T G a b) (G + 1) 0 := ⟨_, rfl⟩
          rw [← hR]
          have HR := Lib.hid hR
          clear hR
          have hgo := Lib.hid (fun k hk W => skGoal_any H T G k o W hT H1 T1 HT G1 G16 hk)
          clear hT
          go_enter Try.func12, Try.ntmps12
          go_wp2_with fail
          refine (ptCoin_any _ _ _).mono ?_
          rintro e w1 ⟨rfl, hb1⟩
          rw [h1]
          have bx1 := Lib.hid (bx0.out.keep hb1)
          have bl1 := Lib.hid (bel_trans bl0.out hb1)
          clear hb1
          go_wp2_with fail
          refine (l1In_any _ _ _ _).mono ?_
          rintro e w2 ⟨rfl, rfl⟩
          rw [h2]
          go_wp2_with fail
          refine (l1In_any _ _ _ _).mono ?_
          rintro e w3 ⟨rfl, rfl⟩
          rw [h3]
          go_wp2_with fail
          refine (l1In_any _ _ _ _).mono ?_
          rintro e w4 ⟨rfl, rfl⟩
          rw [h4]
          go_wp2_with fail
          go_loopw [10] (fun x wr => ∃ k : Nat, k ≤ G + 1 ∧ x = .int .i64 k ∧ Hid (R = npS (npC H T G a b) (G + 1 - k) k) ∧ Hid (Below w1.heap.size w1 wr)) (fun x _ => G + 1 - (intOf x).toNat)
          case atStart => exact ⟨0, by omega, rfl, HR, Lib.hid (Below.refl _ _)⟩
          case round =>
            obtain ⟨k, hk, rfl, hf, hbk⟩ := hrel
            obtain ⟨wa, rfl⟩ : ∃ wa : World, wa = wr := ⟨_, rfl⟩
            obtain ⟨cc0, cd0, ck0⟩ := bx1.out.keep hbk.out
            by_cases hkl : k < G + 1
            · obtain ⟨k1, k2, k3, k4, k5, k6, k7, k8, k9, k10, k11⟩ := chkG_at H1 T1 HT G1 G16 (show k ≤ G by omega)
              obtain ⟨z0, z1⟩ := gsI_in H1 T1 HT G1 G16 k (by omega)
              have hle := least_eq (a := sg1 H T G k) (b := sg2 H T G k) (n := a) (d := b) (X := gsI H T G k) (Y := gsI H T G G) k10 k5 a0 b0 k2 (by rw [k3, k4]; exact np_cross _ _ z0 k2)
              have hal := Lib.hid (fun W => skAtLeast_any (sg1 H T G k) (sg2 H T G k) a b W k9 k10 k11 a0 a1 b0 b1)
              rw [hle] at hal
              have hki : (k : Int) ≤ (G : Int) := by omega
              have hgk := Lib.hid (hgo.out k (by omega))
              have hsuc : Hid (G + 1 - k = (G + 1 - (k + 1)) + 1) := Lib.hid (by omega)
              rw [hsuc.out] at hf
              clear k1 k2 k3 k4 k5 k6 k7 k8 k9 k10 k11 z0 z1 hle
              generalize sg1 H T G k = n1 at *
              generalize sg2 H T G k = d1 at *
              by_cases hc : a * gsI H T G G ≤ gsI H T G k * b
              · rw [npS_yes (show npC H T G a b k = true from decide_eq_true hc)] at hf
                have HZ := Lib.hid hf.out
                rw [decide_eq_true hc] at hal
                clear hf hc
                go_wp2_with fail
                refine (hgk.out _).mono ?_
                rintro e w5 ⟨rfl, hb5⟩
                go_wp2_with fail
                refine (hal.out _).mono ?_
                rintro e w6 ⟨rfl, n6, rfl⟩
                go_wp2_with fail
                go_ret2
                exact ⟨by rw [HZ.out]; rfl, bel_drewN (bel_trans (bel_trans bl1.out hbk.out) hb5) _⟩
              · rw [npS_no (show npC H T G a b k = false from decide_eq_false hc)] at hf
                rw [decide_eq_false hc] at hal
                clear hc
                go_wp2_with fail
                refine (hgk.out _).mono ?_
                rintro e w5 ⟨rfl, hb5⟩
                have HB5 := Lib.hid (bel_trans hbk.out hb5)
                clear hb5
                go_wp2_with fail
                refine (hal.out _).mono ?_
                rintro e w6 ⟨rfl, n6, rfl⟩
                have HB6 := Lib.hid (bel_drewN HB5.out n6)
                go_wp2_with fail
                exact ⟨⟨k + 1, by omega, by go_num, hf, HB6⟩, by simp [intOf]; omega⟩
            · have hki : ¬ (k : Int) ≤ (G : Int) := by omega
              have hz : R = none := by rw [hf.out, show G + 1 - k = 0 from by omega]; rfl
              have HZ := Lib.hid hz
              clear hz hf hk hkl
              go_wp2_with fail
              go_ret2
              exact ⟨by rw [HZ.out]; rfl, bel_trans bl1.out hbk.out⟩

set_option maxRecDepth 100000 in
set_option maxHeartbeats 3200000 in
theorem implNP_any (h o g a b : Int) (w : World) :
    Calls Try.prog 14 #[cn h o, .int .i64 g, .int .i64 a, .int .i64 b] w fun e w' => e = .returned (ansNP h o g a b) ∧ Below w.heap.size w w' := by
  have bx0 := Lib.hid (Box2.new w (.int .i64 h) (.int .i64 o) 32)
  have bl0 := Lib.hid (bel_alloc (Below.refl _ w) (.cells #[.int .i64 h, .int .i64 o] 32))
  cases h1 : coinG h o
  · skip
    rw [ansNP_no (show npG h o g a b = false from by unfold npG; simp [h1])]
    go_enter Try.func14, Try.ntmps14
    go_wp2_with fail
    refine (implIsCoin_any _ _ _).mono ?_
    rintro e w1 ⟨rfl, hb1⟩
    rw [h1]
    have bx1 := Lib.hid (bx0.out.keep hb1)
    have bl1 := Lib.hid (bel_trans bl0.out hb1)
    clear hb1
    go_wp2_with fail
    go_ret2
    exact ⟨rfl, bl1.out⟩
  · cases h2 : inB g 1 16
    · have hs2 : skG 0 g = false := by unfold skG; rw [h2]; rfl
      rw [ansNP_no (show npG h o g a b = false from by unfold npG; simp [h1, h2])]
      go_enter Try.func14, Try.ntmps14
      go_wp2_with fail
      refine (implIsCoin_any _ _ _).mono ?_
      rintro e w1 ⟨rfl, hb1⟩
      rw [h1]
      have bx1 := Lib.hid (bx0.out.keep hb1)
      have bl1 := Lib.hid (bel_trans bl0.out hb1)
      clear hb1
      go_wp2_with fail
      refine (implAreStakes_any _ _ _).mono ?_
      rintro e w2 ⟨rfl, hb2⟩
      rw [hs2]
      have bx2 := Lib.hid (bx1.out.keep hb2)
      have bl2 := Lib.hid (bel_trans bl1.out hb2)
      clear hb2
      go_wp2_with fail
      go_ret2
      exact ⟨rfl, bl2.out⟩
    · have hs2 : skG 0 g = true := by unfold skG; rw [h2]; have := (inB_iff _ _ _).1 h2; simp [inB]; omega
      cases h3 : inB a 0 1000
      · skip
        rw [ansNP_no (show npG h o g a b = false from by unfold npG; simp [h1, h2, h3])]
        go_enter Try.func14, Try.ntmps14
        go_wp2_with fail
        refine (implIsCoin_any _ _ _).mono ?_
        rintro e w1 ⟨rfl, hb1⟩
        rw [h1]
        have bx1 := Lib.hid (bx0.out.keep hb1)
        have bl1 := Lib.hid (bel_trans bl0.out hb1)
        clear hb1
        go_wp2_with fail
        refine (implAreStakes_any _ _ _).mono ?_
        rintro e w2 ⟨rfl, hb2⟩
        rw [hs2]
        have bx2 := Lib.hid (bx1.out.keep hb2)
        have bl2 := Lib.hid (bel_trans bl1.out hb2)
        clear hb2
        go_wp2_with fail
        refine (isUpTo_any _ _ _).mono ?_
        rintro e w3 ⟨rfl, rfl⟩
        rw [h3]
        go_wp2_with fail
        go_ret2
        exact ⟨rfl, bl2.out⟩
      · cases h4 : inB b 1 1000
        · by_cases hb1 : b < 1
          · skip
            rw [ansNP_no (show npG h o g a b = false from by unfold npG; simp [h1, h2, h3, h4])]
            go_enter Try.func14, Try.ntmps14
            go_wp2_with fail
            refine (implIsCoin_any _ _ _).mono ?_
            rintro e w1 ⟨rfl, hb1⟩
            rw [h1]
            have bx1 := Lib.hid (bx0.out.keep hb1)
            have bl1 := Lib.hid (bel_trans bl0.out hb1)
            clear hb1
            go_wp2_with fail
            refine (implAreStakes_any _ _ _).mono ?_
            rintro e w2 ⟨rfl, hb2⟩
            rw [hs2]
            have bx2 := Lib.hid (bx1.out.keep hb2)
            have bl2 := Lib.hid (bel_trans bl1.out hb2)
            clear hb2
            go_wp2_with fail
            refine (isUpTo_any _ _ _).mono ?_
            rintro e w3 ⟨rfl, rfl⟩
            rw [h3]
            go_wp2_with fail
            go_ret2
            exact ⟨rfl, bl2.out⟩
          · have hb3 : ¬ (1 ≤ b ∧ b ≤ 1000) := fun q => by rw [(inB_iff _ _ _).2 q] at h4; cases h4
            have hb2 : 1000 < b := by omega
            clear hb3
            rw [ansNP_no (show npG h o g a b = false from by unfold npG; simp [h1, h2, h3, h4])]
            go_enter Try.func14, Try.ntmps14
            go_wp2_with fail
            refine (implIsCoin_any _ _ _).mono ?_
            rintro e w1 ⟨rfl, hb1⟩
            rw [h1]
            have bx1 := Lib.hid (bx0.out.keep hb1)
            have bl1 := Lib.hid (bel_trans bl0.out hb1)
            clear hb1
            go_wp2_with fail
            refine (implAreStakes_any _ _ _).mono ?_
            rintro e w2 ⟨rfl, hb2⟩
            rw [hs2]
            have bx2 := Lib.hid (bx1.out.keep hb2)
            have bl2 := Lib.hid (bel_trans bl1.out hb2)
            clear hb2
            go_wp2_with fail
            refine (isUpTo_any _ _ _).mono ?_
            rintro e w3 ⟨rfl, rfl⟩
            rw [h3]
            go_wp2_with fail
            go_ret2
            exact ⟨rfl, bl2.out⟩
        · have hg : npG h o g a b = true := by unfold npG; rw [h1, h2, h3, h4]; rfl
          obtain ⟨_, a0, a1, b0, b1, H, T, G, rfl, hT, rfl, H1, T1, HT, G1, G16⟩ := np_nat hg
          rw [ansNP_yes hg hT]
          obtain ⟨q3, q4⟩ := gsI_in H1 T1 HT G1 G16 G (Nat.le_refl _)
          have hYp := (chkG_at H1 T1 HT G1 G16 (Nat.zero_le G)).2.1
          obtain ⟨R, hR⟩ : ∃ R, R = npS (npC H T G a b) (G + 1) 0 := ⟨_, rfl⟩
          rw [← hR]
          have HR := Lib.hid hR
          clear hR
          have hgp := Lib.hid (fun W => goalParts_any H T G o W h1 hT G1 G16)
          have hnb : ¬ b < 1 := by omega
          have hnb2 : ¬ 1000 < b := by omega
          have hGw : IntKind.i64.wrap ((G : Int) + 1) = (G : Int) + 1 := IntWalk.i64_in _ (by omega)
          clear hT
          go_enter Try.func14, Try.ntmps14
          go_wp2_with fail
          refine (implIsCoin_any _ _ _).mono ?_
          rintro e w1 ⟨rfl, hb1⟩
          rw [h1]
          have bx1 := Lib.hid (bx0.out.keep hb1)
          have bl1 := Lib.hid (bel_trans bl0.out hb1)
          clear hb1
          go_wp2_with fail
          refine (implAreStakes_any _ _ _).mono ?_
          rintro e w2 ⟨rfl, hb2⟩
          rw [hs2]
          have bx2 := Lib.hid (bx1.out.keep hb2)
          have bl2 := Lib.hid (bel_trans bl1.out hb2)
          clear hb2
          go_wp2_with fail
          refine (isUpTo_any _ _ _).mono ?_
          rintro e w3 ⟨rfl, rfl⟩
          rw [h3]
          obtain ⟨cc0, cd0, ck0⟩ := bx2.out
          go_wp2_with fail
          refine (hgp.out _).mono ?_
          rintro e w3 ⟨rfl, hb3⟩
          have bl4 := Lib.hid (bel_alloc (bel_trans bl2.out hb3) (.cells (iN 17 (gpA H T G G)) 64))
          have hr := Lib.hid (heap_alloc_new w3 (.cells (iN 17 (gpA H T G G)) 64))
          clear hb3
          go_wp2_with (first
            | (refine wpList_alloc_row rfl 64 rfl (iN 17 noI) (pu_zero _) ?_)
            | (refine wpList_store_new (k := w3.heap.size) (c' := iN 17 (gpA H T G G)) rfl 64 (.tmp 10) (.tmp 36) rfl rfl ?_ ?_ (by rw [iN_size]; exact pu_info) (by rw [iN_size, iN_size]) (iN_one _ _) ?_; (· simp [Act.put, Act.eval]); (· simp [Act.put, Act.eval])))
          generalize w3.alloc (.cells (iN 17 (gpA H T G G)) 64) = w4 at *
          go_loopw [39] (fun x wr => ∃ k : Nat, k ≤ G + 1 ∧ x = .int .i64 k ∧ Hid (R = npS (npC H T G a b) (G + 1 - k) k) ∧ ∃ q, wr = w4.drewN q) (fun x _ => G + 1 - (intOf x).toNat)
          case atStart => exact ⟨0, by omega, rfl, HR, 0, rfl⟩
          case round =>
            obtain ⟨k, hk, rfl, hf, q, hwr⟩ := hrel
            obtain ⟨wa, rfl⟩ : ∃ wa : World, wa = wr := ⟨_, rfl⟩
            by_cases hkl : k < G + 1
            · have hrw : wa.heap[w3.heap.size]? = some (.cells (iN 17 (gpA H T G G)) 64) := by rw [hwr]; exact hr.out
              have HW := Lib.hid hwr
              have x0 := cell_heap hrw (iN_get 17 (gpA H T G G) k (by omega))
              have x1 := cell_heap hrw (iN_get 17 (gpA H T G G) G (by omega))
              rw [gpA_at H T G G k (by omega)] at x0
              rw [gpA_at H T G G G (Nat.le_refl _)] at x1
              obtain ⟨z0, z1⟩ := gsI_in H1 T1 HT G1 G16 k (by omega)
              have m0 := Int.mul_nonneg z0 (show (0 : Int) ≤ b by omega)
              have m1 := Int.mul_le_mul z1 b1 (by omega) (by omega)
              have m2 := Int.mul_nonneg a0 q3
              have m3 := Int.mul_le_mul a1 q4 q3 (by omega)
              have hw1 : IntKind.i64.wrap (gsI H T G k * b) = gsI H T G k * b := IntWalk.i64_in _ (by omega)
              have hw2 : IntKind.i64.wrap (a * gsI H T G G) = a * gsI H T G G := IntWalk.i64_in _ (by omega)
              have hki : (k : Int) < (G : Int) + 1 := by omega
              have hk17 : (k : Int) < 17 := by omega
              have hG17 : (G : Int) < 17 := by omega
              have hsuc : Hid (G + 1 - k = (G + 1 - (k + 1)) + 1) := Lib.hid (by omega)
              rw [hsuc.out] at hf
              clear hrw m0 m1 m2 m3 hwr
              by_cases hc : a * gsI H T G G ≤ gsI H T G k * b
              · rw [npS_yes (show npC H T G a b k = true from decide_eq_true hc)] at hf
                have HZ := Lib.hid hf.out
                clear hf
                generalize gsI H T G k = X at *
                generalize gsI H T G G = Y at *
                go_wp2_with fail
                go_quiet (fail)
                go_wp2_with fail
                go_ret2
                exact ⟨by rw [HZ.out]; rfl, bel_drewN (by rw [HW.out]; exact bel_drewN bl4.out _) _⟩
              · rw [npS_no (show npC H T G a b k = false from decide_eq_false hc)] at hf
                have hc2 : gsI H T G k * b < a * gsI H T G G := by omega
                generalize gsI H T G k = X at *
                generalize gsI H T G G = Y at *
                go_wp2_with fail
                go_quiet (fail)
                go_wp2_with fail
                exact ⟨⟨k + 1, by omega, by go_num, hf, q + _, by rw [HW.out, World.drewN_drewN]⟩, by simp [intOf]; omega⟩
            · have hki : ¬ (k : Int) < (G : Int) + 1 := by omega
              have hz : R = none := by rw [hf.out, show G + 1 - k = 0 from by omega]; rfl
              have HZ := Lib.hid hz
              have HW := Lib.hid hwr
              clear hwr hz hf hk hkl
              go_wp2_with fail
              go_ret2
              exact ⟨by rw [HZ.out]; rfl, by rw [HW.out]; exact bel_drewN bl4.out _⟩

set_option maxRecDepth 100000 in
set_option maxHeartbeats 3200000 in
theorem walkExactNeededPurse (h o g a b : Int) (w : World) (zh : (Lit.int .i64 h).wf = true) (zo : (Lit.int .i64 o).wf = true) (zg : (Lit.int .i64 g).wf = true) (za : (Lit.int .i64 a).wf = true) (zb : (Lit.int .i64 b).wf = true) :
    Calls Try.prog 4 #[cn h o, .int .i64 g, .int .i64 a, .int .i64 b] w fun e w' => e = .returned (.bool true) ∧ Below w.heap.size w w' := by
  clear zh zo zg za zb
  obtain ⟨x, ok, hv⟩ := ansNP_form h o g a b
  have Hv := Lib.hid hv
  clear hv
  have hbA0 := bel_alloc (Below.refl _ w) (.cells #[.int .i64 h, .int .i64 o] 30)
  have bc_0 := Lib.hid (Box2.new w (.int .i64 h) (.int .i64 o) 30)
  have bl_0 := Lib.hid hbA0
  clear hbA0
  go_enter Try.func4, Try.ntmps4
  obtain ⟨cc0_0, cc1_0, kc_0⟩ := bc_0.out
  go_wp2_with fail
  refine (toCoin_any _ _ _).mono ?_
  rintro e w1 ⟨rfl, hb⟩
  have bc_1 := Lib.hid (bc_0.out.keep hb)
  have bl_1 := Lib.hid (bel_trans bl_0.out hb)
  clear hb
  obtain ⟨cc0_1, cc1_1, kc_1⟩ := bc_1.out
  go_wp2_with fail
  refine (specNP_any h o g a b _).mono ?_
  rintro e w2 ⟨rfl, hb⟩
  rw [Hv.out]
  have bc_2 := Lib.hid (bc_1.out.keep hb)
  have bl_2 := Lib.hid (bel_trans bl_1.out hb)
  clear hb
  obtain ⟨cc0_2, cc1_2, kc_2⟩ := bc_2.out
  go_wp2_with fail
  refine (toCoin_any _ _ _).mono ?_
  rintro e w3 ⟨rfl, hb⟩
  have bc_3 := Lib.hid (bc_2.out.keep hb)
  have bl_3 := Lib.hid (bel_trans bl_2.out hb)
  clear hb
  obtain ⟨cc0_3, cc1_3, kc_3⟩ := bc_3.out
  go_wp2_with fail
  refine (implNP_any h o g a b _).mono ?_
  rintro e w4 ⟨rfl, hb⟩
  rw [Hv.out]
  have bc_4 := Lib.hid (bc_3.out.keep hb)
  have bl_4 := Lib.hid (bel_trans bl_3.out hb)
  clear hb
  obtain ⟨cc0_4, cc1_4, kc_4⟩ := bc_4.out
  go_wp2_with fail
  go_ret
  exact ⟨rfl, bl_4.out⟩

end Go.Proofs.Ytfogipdhipipfab
