/- MeanWait: the contracts of the program and of its model. -/
import Derived.Test.YtdfjfojkheikiaaDoorPat
import Derived.Test.YtdfjfojkheikiaaDoorOvl
import Derived.Deep.QuietTactic
import Derived.BigQuiet
namespace Go.Proofs.YtdfjfojkheikiaaDoor
set_option linter.unusedSimpArgs false
open Go.ChangeShapes Go.WideShapes Go.ChangeAt Go.RowKit
set_option linter.unusedVariables false

set_option maxHeartbeats 400000 in
theorem cnLow_b18 (a b : Int) (w : World) (ha : 0 ≤ a) (hb : 1 ≤ b) (ha' : a ≤ 1000000000000000000) (hb' : b ≤ 1000000000000000000) :
    Calls Tryd.prog 36 #[.int .i64 a, .int .i64 b] w fun e w' => e = .returned (.tuple #[.int .i64 (low a a b), .int .i64 (low b a b)]) ∧ ∃ n, w' = w.drewN n := by
  obtain ⟨g1, p0, p1⟩ := low_le a a b ha hb
  obtain ⟨_, q0, q1⟩ := low_le b a b (by omega) hb
  unfold low
  generalize hg : (Int.gcd a b : Int) = g at *
  have Hg := Lib.hid hg
  clear hg
  go_enter Tryd.func36, Tryd.ntmps36
  go_wp2
  go_loopw [6, 7] (fun x y wr => ∃ p q : Int, 0 ≤ p ∧ 0 ≤ q ∧ Hid (Int.gcd p q = Int.gcd a b) ∧ x = .int .i64 p ∧ y = .int .i64 q ∧ ∃ n, wr = w.drewN n) (fun _ y _ => (intOf y).toNat)
  case atStart => exact ⟨a, b, ha, by omega, rfl, rfl, rfl, 0, rfl⟩
  case round =>
    obtain ⟨p, q, hp, hq, hk, rfl, rfl, n, rfl⟩ := hrel
    by_cases h0 : q = 0
    · subst h0
      have hpg : p = g := by
        have h1 := hk.out
        have h2 := Hg.out
        simp at h1
        rw [← h2, ← h1]
        omega
      subst hpg
      clear hk Hg
      go_wp2
      go_quiet (fail)
      go_wp2
      go_ret2
      exact ⟨rfl, _, World.drewN_drewN _ _ _⟩
    · have h2 : 0 < q := by omega
      go_wp2
      go_quiet (fail)
      go_wp2
      have hm := Int.emod_nonneg p h0
      have hl := Int.emod_lt_of_pos p h2
      exact ⟨⟨q, p % q, hq, hm, (gcd_step p q hp h2).trans hk.out, rfl, rfl, n + _, World.drewN_drewN _ _ _⟩, by simp [intOf]; omega⟩

def term (h o : Int) (s : ByteArray) (k : Nat) : Int := o ^ k * prA h o (s.extract k s.size)
/-- The sum over the first i numbers of signs. -/
def waitI (h o : Int) (s : ByteArray) (ks : List Int) : Nat → Int
  | 0 => 0
  | i + 1 => waitI h o s ks i + term h o s (ks.getD i 0).toNat
def overL (s : ByteArray) : List Int := selR (ovlB s) 1 (s.size - 1) ++ [(s.size : Int)]
theorem overL_len (s : ByteArray) (h1 : 1 ≤ s.size) : (overL s).length ≤ s.size := by
  unfold overL
  have := selR_len (ovlB s) 1 (s.size - 1)
  simp
  omega
theorem overL_in (s : ByteArray) (h1 : 1 ≤ s.size) (i : Nat) (hi : i < (overL s).length) : ∃ k : Nat, (overL s).getD i 0 = k ∧ 1 ≤ k ∧ k ≤ s.size := by
  have hm : (overL s).getD i 0 ∈ overL s := by rw [List.getD_eq_getElem?_getD, List.getElem?_eq_getElem hi]; exact List.getElem_mem _
  unfold overL at hm
  rw [List.mem_append] at hm
  rcases hm with hm | hm
  · obtain ⟨k, e, l, u⟩ := selR_mem _ _ _ _ hm
    exact ⟨k, e, l, by omega⟩
  · rw [List.mem_singleton] at hm
    exact ⟨s.size, hm, h1, Nat.le_refl _⟩
theorem ext_in {h o : Int} (g : coinG h o = true) (s : ByteArray) (i j : Nat) (hj : j ≤ s.size) (h8 : j - i ≤ 8) : 1 ≤ prA h o (s.extract i j) ∧ prA h o (s.extract i j) ≤ 10 ^ (j - i) := by
  obtain ⟨a, b, c, d⟩ := coin_in g
  unfold prA
  rw [ext_size s i j hj]
  exact prK_in h o _ _ a b d
theorem term_in {h o : Int} (g : coinG h o = true) (s : ByteArray) (k : Nat) (hk : k ≤ s.size) (h8 : s.size ≤ 8) : 1 ≤ term h o s k ∧ term h o s k ≤ 100000000 := by
  obtain ⟨a, b, c, d⟩ := coin_in g
  obtain ⟨p0, p1⟩ := pow_tn o (by omega) d k
  obtain ⟨q0, q1⟩ := ext_in g s k s.size (Nat.le_refl _) (by omega)
  unfold term
  constructor
  · have := Int.mul_le_mul p0 q0 (by omega) (by omega); omega
  · have h1 := Int.mul_le_mul p1 q1 (by omega) (by omega)
    rw [← Int.pow_add, show k + (s.size - k) = s.size from by omega] at h1
    exact Int.le_trans h1 (ten_le8 _ h8)
theorem waitI_in {h o : Int} (g : coinG h o = true) (s : ByteArray) (h1 : 1 ≤ s.size) (h8 : s.size ≤ 8) : ∀ i, i ≤ (overL s).length → 0 ≤ waitI h o s (overL s) i ∧ waitI h o s (overL s) i ≤ 100000000 * i
  | 0, _ => by simp [waitI]
  | i + 1, hi => by
    obtain ⟨a, b⟩ := waitI_in g s h1 h8 i (by omega)
    obtain ⟨k, e, k1, k2⟩ := overL_in s h1 i (by omega)
    obtain ⟨c, d⟩ := term_in g s k k2 h8
    unfold waitI
    rw [e, show ((k : Int)).toNat = k from rfl]
    omega
theorem allT_ext (s : ByteArray) (i j : Nat) (h : allT s = true) : allT (s.extract i j) = true := by
  unfold allT at *
  rw [List.all_eq_true] at *
  intro x hx
  rw [ext_list] at hx
  exact h x (List.mem_of_mem_take (List.mem_of_mem_drop hx))

theorem wait_next {h o : Int} (g : coinG h o = true) (s : ByteArray) (h1 : 1 ≤ s.size) (h8 : s.size ≤ 8) (i k : Nat) (hi : i < (overL s).length) (e : (overL s).getD i 0 = (k : Int)) (k1 : 1 ≤ k) (k2 : k ≤ s.size) :
    let S := waitI h o s (overL s) i; let P := prA h o s; let n := prA h o (s.extract 0 k)
    let u := low S S P * low n n (o ^ k) + low (o ^ k) n (o ^ k) * low P S P
    let v := low P S P * low n n (o ^ k)
    low u u v = low (waitI h o s (overL s) (i + 1)) (waitI h o s (overL s) (i + 1)) P ∧ low v u v = low P (waitI h o s (overL s) (i + 1)) P ∧ 0 ≤ low S S P * low n n (o ^ k) ∧ 0 ≤ low (o ^ k) n (o ^ k) * low P S P ∧ 1 ≤ v ∧ u ≤ 1000000000000000000 ∧ v ≤ 1000000000000000000 := by
  intro S P n u v
  obtain ⟨a, b, c, d⟩ := coin_in g
  obtain ⟨s0, s1⟩ := waitI_in g s h1 h8 i (by omega)
  have hl := overL_len s h1
  obtain ⟨n0, n1⟩ := ext_in g s 0 k k2 (by omega)
  obtain ⟨r0, r1⟩ := ext_in g s k s.size (Nat.le_refl _) (by omega)
  obtain ⟨q0, q1⟩ := pow_le8 o (by omega) d k (by omega)
  obtain ⟨p0, p1⟩ := prK_le8 g s s.size h8
  have n2 := Int.le_trans n1 (ten_le8 _ (by omega))
  have hst := wait_step S P n (prA h o (s.extract k s.size)) (o ^ k) s0 n0 r0 q0 (prA_split h o s k k2).symm
  have hw : waitI h o s (overL s) (i + 1) = S + o ^ k * prA h o (s.extract k s.size) := by
    show waitI h o s (overL s) i + term h o s ((overL s).getD i 0).toNat = _
    rw [e]; rfl
  rw [hw]
  have a0 := low_pos n (o ^ k) n0 q0
  have b0 := low_pos2 n (o ^ k) (by omega) q0
  have v0 := low_pos2 S P s0 p0
  have u0 : 0 ≤ S / (Int.gcd S P : Int) := Int.ediv_nonneg s0 (by omega)
  have u1 : S / (Int.gcd S P : Int) ≤ S := Int.ediv_le_self _ s0
  have m1 : 0 ≤ (S / (Int.gcd S P : Int)) * (n / (Int.gcd n (o ^ k) : Int)) := Int.mul_nonneg u0 (by omega)
  have m2 : 0 ≤ (o ^ k / (Int.gcd n (o ^ k) : Int)) * (P / (Int.gcd S P : Int)) := Int.mul_nonneg (by omega) (by omega)
  have hS : S ≤ 800000000 := by show waitI h o s (overL s) i ≤ _; omega
  have hP : P ≤ 100000000 := p1
  have m3 : (S / (Int.gcd S P : Int)) * (n / (Int.gcd n (o ^ k) : Int)) ≤ 800000000 * 100000000 := Int.mul_le_mul (by omega) (by omega) (by omega) (by omega)
  have m4 : (o ^ k / (Int.gcd n (o ^ k) : Int)) * (P / (Int.gcd S P : Int)) ≤ 100000000 * 100000000 := Int.mul_le_mul (by omega) (by omega) (by omega) (by omega)
  have m5 : (P / (Int.gcd S P : Int)) * (n / (Int.gcd n (o ^ k) : Int)) ≤ 100000000 * 100000000 := Int.mul_le_mul (by omega) (by omega) (by omega) (by omega)
  have m6 : 0 < (P / (Int.gcd S P : Int)) * (n / (Int.gcd n (o ^ k) : Int)) := Int.mul_pos (by omega) (by omega)
  refine ⟨hst.1, hst.2, m1, m2, m6, ?_, ?_⟩
  · show (S / (Int.gcd S P : Int)) * (n / (Int.gcd n (o ^ k) : Int)) + (o ^ k / (Int.gcd n (o ^ k) : Int)) * (P / (Int.gcd S P : Int)) ≤ _
    omega
  · show (P / (Int.gcd S P : Int)) * (n / (Int.gcd n (o ^ k) : Int)) ≤ _
    omega
theorem ptChance_pre (h o : Int) (s : ByteArray) (k : Nat) (w : World) (g : coinG h o = true) (ha : allT s = true) (h8 : s.size ≤ 8) (hk : k ≤ s.size) :
    Calls Tryd.prog 37 #[cn h o, .string (s.extract 0 k)] w fun e w' => e = .returned (.tuple #[.int .i64 (prA h o (s.extract 0 k)), .int .i64 (o ^ k)]) ∧ Below w.heap.size w w' := by
  have he := ext_size s 0 k hk
  have hc := ptChance_any h o (s.extract 0 k) w g (allT_ext s 0 k ha) (by omega)
  rw [he] at hc
  exact hc
theorem low_zero (P : Int) (hP : 1 ≤ P) : low 0 0 P = 0 ∧ low P 0 P = 1 := by
  unfold low
  constructor
  · simp
  · rw [Int.gcd_zero_left]
    have : ((P.natAbs : Nat) : Int) = P := by omega
    rw [this]
    exact Int.ediv_self (by omega)

set_option maxRecDepth 100000 in
set_option maxHeartbeats 3200000 in
theorem specWait_any (h o : Int) (s : ByteArray) (w : World) (g : coinG h o = true) (ha : allT s = true) (h1 : 1 ≤ s.size) (h8 : s.size ≤ 8) :
    Calls Tryd.prog 26 #[cn h o, .string s] w fun e w' => e = .returned (.tuple #[.int .i64 (low (waitI h o s (overL s) (overL s).length) (waitI h o s (overL s) (overL s).length) (prA h o s)), .int .i64 (low (prA h o s) (waitI h o s (overL s) (overL s).length) (prA h o s))]) ∧ Below w.heap.size w w' := by
  have bx0 := Lib.hid (Box2.new w (.int .i64 h) (.int .i64 o) 45)
  have bl0 : Below w.heap.size w (w.alloc (.cells #[.int .i64 h, .int .i64 o] 45)) := bel_alloc (Below.refl _ _) _
  have G := Lib.hid g
  have HA := Lib.hid ha
  obtain ⟨l0, l1⟩ := low_zero (prA h o s) (prK_le8 g s s.size h8).1
  have hl := overL_len s h1
  have hl1 : 1 ≤ (overL s).length := by unfold overL; simp
  have hlo := selR_len (ovlB s) 1 (s.size - 1)
  have hzz : w.heap.size < (w.alloc (.cells #[.int .i64 h, .int .i64 o] 45)).heap.size := bx0.out.2.2
  obtain ⟨Bz, hBz⟩ : ∃ n, n = (w.alloc (.cells #[.int .i64 h, .int .i64 o] 45)).heap.size := ⟨_, rfl⟩
  have HBz := Lib.hid hBz
  clear g ha hBz hzz
  go_enter Tryd.func26, Tryd.ntmps26
  go_wp2_with fail
  refine (specOvl_any s _ h1 h8).mono ?_
  rintro e w1 ⟨v, rfl, r1, b1⟩
  have hb1s := b1.size
  rw [← HBz.out] at b1 hb1s r1
  have R1 := Lib.hid r1
  clear r1
  go_wp2_with (at_builtin; refine wpList_push1 rfl (.tmp 13) (.tmp 16) rfl _ _ _ R1.out (by omega) hb1s (s.size : Int) rfl rfl ?_)
  intro v' w2 hI2 hb2
  have hI2' : IRow w2 Bz v' (overL s) := hI2
  rcases hI2'.form with ⟨hx, _⟩ | ⟨hx, gb, cap, rfl, hbg, hgl, hlc, hcm⟩
  · rw [hx] at hl1; simp at hl1
  · have HI := Lib.hid hI2'
    have hb12 := b1.trans hb2
    have bx2 := Lib.hid (bx0.out.keep (HBz.out ▸ hb12))
    have bl2 := Lib.hid (bel_trans bl0 (HBz.out ▸ hb12))
    unfold maxLen at hcm
    clear hI2 hI2' hb12 hb2 b1 R1
    generalize hN : (overL s).length = N at *
    have HN := Lib.hid hN
    clear hN
    go_wp2_with fail
    go_loopw [6, 7, 19] (fun x y i wr => ∃ k : Nat, k ≤ N ∧ i = .int .i64 k ∧ x = .int .i64 (low (waitI h o s (overL s) k) (waitI h o s (overL s) k) (prA h o s)) ∧ y = .int .i64 (low (prA h o s) (waitI h o s (overL s) k) (prA h o s)) ∧ Below w2.heap.size w2 wr) (fun _ _ i _ => N - (intOf i).toNat)
    case atStart => exact ⟨0, by omega, rfl, by rw [show waitI h o s (overL s) 0 = 0 from rfl, l0], by rw [show waitI h o s (overL s) 0 = 0 from rfl, l1], Below.refl _ _⟩
    case round =>
      obtain ⟨i, hi, rfl, rfl, rfl, hb⟩ := hrel
      obtain ⟨wa, rfl⟩ : ∃ wa : World, wa = wr := ⟨_, rfl⟩
      by_cases hlt : i < N
      · obtain ⟨k, hk, k1, k2⟩ := overL_in s h1 i (by rw [HN.out]; exact hlt)
        have hrow := HI.out.below hb
        rw [← HN.out] at hrow
        have c0 := hrow.at_ i (by rw [HN.out]; exact hlt)
        rw [hk] at c0
        obtain ⟨d0, d1, d2⟩ := bx2.out.keep hb
        obtain ⟨x1, x2, x3, x3b, x4, x5, x6⟩ := wait_next G.out s h1 h8 i k (by rw [HN.out]; exact hlt) hk k1 k2
        have X1 := Lib.hid x1
        have X2 := Lib.hid x2
        have he := ext_size s 0 k k2
        have He := Lib.hid he
        have Hk := Lib.hid hk
        clear x1 x2 hrow hk he
        obtain ⟨n0, n1⟩ := ext_in G.out s 0 k k2 (by omega)
        have n2 := Int.le_trans n1 (ten_le8 _ (by omega))
        obtain ⟨e1, e2, e3, e4⟩ := coin_in G.out
        obtain ⟨q0, q1⟩ := pow_le8 o (by omega) e4 k (by omega)
        have bxa := Lib.hid (bx2.out.keep hb)
        have hki : (k : Int) ≤ (s.size : Int) := by omega
        clear n1 e1 e2 e3 e4
        go_wp2_with fail
        go_region_held3 (fun w' => w'.cell? ⟨w.heap.size, 0, none⟩ = some (.int .i64 h) ∧ w'.cell? ⟨w.heap.size, 1, none⟩ = some (.int .i64 o) ∧ w.heap.size < w'.heap.size ∧ Below w2.heap.size w2 w')
          (first | exact held2_start bxa.out hb | exact held2_keep (by assumption) hb5 | exact held2_drewN (by assumption) _ | assumption | go_keep)
          (first | (go_at_call 37; refine (ptChance_pre h o s k _ G.out HA.out h8 k2).mono ?_; rintro e w5 ⟨rfl, hb5⟩) | (go_at_call 36; refine (cnLow_any (prA h o (s.extract 0 k)) (o ^ k) _ (by omega) q0 (by omega) (by omega)).mono ?_; rintro e w6 ⟨rfl, n6, rfl⟩))
        all_goals
          obtain ⟨hbx9, hbl9⟩ := held2_below (by assumption)
          have Hbl := Lib.hid hbl9
          clear hbx9 hbl9
          go_wp2_with fail
          refine (cnLow_b18 _ _ _ (by omega) x4 x5 x6).mono ?_
          rintro e w7 ⟨rfl, n7, rfl⟩
          rw [X1.out, X2.out]
          go_wp2_with fail
          exact ⟨⟨i + 1, by omega, by go_num, rfl, rfl, by have q := bel_drewN Hbl.out n7; rwa [World.drewN_drewN] at q⟩, by simp [intOf]; omega⟩
      · have hin : i = N := by omega
        have Hin := Lib.hid hin
        clear hin
        go_wp2_with fail
        go_ret2
        exact ⟨by rw [Hin.out, ← HN.out]; rfl, bel_trans bl2.out hb⟩

/-- The sum, as the program tells it. -/
def ansWt (h o : Int) (s : ByteArray) : Value := if coinG h o && patG s then lowV (waitI h o s (overL s) (overL s).length) (prA h o s) else failV
theorem ansWt_form (h o : Int) (s : ByteArray) : ∃ (x y : Int) (ok : Bool), ansWt h o s = .tuple #[.int .i64 x, .int .i64 y, .bool ok] := if_form _ (lowV_form _ _) failV_form

set_option maxRecDepth 100000 in
set_option maxHeartbeats 3200000 in
theorem implMW_any (h o : Int) (s : ByteArray) (w : World) (hs : s.size ≤ maxLen) :
    Calls Tryd.prog 28 #[cn h o, .string s] w fun e w' => e = .returned (ansWt h o s) ∧ Below w.heap.size w w' := by
  have bx0 := Lib.hid (Box2.new w (.int .i64 h) (.int .i64 o) 45)
  have bl0 : Below w.heap.size w (w.alloc (.cells #[.int .i64 h, .int .i64 o] 45)) := bel_alloc (Below.refl _ _) _
  cases h1 : (coinG h o && patG s)
  · rw [show ansWt h o s = failV from by unfold ansWt; rw [h1]; rfl]
    unfold failV
    go_enter Tryd.func28, Tryd.ntmps28
    go_wp2_with fail
    refine (isTossed_any h o s _ hs).mono ?_
    rintro e w1 ⟨rfl, hb1⟩
    rw [h1]
    have bl1 := bel_trans bl0 hb1
    go_wp2_with fail
    go_ret3
    exact ⟨rfl, bl1⟩
  · rw [show ansWt h o s = lowV (waitI h o s (overL s) (overL s).length) (prA h o s) from by unfold ansWt; rw [h1]; rfl]
    unfold lowV
    obtain ⟨g1, g2, g3, g4⟩ := both_in h1
    have G := Lib.hid g1
    have hl := overL_len s g2
    have hl1 : 1 ≤ (overL s).length := by unfold overL; simp
    have hlo := selR_len (ovlB s) 1 (s.size - 1)
    clear g1
    go_enter Tryd.func28, Tryd.ntmps28
    go_wp2_with fail
    refine (isTossed_any h o s _ hs).mono ?_
    rintro e wz ⟨rfl, hbz⟩
    rw [h1]
    have bxz := Lib.hid (bx0.out.keep hbz)
    have blz := bel_trans bl0 hbz
    obtain ⟨Bz, hBz⟩ : ∃ n, n = wz.heap.size := ⟨_, rfl⟩
    have HBz := Lib.hid hBz
    clear hBz h1
    go_wp2_with fail
    refine (implOvl_any s _ g2 g3).mono ?_
    rintro e w1 ⟨v, rfl, r1, b1⟩
    have hb1s := b1.size
    rw [← HBz.out] at b1 hb1s r1
    have R1 := Lib.hid r1
    clear r1
    go_wp2_with (at_builtin; refine wpList_push1 rfl (.tmp 15) (.tmp 18) rfl _ _ _ R1.out (by omega) hb1s (s.size : Int) rfl rfl ?_)
    intro v' w2 hI2 hb2
    have hI2' : IRow w2 Bz v' (overL s) := hI2
    rcases hI2'.form with ⟨hx, _⟩ | ⟨hx, gb, cap, rfl, hbg, hgl, hlc, hcm⟩
    · rw [hx] at hl1; simp at hl1
    · have HI := Lib.hid hI2'
      have hb12 := b1.trans hb2
      have bx2 := Lib.hid (bxz.out.keep (HBz.out ▸ hb12))
      have bl2 := Lib.hid (bel_trans blz (HBz.out ▸ hb12))
      unfold maxLen at hcm
      clear hI2 hI2' hb12 hb2 b1 R1
      generalize hN : (overL s).length = N at *
      have HN := Lib.hid hN
      clear hN
      go_wp2_with fail
      go_loopw [7, 21] (fun x i wr => ∃ k : Nat, k ≤ N ∧ i = .int .i64 k ∧ x = .int .i64 (waitI h o s (overL s) k) ∧ Below w2.heap.size w2 wr) (fun _ i _ => N - (intOf i).toNat)
      case atStart => exact ⟨0, by omega, rfl, rfl, Below.refl _ _⟩
      case round =>
        obtain ⟨i, hi, rfl, rfl, hb⟩ := hrel
        obtain ⟨wa, rfl⟩ : ∃ wa : World, wa = wr := ⟨_, rfl⟩
        have bxa := Lib.hid (bx2.out.keep hb)
        have bla := Lib.hid (bel_trans bl2.out hb)
        by_cases hlt : i < N
        · obtain ⟨k, hk, k1, k2⟩ := overL_in s g2 i (by rw [HN.out]; exact hlt)
          have hrow := HI.out.below hb
          rw [← HN.out] at hrow
          have c0 := hrow.at_ i (by rw [HN.out]; exact hlt)
          rw [hk] at c0
          have hnx : Hid (waitI h o s (overL s) (i + 1) = waitI h o s (overL s) i + o ^ k * prA h o (s.extract k s.size)) := by
            refine Lib.hid ?_
            show waitI h o s (overL s) i + term h o s ((overL s).getD i 0).toNat = _
            rw [hk]; rfl
          obtain ⟨s0, s1⟩ := waitI_in G.out s g2 g3 i (by rw [HN.out]; omega)
          obtain ⟨t0, t1⟩ := term_in G.out s k k2 g3
          unfold term at t0 t1
          obtain ⟨e1, e2, e3, e4⟩ := coin_in G.out
          have hsz : Hid ((s.extract k s.size).size ≤ 8) := by refine Lib.hid ?_; rw [ext_size _ _ _ (Nat.le_refl _)]; omega
          have hki : (k : Int) ≤ (s.size : Int) := by omega
          have hw1 : IntKind.i64.wrap (o ^ k * prA h o (s.extract k s.size)) = o ^ k * prA h o (s.extract k s.size) := IntWalk.i64_in _ (by omega)
          have hw2 : IntKind.i64.wrap (waitI h o s (overL s) i + o ^ k * prA h o (s.extract k s.size)) = waitI h o s (overL s) i + o ^ k * prA h o (s.extract k s.size) := IntWalk.i64_in _ (by omega)
          have Hk := Lib.hid hk
          clear hrow hk
          go_wp2_with fail
          go_region_held3 (fun w' => w'.cell? ⟨w.heap.size, 0, none⟩ = some (.int .i64 h) ∧ w'.cell? ⟨w.heap.size, 1, none⟩ = some (.int .i64 o) ∧ w.heap.size < w'.heap.size ∧ Below w2.heap.size w2 w')
            (first | exact held2_start bxa.out hb | exact held2_keep (by assumption) hb5 | exact held2_drewN (by assumption) _ | assumption | go_keep)
            (first | (go_at_call 41; refine (part_any h o (s.extract k s.size) _ G.out hsz.out).mono ?_; rintro e w5 ⟨rfl, hb5⟩) | (go_at_call 40; refine (power_any o k _ (by omega) e4 (by omega)).mono ?_; rintro e w6 ⟨rfl, rfl⟩))
          all_goals
            obtain ⟨hbx9, hbl9⟩ := held2_below (by assumption)
            have Hbl := Lib.hid hbl9
            clear hbx9 hbl9
            go_wp2_with fail
            exact ⟨⟨i + 1, by omega, by go_num, by rw [hnx.out], Hbl.out⟩, by simp [intOf]; omega⟩
        · have hin : i = N := by omega
          obtain ⟨s0, s1⟩ := waitI_in G.out s g2 g3 i (by rw [HN.out]; omega)
          obtain ⟨p0, p1⟩ := prK_le8 G.out s s.size g3
          have Hin := Lib.hid hin
          change 1 ≤ prA h o s at p0
          change prA h o s ≤ _ at p1
          have hwN : waitI h o s (overL s) i ≤ 1000000000000 := by omega
          clear hin s1
          obtain ⟨d0, d1, d2⟩ := bxa.out
          go_wp2_with fail
          refine (part_any h o s _ G.out g3).mono ?_
          rintro e w5 ⟨rfl, hb5⟩
          go_wp2_with fail
          refine (told_any (waitI h o s (overL s) i) (prA h o s) _ s0 p0 hwN (by omega)).mono ?_
          rintro e w6 ⟨rfl, n6, rfl⟩
          go_wp2_with fail
          go_ret3
          exact ⟨by rw [Hin.out, ← HN.out]; rfl, bel_drewN (bel_trans bla.out hb5) n6⟩
end Go.Proofs.YtdfjfojkheikiaaDoor
