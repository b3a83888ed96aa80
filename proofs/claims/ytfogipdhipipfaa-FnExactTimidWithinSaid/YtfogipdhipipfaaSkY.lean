/- BoldWithin, TimidWithin, MostWithin: the contracts of the program. -/
import Derived.Test.YtfogipdhipipfaaSkX
import Derived.Test.YtfogipdhipipfaaSkI
import Derived.Test.YtfogipdhipipfaaSkE
namespace Go.Proofs.Ytfogipdhipipfaa
set_option linter.unusedSimpArgs false
open Go.ChangeShapes Go.WideShapes Go.ChangeAt Go.RowKit
set_option linter.unusedVariables false

def wiQ (h o p g n : Int) : Bool := coinG h o && cpG p g 6 n
def ansWI (kind : Nat) (h o p g n : Int) : Value := if wiQ h o p g n then lowV (wP h (o - h) kind g.toNat n.toNat p.toNat) (pwI o.toNat n.toNat) else failV
theorem ansWI_form (kind : Nat) (h o p g n : Int) : ∃ (x y : Int) (ok : Bool), ansWI kind h o p g n = .tuple #[.int .i64 x, .int .i64 y, .bool ok] := if_form _ (lowV_form _ _) failV_form
theorem ansWI_no {kind : Nat} {h o p g n : Int} (a : wiQ h o p g n = false) : ansWI kind h o p g n = .tuple #[.int .i64 0, .int .i64 0, .bool false] := by unfold ansWI; rw [a]; rfl
theorem ansWI_yes {kind H O G P N : Nat} {T : Int} (a : wiQ H O P G N = true) (hT : (O : Int) - (H : Int) = T) : ansWI kind H O P G N = .tuple #[.int .i64 (low (wP H T kind G N P) (wP H T kind G N P) (pwI O N)), .int .i64 (low (pwI O N) (wP H T kind G N P) (pwI O N)), .bool true] := by
  unfold ansWI
  rw [a, hT]
  simp only [Int.toNat_natCast]
  rfl
theorem wi_nat {h o p g n : Int} (a : wiQ h o p g n = true) : coinG h o = true ∧ cpG p g 6 n = true ∧ ∃ H O G P N : Nat, h = H ∧ o = O ∧ g = G ∧ p = P ∧ n = N ∧ 1 ≤ H ∧ H < O ∧ O ≤ 10 ∧ 1 ≤ G ∧ G ≤ 16 ∧ P ≤ G ∧ N ≤ 6 := by
  unfold wiQ at a
  rw [Bool.and_eq_true] at a
  obtain ⟨r1, r2, r3, r4⟩ := coin_in a.1
  obtain ⟨hs, n0, n1⟩ := cp_in a.2
  obtain ⟨g0, g1, p0, p1⟩ := sk_in hs
  exact ⟨a.1, a.2, h.toNat, o.toNat, g.toNat, p.toNat, n.toNat, by omega, by omega, by omega, by omega, by omega, by omega, by omega, by omega, by omega, by omega, by omega, by omega⟩
theorem lo_td (q G : Nat) (hq : q ≤ G) : td (q : Int) (G : Int) = ((min 1 (bdN q G) : Nat) : Int) ∧ bd (q : Int) (G : Int) = ((bdN q G : Nat) : Int) := by
  have e : bd (q : Int) (G : Int) = ((bdN q G : Nat) : Int) := by unfold bd bdN; split <;> omega
  refine ⟨?_, e⟩
  unfold td
  rw [e]
  split <;> omega
theorem wP_bd {H T : Int} {O : Nat} (kind G n q : Nat) (h0 : 0 ≤ H) (t0 : 0 ≤ T) (ho : H + T = O) : wP H T kind G n q ≤ pwI O n := by
  have := (wP_in kind h0 t0 G n q).2
  rw [ho] at this
  unfold pwI
  rw [Int.natCast_pow]
  exact this
theorem pwI_pos (O n : Nat) (h : 1 ≤ O) : 1 ≤ pwI O n := by
  unfold pwI
  have := Nat.pow_pos (n := n) (show 0 < O by omega)
  omega
set_option maxRecDepth 100000 in
set_option maxHeartbeats 3200000 in
theorem toldWithin_any (lf mf : Nat) (kind : Nat) (h o p g n : Int) (w : World)
    (egl : ∀ args w, (callFunc lf args).run Try.prog w = .ok (.enter lf args) w) (egm : ∀ args w, (callFunc mf args).run Try.prog w = .ok (.enter mf args) w)
    (hlo : ∀ G q : Nat, 1 ≤ G → G ≤ 16 → q ≤ G → ∀ W : World, Calls Try.prog lf #[sk q G] W fun e w' => e = .returned (.int .i64 (loN kind q G)) ∧ Below W.heap.size W w')
    (hhi : ∀ G q : Nat, 1 ≤ G → G ≤ 16 → q ≤ G → ∀ W : World, Calls Try.prog mf #[sk q G] W fun e w' => e = .returned (.int .i64 (hiN kind q G)) ∧ Below W.heap.size W w') :
    Calls Try.prog 58 #[cn h o, sk p g, .int .i64 n, .func (.func lf) #[] #[], .func (.func mf) #[] #[]] w fun e w' => e = .returned (ansWI kind h o p g n) ∧ Below w.heap.size w w' := by
  cases hc : wiQ h o p g n
  · rw [ansWI_no hc]
    clear egl egm hlo hhi
    have bc0 := Lib.hid ((Box2.new w (.int .i64 h) (.int .i64 o) 32).keep (bel_alloc (Below.refl _ (w.alloc (.cells #[.int .i64 h, .int .i64 o] 32))) (.cells #[.int .i64 p, .int .i64 g] 25)))
    have bs0 := Lib.hid (Box2.new (w.alloc (.cells #[.int .i64 h, .int .i64 o] 32)) (.int .i64 p) (.int .i64 g) 25)
    have bl0 := Lib.hid (bel_trans (bel_alloc (Below.refl _ w) (.cells #[.int .i64 h, .int .i64 o] 32)) (bel_alloc (Below.refl _ (w.alloc (.cells #[.int .i64 h, .int .i64 o] 32))) (.cells #[.int .i64 p, .int .i64 g] 25)))
    rw [← size1] at bs0
    obtain ⟨cc0, cd0, ck0⟩ := bc0.out
    obtain ⟨cs0, ct0, cl0⟩ := bs0.out
    cases h1 : coinG h o
    · go_enter Try.func58, Try.ntmps58
      go_wp2_with fail
      refine (implIsCoin_any _ _ _).mono ?_
      rintro e w1 ⟨rfl, hb1⟩
      rw [h1]
      go_wp2_with fail
      go_ret3
      exact ⟨rfl, bel_trans bl0.out hb1⟩
    · have h2 : cpG p g 6 n = false := by unfold wiQ at hc; rw [h1] at hc; exact hc
      go_enter Try.func58, Try.ntmps58
      go_wp2_with fail
      refine (implIsCoin_any _ _ _).mono ?_
      rintro e w1 ⟨rfl, hb1⟩
      rw [h1]
      have bc1 := Lib.hid (bc0.out.keep hb1)
      have bs1 := Lib.hid (bs0.out.keep hb1)
      have bl1 := Lib.hid (bel_trans bl0.out hb1)
      clear hb1
      obtain ⟨cc1, cd1, ck1⟩ := bc1.out
      obtain ⟨cs1, ct1, cl1⟩ := bs1.out
      go_wp2_with fail
      refine (arePlays_any _ _ _ _ _).mono ?_
      rintro e w2 ⟨rfl, hb2⟩
      rw [h2]
      go_wp2_with fail
      go_ret3
      exact ⟨rfl, bel_trans bl1.out hb2⟩
  · obtain ⟨hc1, hc2, H, O, G, P, N, rfl, rfl, rfl, rfl, rfl, h1, h2, h3, h4, h5, h6, h7⟩ := wi_nat hc
    obtain ⟨T, hT⟩ : ∃ T : Int, (O : Int) - (H : Int) = T := ⟨_, rfl⟩
    rw [ansWI_yes hc hT]
    have bc0 := Lib.hid ((Box2.new w (.int .i64 (H : Int)) (.int .i64 (O : Int)) 32).keep (bel_alloc (Below.refl _ (w.alloc (.cells #[.int .i64 (H : Int), .int .i64 (O : Int)] 32))) (.cells #[.int .i64 (P : Int), .int .i64 (G : Int)] 25)))
    have bs0 := Lib.hid (Box2.new (w.alloc (.cells #[.int .i64 (H : Int), .int .i64 (O : Int)] 32)) (.int .i64 (P : Int)) (.int .i64 (G : Int)) 25)
    have bl0 := Lib.hid (bel_trans (bel_alloc (Below.refl _ w) (.cells #[.int .i64 (H : Int), .int .i64 (O : Int)] 32)) (bel_alloc (Below.refl _ (w.alloc (.cells #[.int .i64 (H : Int), .int .i64 (O : Int)] 32))) (.cells #[.int .i64 (P : Int), .int .i64 (G : Int)] 25)))
    rw [← size1] at bs0
    obtain ⟨cc0, cd0, ck0⟩ := bc0.out
    obtain ⟨cs0, ct0, cl0⟩ := bs0.out
    have hwi := Lib.hid (fun W => within_any lf mf kind (H : Int) T (O : Int) G N W hc1 hT h4 h5 h7 egl egm (fun q hq W => hlo G q h4 h5 hq W) (fun q hq W => hhi G q h4 h5 hq W))
    have hpo := Lib.hid (fun W => powerN_any O N W (by omega) (by omega) (by omega))
    have hb0 := (wP_in (H := (H : Int)) (T := T) kind (by omega) (by omega) G N P).1
    have hb1 := wP_bd (H := (H : Int)) (T := T) (O := O) kind G N P (by omega) (by omega) (by omega)
    have hb2 := pwI_pos O N (by omega)
    have hb3 := (pwI_in O h3 N (by omega)).2
    have htl := Lib.hid (fun W => told_big (wP H T kind G N P) (pwI O N) W hb0 hb2 (by omega) (by omega))
    have hix := fun W => pu_idx (wP H T kind G N) W P (by omega)
    clear egl egm hlo hhi hT hb0 hb1 hb2 hb3
    generalize wP H T kind G N = F at *
    generalize pwI O N = Z at *
    have b17 : (P : Int) < 17 := by omega
    generalize hL1 : low (F P) (F P) Z = L1 at *
    generalize hL2 : low Z (F P) Z = L2 at *
    clear hL1 hL2
    obtain ⟨fp, hfp⟩ : ∃ fp, fp = F P := ⟨_, rfl⟩
    rw [← hfp] at hix htl
    clear hfp
    go_enter Try.func58, Try.ntmps58
    go_wp2_with fail
    refine (implIsCoin_any _ _ _).mono ?_
    rintro e w1 ⟨rfl, hb1⟩
    rw [hc1]
    have bc1 := Lib.hid (bc0.out.keep hb1)
    have bs1 := Lib.hid (bs0.out.keep hb1)
    have bl1 := Lib.hid (bel_trans bl0.out hb1)
    clear hb1
    obtain ⟨cc1, cd1, ck1⟩ := bc1.out
    obtain ⟨cs1, ct1, cl1⟩ := bs1.out
    go_wp2_with fail
    refine (arePlays_any _ _ _ _ _).mono ?_
    rintro e w2 ⟨rfl, hb2⟩
    rw [hc2]
    have bc2 := Lib.hid (bc1.out.keep hb2)
    have bs2 := Lib.hid (bs1.out.keep hb2)
    have bl2 := Lib.hid (bel_trans bl1.out hb2)
    clear hb2
    obtain ⟨cc2, cd2, ck2⟩ := bc2.out
    obtain ⟨cs2, ct2, cl2⟩ := bs2.out
    go_wp2_with fail
    go_region_held3 (fun w' => w'.cell? ⟨w.heap.size, 0, none⟩ = some (.int .i64 (H : Int)) ∧ w'.cell? ⟨w.heap.size, 1, none⟩ = some (.int .i64 (O : Int)) ∧ w.heap.size < w'.heap.size ∧ w'.cell? ⟨w.heap.size + 1, 0, none⟩ = some (.int .i64 (P : Int)) ∧ w'.cell? ⟨w.heap.size + 1, 1, none⟩ = some (.int .i64 (G : Int)) ∧ w.heap.size + 1 < w'.heap.size ∧ Below w.heap.size w w')
      (first | exact h22_start bc2.out bs2.out bl2.out | exact h22_keep (by assumption) hb3 | exact h22_drewN (by assumption) _ | assumption | go_keep)
      (first | (go_at_call 72; refine (hwi.out _).mono ?_; rintro e w3 ⟨rfl, hb3⟩) | (go_at_call 67; refine (hpo.out _).mono ?_; rintro e w4 ⟨rfl, rfl⟩) | (go_at_call 47; refine (htl.out _).mono ?_; rintro e w5 ⟨rfl, n5, rfl⟩))
    all_goals
      obtain ⟨hbc, hbs, hbl⟩ := h22_below (by assumption)
      clear hbc hbs
      go_wp2
      go_ret3
      exact ⟨rfl, hbl⟩

set_option maxRecDepth 100000 in
set_option maxHeartbeats 3200000 in
theorem implTimidWithin_any (h o p g n : Int) (w : World) :
    Calls Try.prog 30 #[cn h o, sk p g, .int .i64 n] w fun e w' => e = .returned (ansWI 0 h o p g n) ∧ Below w.heap.size w w' := by
  have hw := Lib.hid (fun W => toldWithin_any 59 59 0 h o p g n W (Go.Proofs.enters_of Try.func59 (by kernel_rfl) rfl) (Go.Proofs.enters_of Try.func59 (by kernel_rfl) rfl)
    (fun G q g1 g2 hq W => by
      have := timid_any (q : Int) (G : Int) W (sk_of (by omega) (by omega) (by omega) (by omega))
      rw [(lo_td q G hq).1] at this
      rw [show loN 0 q G = _ from by unfold loN; rw [if_neg (by omega)]]
      exact this)
    (fun G q g1 g2 hq W => by
      have := timid_any (q : Int) (G : Int) W (sk_of (by omega) (by omega) (by omega) (by omega))
      rw [(lo_td q G hq).1] at this
      rw [show hiN 0 q G = _ from by unfold hiN; rw [if_pos rfl]]
      exact this))
  have bc0 := Lib.hid ((Box2.new w (.int .i64 h) (.int .i64 o) 32).keep (bel_alloc (Below.refl _ (w.alloc (.cells #[.int .i64 h, .int .i64 o] 32))) (.cells #[.int .i64 p, .int .i64 g] 25)))
  have bs0 := Lib.hid (Box2.new (w.alloc (.cells #[.int .i64 h, .int .i64 o] 32)) (.int .i64 p) (.int .i64 g) 25)
  have bl0 := Lib.hid (bel_trans (bel_alloc (Below.refl _ w) (.cells #[.int .i64 h, .int .i64 o] 32)) (bel_alloc (Below.refl _ (w.alloc (.cells #[.int .i64 h, .int .i64 o] 32))) (.cells #[.int .i64 p, .int .i64 g] 25)))
  rw [← size1] at bs0
  obtain ⟨x, y, ok, hv⟩ := ansWI_form 0 h o p g n
  rw [hv] at hw ⊢
  clear hv
  obtain ⟨cc0, cd0, ck0⟩ := bc0.out
  obtain ⟨cs0, ct0, cl0⟩ := bs0.out
  go_enter Try.func30, Try.ntmps30
  go_wp2_with fail
  refine (hw.out _).mono ?_
  rintro e w1 ⟨rfl, hb1⟩
  go_wp2_with fail
  go_ret3
  exact ⟨rfl, bel_trans bl0.out hb1⟩

set_option maxRecDepth 100000 in
set_option maxHeartbeats 3200000 in
theorem implBoldWithin_any (h o p g n : Int) (w : World) :
    Calls Try.prog 28 #[cn h o, sk p g, .int .i64 n] w fun e w' => e = .returned (ansWI 1 h o p g n) ∧ Below w.heap.size w w' := by
  have hw := Lib.hid (fun W => toldWithin_any 55 55 1 h o p g n W (Go.Proofs.enters_of Try.func55 (by kernel_rfl) rfl) (Go.Proofs.enters_of Try.func55 (by kernel_rfl) rfl)
    (fun G q g1 g2 hq W => by
      have := bold_any (q : Int) (G : Int) W (sk_of (by omega) (by omega) (by omega) (by omega))
      rw [(lo_td q G hq).2] at this
      rw [show loN 1 q G = _ from by unfold loN; rw [if_pos rfl]]
      exact this)
    (fun G q g1 g2 hq W => by
      have := bold_any (q : Int) (G : Int) W (sk_of (by omega) (by omega) (by omega) (by omega))
      rw [(lo_td q G hq).2] at this
      rw [show hiN 1 q G = _ from by unfold hiN; rw [if_neg (by omega)]]
      exact this))
  have bc0 := Lib.hid ((Box2.new w (.int .i64 h) (.int .i64 o) 32).keep (bel_alloc (Below.refl _ (w.alloc (.cells #[.int .i64 h, .int .i64 o] 32))) (.cells #[.int .i64 p, .int .i64 g] 25)))
  have bs0 := Lib.hid (Box2.new (w.alloc (.cells #[.int .i64 h, .int .i64 o] 32)) (.int .i64 p) (.int .i64 g) 25)
  have bl0 := Lib.hid (bel_trans (bel_alloc (Below.refl _ w) (.cells #[.int .i64 h, .int .i64 o] 32)) (bel_alloc (Below.refl _ (w.alloc (.cells #[.int .i64 h, .int .i64 o] 32))) (.cells #[.int .i64 p, .int .i64 g] 25)))
  rw [← size1] at bs0
  obtain ⟨x, y, ok, hv⟩ := ansWI_form 1 h o p g n
  rw [hv] at hw ⊢
  clear hv
  obtain ⟨cc0, cd0, ck0⟩ := bc0.out
  obtain ⟨cs0, ct0, cl0⟩ := bs0.out
  go_enter Try.func28, Try.ntmps28
  go_wp2_with fail
  refine (hw.out _).mono ?_
  rintro e w1 ⟨rfl, hb1⟩
  go_wp2_with fail
  go_ret3
  exact ⟨rfl, bel_trans bl0.out hb1⟩

set_option maxRecDepth 100000 in
set_option maxHeartbeats 3200000 in
theorem implMostWithin_any (h o p g n : Int) (w : World) :
    Calls Try.prog 32 #[cn h o, sk p g, .int .i64 n] w fun e w' => e = .returned (ansWI 2 h o p g n) ∧ Below w.heap.size w w' := by
  have hw := Lib.hid (fun W => toldWithin_any 59 55 2 h o p g n W (Go.Proofs.enters_of Try.func59 (by kernel_rfl) rfl) (Go.Proofs.enters_of Try.func55 (by kernel_rfl) rfl)
    (fun G q g1 g2 hq W => by
      have := timid_any (q : Int) (G : Int) W (sk_of (by omega) (by omega) (by omega) (by omega))
      rw [(lo_td q G hq).1] at this
      rw [show loN 2 q G = _ from by unfold loN; rw [if_neg (by omega)]]
      exact this)
    (fun G q g1 g2 hq W => by
      have := bold_any (q : Int) (G : Int) W (sk_of (by omega) (by omega) (by omega) (by omega))
      rw [(lo_td q G hq).2] at this
      rw [show hiN 2 q G = _ from by unfold hiN; rw [if_neg (by omega)]]
      exact this))
  have bc0 := Lib.hid ((Box2.new w (.int .i64 h) (.int .i64 o) 32).keep (bel_alloc (Below.refl _ (w.alloc (.cells #[.int .i64 h, .int .i64 o] 32))) (.cells #[.int .i64 p, .int .i64 g] 25)))
  have bs0 := Lib.hid (Box2.new (w.alloc (.cells #[.int .i64 h, .int .i64 o] 32)) (.int .i64 p) (.int .i64 g) 25)
  have bl0 := Lib.hid (bel_trans (bel_alloc (Below.refl _ w) (.cells #[.int .i64 h, .int .i64 o] 32)) (bel_alloc (Below.refl _ (w.alloc (.cells #[.int .i64 h, .int .i64 o] 32))) (.cells #[.int .i64 p, .int .i64 g] 25)))
  rw [← size1] at bs0
  obtain ⟨x, y, ok, hv⟩ := ansWI_form 2 h o p g n
  rw [hv] at hw ⊢
  clear hv
  obtain ⟨cc0, cd0, ck0⟩ := bc0.out
  obtain ⟨cs0, ct0, cl0⟩ := bs0.out
  go_enter Try.func32, Try.ntmps32
  go_wp2_with fail
  refine (hw.out _).mono ?_
  rintro e w1 ⟨rfl, hb1⟩
  go_wp2_with fail
  go_ret3
  exact ⟨rfl, bel_trans bl0.out hb1⟩

end Go.Proofs.Ytfogipdhipipfaa
