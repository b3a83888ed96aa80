/- Chances of timid play: the contracts of the program's goalParts and ChanceOfGoal, and of the model's. -/
import Derived.Test.YtfogipdhipipfabSkA
import Derived.Test.YtfogipdhipipfabSkP
import Derived.Test.YtfogipdhipipfabBoxW
namespace Go.Proofs.Ytfogipdhipipfab
set_option linter.unusedSimpArgs false
open Go.ChangeShapes Go.WideShapes Go.ChangeAt Go.RowKit
set_option linter.unusedVariables false

theorem p15 (p : Nat) (h1 : p ≤ 10) (k : Nat) (hk : k ≤ 15) : p ^ k ≤ 1000000000000000 := by
  have a : p ^ k ≤ 10 ^ k := Nat.pow_le_pow_left h1 k
  have b : 10 ^ k ≤ 10 ^ 15 := Nat.pow_le_pow_right (by omega) hk
  omega
def pwI (p n : Nat) : Int := ((p ^ n : Nat) : Int)
theorem pwI_zero (p : Nat) : pwI p 0 = 1 := by unfold pwI; simp
theorem pwI_succ (p n : Nat) : pwI p (n + 1) = pwI p n * (p : Int) := by unfold pwI; rw [Nat.pow_succ, Int.natCast_mul]
theorem pwI_in (p : Nat) (h1 : p ≤ 10) (k : Nat) (hk : k ≤ 15) : 0 ≤ pwI p k ∧ pwI p k ≤ 1000000000000000 := by
  have := p15 p h1 k hk
  unfold pwI
  generalize p ^ k = q at *
  omega
set_option maxHeartbeats 400000 in
theorem powerN_any (p n : Nat) (w : World) (h0 : 1 ≤ p) (h1 : p ≤ 10) (hn : n ≤ 15) :
    Calls Try.prog 69 #[.int .i64 p, .int .i64 n] w fun e w' => e = .returned (.int .i64 (pwI p n)) ∧ w = w' := by
  have H0 := Lib.hid (fun k hk => pwI_in p h1 k hk)
  have hz := Lib.hid (pwI_zero p)
  go_enter Try.func69, Try.ntmps69
  go_wp2
  go_loop [5, 7] (fun x i => ∃ k : Nat, k ≤ n ∧ i = .int .i64 k ∧ x = .int .i64 (pwI p k)) (fun _ i => n - (intOf i).toNat)
  case atStart => exact ⟨0, by omega, rfl, by rw [hz.out]⟩
  case round =>
    obtain ⟨k, hk, rfl, rfl⟩ := hrel
    by_cases hlt : k < n
    · obtain ⟨b0, b1⟩ := H0.out k (by omega)
      obtain ⟨c0, c1⟩ := H0.out (k + 1) (by omega)
      rw [pwI_succ] at c0 c1
      have hs := Lib.hid (pwI_succ p k)
      generalize pwI p k = q at *
      have hw : IntKind.i64.wrap (q * (p : Int)) = q * (p : Int) := IntWalk.i64_in _ (by omega)
      go_wp2
      exact ⟨⟨k + 1, by omega, by go_num, by rw [hs.out]⟩, by simp [intOf]; omega⟩
    · obtain rfl : k = n := by omega
      go_wp2
      go_ret
      exact ⟨rfl, rfl⟩
set_option maxHeartbeats 400000 in
theorem skPower_any (p n : Nat) (w : World) (h0 : 1 ≤ p) (h1 : p ≤ 10) (hn : n ≤ 15) :
    Calls Try.prog 68 #[.int .i64 p, .int .i64 n] w fun e w' => e = .returned (.int .i64 (pwI p n)) ∧ w = w' := by
  have H0 := Lib.hid (fun k hk => pwI_in p h1 k hk)
  have hz := Lib.hid (pwI_zero p)
  go_enter Try.func68, Try.ntmps68
  go_wp2
  go_loop [5, 1] (fun x i => ∃ r : Nat, r ≤ n ∧ i = .int .i64 r ∧ x = .int .i64 (pwI p (n - r))) (fun _ i => (intOf i).toNat)
  case atStart => exact ⟨n, by omega, rfl, by rw [Nat.sub_self, hz.out]⟩
  case round =>
    obtain ⟨r, hr, rfl, rfl⟩ := hrel
    cases r with
    | zero =>
      go_wp2
      go_ret
      exact ⟨rfl, rfl⟩
    | succ m =>
      obtain ⟨b0, b1⟩ := H0.out (n - (m + 1)) (by omega)
      obtain ⟨c0, c1⟩ := H0.out (n - m) (by omega)
      have hs := Lib.hid (show pwI p (n - m) = pwI p (n - (m + 1)) * (p : Int) from by rw [← pwI_succ, show n - (m + 1) + 1 = n - m from by omega])
      rw [hs.out] at c0 c1
      generalize pwI p (n - (m + 1)) = q at *
      have hw : IntKind.i64.wrap (q * (p : Int)) = q * (p : Int) := IntWalk.i64_in _ (by omega)
      go_wp2
      exact ⟨⟨m, by omega, by rfl, by rw [hs.out]⟩, by simp [intOf]⟩
/-- The parts as integers. -/
def gsI (h t G i : Nat) : Int := ((gsN h t G i : Nat) : Int)
theorem gsI_zero (h t G : Nat) : gsI h t G 0 = 0 := rfl
theorem gsI_succ (h t G i : Nat) : gsI h t G (i + 1) = gsI h t G i + pwI t i * pwI h (G - 1 - i) := by
  unfold gsI pwI
  rw [← Int.natCast_mul, ← Int.natCast_add]
  rfl
theorem gsI_in {h t G : Nat} (h1 : 1 ≤ h) (t1 : 1 ≤ t) (ht : h + t ≤ 10) (g1 : 1 ≤ G) (g16 : G ≤ 16) (k : Nat) (hk : k ≤ G) : 0 ≤ gsI h t G k ∧ gsI h t G k ≤ 240000000000000 := by
  have := allG_at all_chkT h1 t1 ht g1 g16 hk
  unfold chkT at this
  rw [Bool.and_eq_true] at this
  have b := of_decide_eq_true this.2
  unfold gsI
  generalize gsN h t G k = q at *
  omega
theorem prI_in {h t G : Nat} (h1 : 1 ≤ h) (t1 : 1 ≤ t) (ht : h + t ≤ 10) (g1 : 1 ≤ G) (g16 : G ≤ 16) (k : Nat) (hk : k < G) : 0 ≤ pwI t k * pwI h (G - 1 - k) ∧ pwI t k * pwI h (G - 1 - k) ≤ 240000000000000 := by
  have := allG_at all_chkT h1 t1 ht g1 g16 (Nat.le_of_lt hk)
  unfold chkT at this
  rw [Bool.and_eq_true, Bool.or_eq_true] at this
  rcases this.1 with h | h
  · exact absurd (by simpa using h) (show ¬ k = G by omega)
  · have b := of_decide_eq_true h
    unfold pwI
    rw [← Int.natCast_mul]
    generalize t ^ k * _ = q at *
    omega

/-- The array while it is filled. -/
def gpA (h t G k : Nat) (i : Nat) : Int := if i ≤ k then gsI h t G i else 0
theorem gpA_zero (h t G : Nat) : gpA h t G 0 = noI := by
  funext i
  unfold gpA
  by_cases a : i = 0
  · subst a; rfl
  · rw [if_neg (by omega)]
theorem gpA_at (h t G k i : Nat) (hi : i ≤ k) : gpA h t G k i = gsI h t G i := by unfold gpA; rw [if_pos hi]
theorem gpA_new (h t G k : Nat) : gpA h t G (k + 1) (k + 1) = gsI h t G k + pwI t k * pwI h (G - 1 - k) := by unfold gpA; rw [if_pos (by omega), gsI_succ]
theorem gpA_old (h t G k i : Nat) (hi : i ≠ k + 1) : gpA h t G (k + 1) i = gpA h t G k i := by
  unfold gpA
  by_cases a : i ≤ k
  · rw [if_pos a, if_pos (by omega)]
  · rw [if_neg a, if_neg (by omega)]

/-- What holds while a number is added: the coin's box, and the place of the array that is read. -/
def G5 (w : World) (B A k : Nat) (h o x : Value) (w' : World) : Prop := w'.cell? ⟨B, 0, none⟩ = some h ∧ w'.cell? ⟨B, 1, none⟩ = some o ∧ B < w'.heap.size ∧ w'.cell? ⟨A, k, none⟩ = some x ∧ A < w'.heap.size ∧ Below w.heap.size w w'
theorem g5_start {w W : World} {B A k : Nat} {h o x : Value} (hb : Box2 W B h o) (hx : W.cell? ⟨A, k, none⟩ = some x) (hA : A < W.heap.size) (hl : Below w.heap.size w W) : let w' := W.drew
    w'.cell? ⟨B, 0, none⟩ = some h ∧ w'.cell? ⟨B, 1, none⟩ = some o ∧ B < w'.heap.size ∧ w'.cell? ⟨A, k, none⟩ = some x ∧ A < w'.heap.size ∧ Below w.heap.size w w' :=
  ⟨hb.1, hb.2.1, hb.2.2, hx, hA, hl.drew⟩
theorem g5_keep {w W w' : World} {B A k : Nat} {h o x : Value} (g : W.cell? ⟨B, 0, none⟩ = some h ∧ W.cell? ⟨B, 1, none⟩ = some o ∧ B < W.heap.size ∧ W.cell? ⟨A, k, none⟩ = some x ∧ A < W.heap.size ∧ Below w.heap.size w W) (hb : Below W.heap.size W w') :
    w'.cell? ⟨B, 0, none⟩ = some h ∧ w'.cell? ⟨B, 1, none⟩ = some o ∧ B < w'.heap.size ∧ w'.cell? ⟨A, k, none⟩ = some x ∧ A < w'.heap.size ∧ Below w.heap.size w w' := by
  have b : Box2 w' B h o := Box2.keep ⟨g.1, g.2.1, g.2.2.1⟩ hb
  exact ⟨b.1, b.2.1, b.2.2, (hb.cell (p := ⟨A, k, none⟩) g.2.2.2.2.1).trans g.2.2.2.1, Nat.lt_of_lt_of_le g.2.2.2.2.1 hb.size, bel_trans g.2.2.2.2.2 hb⟩
theorem g5_drewN {w W : World} {B A k : Nat} {h o x : Value} (g : W.cell? ⟨B, 0, none⟩ = some h ∧ W.cell? ⟨B, 1, none⟩ = some o ∧ B < W.heap.size ∧ W.cell? ⟨A, k, none⟩ = some x ∧ A < W.heap.size ∧ Below w.heap.size w W) (n : Nat) : let w' := W.drewN n
    w'.cell? ⟨B, 0, none⟩ = some h ∧ w'.cell? ⟨B, 1, none⟩ = some o ∧ B < w'.heap.size ∧ w'.cell? ⟨A, k, none⟩ = some x ∧ A < w'.heap.size ∧ Below w.heap.size w w' :=
  ⟨g.1, g.2.1, g.2.2.1, g.2.2.2.1, g.2.2.2.2.1, bel_drewN g.2.2.2.2.2 n⟩
theorem g5_set {w W : World} {B A k : Nat} {h o x : Value} (g : W.cell? ⟨B, 0, none⟩ = some h ∧ W.cell? ⟨B, 1, none⟩ = some o ∧ B < W.heap.size ∧ W.cell? ⟨A, k, none⟩ = some x ∧ A < W.heap.size ∧ Below w.heap.size w W) (hAB : A ≠ B) (hA : w.heap.size ≤ A) (j : Nat) (hj : j ≠ k) (v : Value) : let w' := W.setCell ⟨A, j, none⟩ v
    w'.cell? ⟨B, 0, none⟩ = some h ∧ w'.cell? ⟨B, 1, none⟩ = some o ∧ B < w'.heap.size ∧ w'.cell? ⟨A, k, none⟩ = some x ∧ A < w'.heap.size ∧ Below w.heap.size w w' := by
  refine ⟨?_, ?_, by simpa using g.2.2.1, ?_, by simpa using g.2.2.2.2.1, g.2.2.2.2.2.setCell hA v⟩
  · rw [World.cell?_setCell_other _ _ _ _ (fun q => hAB (by injection q))]; exact g.1
  · rw [World.cell?_setCell_other _ _ _ _ (fun q => hAB (by injection q))]; exact g.2.1
  · rw [World.cell?_setCell_other _ _ _ _ (fun q => hj (by injection q))]; exact g.2.2.2.1
/-- The blocks of the call: the coin, its answer, the parts. -/
structure GpT (w : World) (h o : Int) (F : Nat → Int) (wr : World) : Prop where
  box : Box2 wr w.heap.size (.int .i64 h) (.int .i64 o)
  res : wr.heap[w.heap.size + 1]? = some (.cells (iN 17 noI) 64)
  here : wr.heap[w.heap.size + 1 + 1]? = some (.cells (iN 17 F) 64)
  big : w.heap.size + 1 + 1 < wr.heap.size
  bel : Below w.heap.size w wr
theorem GpT.keep {w : World} {h o : Int} {F : Nat → Int} {wr wv : World} (g : GpT w h o F wr) (hb : Below wr.heap.size wr wv) : GpT w h o F wv := by
  have h2 := g.big
  exact ⟨g.box.keep hb, (hb.block (w.heap.size + 1) (by omega)).trans g.res, (hb.block (w.heap.size + 1 + 1) (by omega)).trans g.here, Nat.lt_of_lt_of_le h2 hb.size, bel_trans g.bel hb⟩
theorem GpT.set {w : World} {h o : Int} {F F' : Nat → Int} {wr : World} (g : GpT w h o F wr) (q : Nat) (hq : q < 17) (x : Int) (hx : F' q = x) (ho : ∀ i, i < 17 → i ≠ q → F' i = F i) : GpT w h o F' (wr.setCell ⟨w.heap.size + 1 + 1, q, none⟩ (.int .i64 x)) := by
  have h2 := g.big
  have k := grown_one wr (w.heap.size + 1 + 1) q (.int .i64 x)
  have e : ∀ b, b < wr.heap.size → b ≠ w.heap.size + 1 + 1 → (wr.setCell ⟨w.heap.size + 1 + 1, q, none⟩ (.int .i64 x)).heap[b]? = wr.heap[b]? := fun b hb hne => k.block b hb (fun e => hne (Option.some.inj e))
  refine ⟨⟨?_, ?_, by simpa using g.box.2.2⟩, (e _ (by omega) (by omega)).trans g.res, by rw [set_heap g.here, iN_set 17 F F' x q hq hx ho], by simpa using h2, g.bel.setCell (by show w.heap.size ≤ w.heap.size + 1 + 1; omega) _⟩
  · exact (World.cell?_of_block (w := wr) (a := ⟨w.heap.size, 0, none⟩) (e w.heap.size (by omega) (by omega))).trans g.box.1
  · exact (World.cell?_of_block (w := wr) (a := ⟨w.heap.size, 1, none⟩) (e w.heap.size (by omega) (by omega))).trans g.box.2.1

set_option maxRecDepth 100000 in
set_option maxHeartbeats 6400000 in
theorem goalParts_any (H T G : Nat) (o : Int) (w : World) (hc : coinG (H : Int) o = true) (hT : o - (H : Int) = (T : Int)) (h1 : 1 ≤ G) (h16 : G ≤ 16) :
    Calls Try.prog 44 #[cn H o, .int .i64 G] w fun e w' => e = .returned (.agg (iN 17 (gpA H T G G))) ∧ Below w.heap.size w w' := by
  obtain ⟨r1, r2, r3, r4⟩ := coin_in hc
  have t1 : 1 ≤ T ∧ T ≤ 9 ∧ H + T ≤ 10 := by omega
  obtain ⟨t1, t2, t3⟩ := t1
  have hK : Hid (∀ k, k ≤ G → 0 ≤ gsI H T G k ∧ gsI H T G k ≤ 240000000000000) := Lib.hid (fun k hk => gsI_in (by omega) t1 t3 h1 h16 k hk)
  have hP : Hid (∀ k, k < G → 0 ≤ pwI T k * pwI H (G - 1 - k) ∧ pwI T k * pwI H (G - 1 - k) ≤ 240000000000000) := Lib.hid (fun k hk => prI_in (by omega) t1 t3 h1 h16 k hk)
  have hta : Hid (∀ W : World, Calls Try.prog 70 #[cn H o] W fun e w' => e = .returned (.int .i64 (T : Int)) ∧ Below W.heap.size W w') := Lib.hid (fun W => by
    have := tails_any H o W hc
    rw [hT] at this
    exact this)
  have hst : Hid (GpT w H o (gpA H T G 0) (((w.alloc (.cells #[.int .i64 H, .int .i64 o] 32)).alloc (.cells (iN 17 noI) 64)).alloc (.cells (iN 17 noI) 64))) := by
    refine Lib.hid ?_
    rw [gpA_zero]
    have hb := Box2.new w (.int .i64 H) (.int .i64 o) 32
    generalize hw0 : w.alloc (.cells #[.int .i64 H, .int .i64 o] 32) = w0 at *
    have hs0 : w0.heap.size = w.heap.size + 1 := by rw [← hw0, ← size1]
    have hb0 : Below w.heap.size w w0 := by rw [← hw0]; exact bel_alloc (Below.refl _ _) _
    generalize hw1 : w0.alloc (.cells (iN 17 noI) 64) = w1 at *
    have hs1 : w1.heap.size = w.heap.size + 1 + 1 := by rw [← hw1, ← size1, hs0]
    have hb1 : Below w0.heap.size w0 w1 := by rw [← hw1]; exact bel_alloc (Below.refl _ _) _
    have hk := bel_alloc (Below.refl _ w1) (.cells (iN 17 noI) 64)
    have hr1 : w1.heap[w.heap.size + 1]? = some (.cells (iN 17 noI) 64) := by rw [← hw1, ← hs0]; exact heap_alloc_new w0 _
    refine ⟨(hb.keep hb1).keep hk, (hk.block _ (by omega)).trans hr1, by rw [← hs1]; exact heap_alloc_new w1 _, ?_, bel_trans (bel_trans hb0 hb1) hk⟩
    rw [← size1]
    omega
  clear hT
  go_enter Try.func44, Try.ntmps44
  go_wp2_with (first
    | (refine wpList_alloc_row rfl 64 rfl (iN 17 noI) (pu_zero _) ?_))
  generalize ((w.alloc (.cells #[.int .i64 H, .int .i64 o] 32)).alloc (.cells (iN 17 noI) 64)).alloc (.cells (iN 17 noI) 64) = w1 at *
  go_loopw [8] (fun x wr => ∃ k : Nat, k ≤ G ∧ x = .int .i64 k ∧ Hid (GpT w H o (gpA H T G k) wr)) (fun x _ => G - (intOf x).toNat)
  case atStart => exact ⟨0, by omega, rfl, hst⟩
  case round =>
    obtain ⟨k, hk, rfl, hS⟩ := hrel
    obtain ⟨wa, rfl⟩ : ∃ wa : World, wa = wr := ⟨_, rfl⟩
    by_cases hlt : k < G
    · obtain ⟨E, hE⟩ : ∃ E, E = G - 1 - k := ⟨_, rfl⟩
      obtain ⟨p0, p1⟩ := hP.out k hlt
      rw [← hE] at p0 p1
      obtain ⟨z0, z1⟩ := hK.out k (by omega)
      obtain ⟨y0, y1⟩ := pwI_in T (by omega) k (by omega)
      obtain ⟨y2, y3⟩ := pwI_in H (by omega) E (by omega)
      have hpA : Hid (∀ W : World, Calls Try.prog 69 #[.int .i64 T, .int .i64 k] W fun e w' => e = .returned (.int .i64 (pwI T k)) ∧ W = w') := Lib.hid (fun W => powerN_any T k W (by omega) (by omega) (by omega))
      have hpB : Hid (∀ W : World, Calls Try.prog 69 #[.int .i64 H, .int .i64 E] W fun e w' => e = .returned (.int .i64 (pwI H E)) ∧ W = w') := Lib.hid (fun W => powerN_any H E W (by omega) (by omega) (by omega))
      have x0 := Lib.hid (cell_heap hS.out.here (iN_get 17 (gpA H T G k) k (by omega)))
      rw [gpA_at H T G k k (Nat.le_refl _)] at x0
      have hnew := Lib.hid (gpA_new H T G k)
      rw [← hE] at hnew
      have hbig := hS.out.big
      have keyR : Hid (∀ W1 : World, Below wa.drew.heap.size wa.drew W1 → (∃ y, W1.cell? ⟨w.heap.size + 1 + 1, k + 1, none⟩ = some y) ∧ W1.frozen? ⟨w.heap.size + 1 + 1, k + 1, none⟩ = false ∧ Hid (GpT w H o (gpA H T G (k + 1)) (W1.setCell ⟨w.heap.size + 1 + 1, k + 1, none⟩ (.int .i64 (gsI H T G k + pwI T k * pwI H E))))) := Lib.hid (by
        intro W1 h1
        have hW : GpT w H o (gpA H T G k) W1 := hS.out.keep (bel_undrewN (n := 1) h1)
        exact ⟨⟨_, cell_heap hW.here (iN_get 17 _ (k + 1) (by omega))⟩, froz_heap hW.here, Lib.hid (hW.set (k + 1) (by omega) _ hnew.out (fun i _ hi => gpA_old H T G k i hi))⟩)
      have hwE : IntKind.i64.wrap ((G : Int) - 1 - (k : Int)) = (E : Int) := by
        rw [show (G : Int) - 1 - (k : Int) = (E : Int) from by omega]
        exact IntWalk.i64_in _ (by omega)
      have hwE1 : IntKind.i64.wrap ((G : Int) - 1) = (G : Int) - 1 := IntWalk.i64_in _ (by omega)
      clear hnew
      generalize gsI H T G k = S at *
      generalize pwI T k = q1 at *
      generalize pwI H E = q2 at *
      have hw1 : IntKind.i64.wrap (q1 * q2) = q1 * q2 := IntWalk.i64_in _ (by omega)
      have hw2 : IntKind.i64.wrap (S + q1 * q2) = S + q1 * q2 := IntWalk.i64_in _ (by omega)
      have hw3 : IntKind.i64.wrap ((k : Int) + 1) = (k : Int) + 1 := IntWalk.i64_in _ (by omega)
      have hk17 : (k : Int) < 17 := by omega
      have hk18 : (k : Int) + 1 < 17 := by omega
      have hk19 : (0 : Int) ≤ (k : Int) + 1 := by omega
      clear hE p0 p1 z0 z1 y0 y1 y2 y3
      go_wp2_with fail
      go_region_held3 (fun w' => w'.cell? ⟨w.heap.size, 0, none⟩ = some (.int .i64 (H : Int)) ∧ w'.cell? ⟨w.heap.size, 1, none⟩ = some (.int .i64 o) ∧ w.heap.size < w'.heap.size ∧ w'.cell? ⟨w.heap.size + 1 + 1, k, none⟩ = some (.int .i64 S) ∧ w.heap.size + 1 + 1 < w'.heap.size ∧ Below w.heap.size w w')
        (first | exact g5_start hS.out.box x0.out hbig hS.out.bel | exact g5_keep (by assumption) hb2 | exact g5_drewN (by assumption) _ | exact g5_set (by assumption) (by omega) (by omega) _ (by omega) _ | assumption | go_keep)
        (first | (go_at_call 70; refine (hta.out _).mono ?_; rintro e w2 ⟨rfl, hb2⟩; obtain ⟨⟨y, q0⟩, q1, q2⟩ := keyR.out _ hb2) | (go_at_call_of 69 (Value.int IntKind.i64 (T : Int)); refine (hpA.out _).mono ?_; rintro e w3 ⟨rfl, rfl⟩) | (go_at_call_of 69 (Value.int IntKind.i64 (H : Int)); refine (hpB.out _).mono ?_; rintro e w4 ⟨rfl, rfl⟩))
      all_goals
        go_wp2
        exact ⟨⟨k + 1, by omega, by go_num, q2⟩, by simp [intOf]; omega⟩
    · obtain rfl : k = G := by omega
      go_wp2_with (first
        | (refine wpList_load_row rfl 64 (.tmp 5) rfl (w.heap.size + 1 + 1) (by simp [Act.put, Act.eval]) _ (iN 17 (gpA H T k k)) _ _ hS.out.here Try.underlying64 rfl (by rw [iN_size]; exact pu_info) ?_)
        | (refine wpList_store_row rfl 64 (.tmp 4) (.tmp 31) rfl (w.heap.size + 1) (iN 17 (gpA H T k k)) (by simp [Act.put, Act.eval]) (by simp [Act.put, Act.eval]) _ _ hS.out.res (by rw [iN_size]; exact pu_info) (by rw [iN_size, iN_size]) (iN_one _ _) ?_))
      refine bodyPost_ret (results_cell_row rfl _ _ (w.heap.size + 1) _ (iN 17 (gpA H T k k)) _ _ (by simp [Act.put, Act.eval]) (setRow_heap _ _ _ _ _ _ hS.out.res) Try.underlying64 rfl (by rw [iN_size]; exact pu_info)) rfl ⟨rfl, ?_⟩
      exact bel_setRow hS.out.bel (by omega) _
end Go.Proofs.Ytfogipdhipipfab
