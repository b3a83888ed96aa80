/- Hidden days: contracts of the functions that look at them, of the program and of its model. -/
import Derived.Test.YtjfcpbedmdnjcabDoorHdP
import Derived.Test.YtjfcpbedmdnjcabDoorBoxW
namespace Go.Proofs.YtjfcpbedmdnjcabDoor
set_option linter.unusedSimpArgs false
open Go.ChangeShapes Go.WideShapes Go.ChangeAt Go.RowKit
set_option linter.unusedVariables false

abbrev hdn (a b c p q r : Int) : Value := .agg #[.int .i64 a, .int .i64 b, .int .i64 c, .int .i64 p, .int .i64 q, .int .i64 r]
abbrev pr2 (x y : Int) : Value := .agg #[.int .i64 x, .int .i64 y]
/-- Block k begins with the numbers of hidden days. -/
def Box6 (w : World) (k : Nat) (a b c p q r : Int) : Prop := w.cell? ⟨k, 0, none⟩ = some (.int .i64 a) ∧ w.cell? ⟨k, 1, none⟩ = some (.int .i64 b) ∧ w.cell? ⟨k, 2, none⟩ = some (.int .i64 c) ∧ w.cell? ⟨k, 3, none⟩ = some (.int .i64 p) ∧ w.cell? ⟨k, 4, none⟩ = some (.int .i64 q) ∧ w.cell? ⟨k, 5, none⟩ = some (.int .i64 r) ∧ k < w.heap.size
theorem Box6.new (w : World) (a b c p q r : Int) (t : TypeId) : Box6 (w.alloc (.cells #[.int .i64 a, .int .i64 b, .int .i64 c, .int .i64 p, .int .i64 q, .int .i64 r] t)) w.heap.size a b c p q r := by
  refine ⟨?_, ?_, ?_, ?_, ?_, ?_, ?_⟩ <;> simp [go_sem]
theorem Box6.keep {w w1 : World} {k : Nat} {a b c p q r : Int} (h : Box6 w k a b c p q r) (hb : Below w.heap.size w w1) : Box6 w1 k a b c p q r := by
  obtain ⟨h0, h1, h2, h3, h4, h5, h6⟩ := h
  exact ⟨(hb.cell (p := ⟨k, 0, none⟩) h6).trans h0, (hb.cell (p := ⟨k, 1, none⟩) h6).trans h1, (hb.cell (p := ⟨k, 2, none⟩) h6).trans h2, (hb.cell (p := ⟨k, 3, none⟩) h6).trans h3, (hb.cell (p := ⟨k, 4, none⟩) h6).trans h4, (hb.cell (p := ⟨k, 5, none⟩) h6).trans h5, Nat.lt_of_lt_of_le h6 hb.size⟩
theorem Box6.drewN {w : World} {k : Nat} {a b c p q r : Int} (h : Box6 w k a b c p q r) (n : Nat) : Box6 (w.drewN n) k a b c p q r := h
/-- What a drawn region keeps: the block k and what was there before. -/
def Hk6 (w W : World) (k : Nat) (a b c p q r : Int) : Prop := W.cell? ⟨k, 0, none⟩ = some (.int .i64 a) ∧ W.cell? ⟨k, 1, none⟩ = some (.int .i64 b) ∧ W.cell? ⟨k, 2, none⟩ = some (.int .i64 c) ∧ W.cell? ⟨k, 3, none⟩ = some (.int .i64 p) ∧ W.cell? ⟨k, 4, none⟩ = some (.int .i64 q) ∧ W.cell? ⟨k, 5, none⟩ = some (.int .i64 r) ∧ k < W.heap.size ∧ Below w.heap.size w W
theorem h6_start {w W : World} {k : Nat} {a b c p q r : Int} (h : Box6 W k a b c p q r) (hb : Below w.heap.size w W) : Hk6 w W.drew k a b c p q r := by
  obtain ⟨h0, h1, h2, h3, h4, h5, h6⟩ := h
  exact ⟨h0, h1, h2, h3, h4, h5, h6, hb.drew⟩
theorem h6_keep {w W w1 : World} {k : Nat} {a b c p q r : Int} (h : Hk6 w W k a b c p q r) (hb : Below W.heap.size W w1) : Hk6 w w1 k a b c p q r := by
  obtain ⟨h0, h1, h2, h3, h4, h5, h6, h7⟩ := h
  obtain ⟨g0, g1, g2, g3, g4, g5, g6⟩ := Box6.keep ⟨h0, h1, h2, h3, h4, h5, h6⟩ hb
  exact ⟨g0, g1, g2, g3, g4, g5, g6, bel_trans h7 hb⟩
theorem h6_drewN {w W : World} {k : Nat} {a b c p q r : Int} (h : Hk6 w W k a b c p q r) (n : Nat) : Hk6 w (W.drewN n) k a b c p q r := by
  obtain ⟨h0, h1, h2, h3, h4, h5, h6, h7⟩ := h
  exact ⟨h0, h1, h2, h3, h4, h5, h6, bel_drewN h7 n⟩
theorem h6_below {w W : World} {k : Nat} {a b c p q r : Int} (h : Hk6 w W k a b c p q r) : Box6 W k a b c p q r ∧ Below w.heap.size w W := by
  obtain ⟨h0, h1, h2, h3, h4, h5, h6, h7⟩ := h
  exact ⟨⟨h0, h1, h2, h3, h4, h5, h6⟩, h7⟩

def goodH (a b c p q r : Int) : Bool := good a b c && good p q r

set_option maxHeartbeats 800000 in
theorem hdGood_any (a b c p q r : Int) (w : World) :
    Calls Tryd.prog 26 #[hdn a b c p q r] w fun e w' => e = .returned (.bool (goodH a b c p q r)) ∧ Below w.heap.size w w' := by
  have bx := Lib.hid (Box6.new w a b c p q r 30)
  cases h0 : good a b c
  · go_enter Tryd.func26, Tryd.ntmps26
    go_wp2_with fail
    refine (cnGood_any _ _ _ _).mono ?_
    rintro e w1 ⟨rfl, hb1⟩
    rw [h0]
    go_wp2_with fail
    go_ret
    exact ⟨by simp [goodH, h0], bel_trans (bel_alloc (Below.refl _ _) _) hb1⟩
  all_goals
    cases h1 : inB r 1 10
    · go_enter Tryd.func26, Tryd.ntmps26
      go_wp2_with fail
      refine (cnGood_any _ _ _ _).mono ?_
      rintro e w1 ⟨rfl, hb1⟩
      rw [h0]
      obtain ⟨c0, c1, c2, c3, c4, c5, hk⟩ := bx.out.keep hb1
      go_wp2_with (go_at_call 36; refine (l1In_any _ _ _ _).mono ?_; rintro e w' ⟨rfl, rfl⟩)
      go_ret
      exact ⟨by simp [goodH, good, h0, h1], bel_trans (bel_alloc (Below.refl _ _) _) hb1⟩
    all_goals
      cases h2 : inB p 0 r
      · go_enter Tryd.func26, Tryd.ntmps26
        go_wp2_with fail
        refine (cnGood_any _ _ _ _).mono ?_
        rintro e w1 ⟨rfl, hb1⟩
        rw [h0]
        obtain ⟨c0, c1, c2, c3, c4, c5, hk⟩ := bx.out.keep hb1
        go_wp2_with (go_at_call 36; refine (l1In_any _ _ _ _).mono ?_; rintro e w' ⟨rfl, rfl⟩)
        go_ret
        exact ⟨by simp [goodH, good, h0, h1, h2], bel_trans (bel_alloc (Below.refl _ _) _) hb1⟩
      · go_enter Tryd.func26, Tryd.ntmps26
        go_wp2_with fail
        refine (cnGood_any _ _ _ _).mono ?_
        rintro e w1 ⟨rfl, hb1⟩
        rw [h0]
        obtain ⟨c0, c1, c2, c3, c4, c5, hk⟩ := bx.out.keep hb1
        go_wp2_with (go_at_call 36; refine (l1In_any _ _ _ _).mono ?_; rintro e w' ⟨rfl, rfl⟩)
        go_ret
        exact ⟨by unfold goodH; rw [h0]; unfold good; rw [h1, h2]; rfl, bel_trans (bel_alloc (Below.refl _ _) _) hb1⟩

theorem umbrellas_any (a b c p q r : Int) (w : World) :
    Calls Tryd.prog 29 #[hdn a b c p q r] w fun e w' => e = .returned (chn p q r) ∧ Below w.heap.size w w' := by
  go_enter Tryd.func29, Tryd.ntmps29
  go_wp2
  refine bodyPost_ret (v := chn p q r) (by simp [results, Tryd.results29, go_sem]) rfl ⟨rfl, ?_⟩
  repeat (first | assumption | with_reducible exact Below.refl _ _ | refine bel_alloc ?_ _ | refine bel_drewN ?_ _ | refine Below.drew ?_ | (refine Below.setCell ?_ (by simp) _) | (refine bel_trans ?_ (by assumption)))

set_option maxHeartbeats 800000 in
theorem implIsHidden_any (a b c p q r : Int) (w : World) :
    Calls Tryd.prog 65 #[hdn a b c p q r] w fun e w' => e = .returned (.bool (goodH a b c p q r)) ∧ Below w.heap.size w w' := by
  have bx := Lib.hid (Box6.new w a b c p q r 30)
  cases h0 : good a b c
  · go_enter Tryd.func65, Tryd.ntmps65
    go_wp2_with fail
    refine (implIsChain_any _ _ _ _).mono ?_
    rintro e w1 ⟨rfl, hb1⟩
    rw [h0]
    go_wp2_with fail
    go_ret
    exact ⟨by simp [goodH, h0], bel_trans (bel_alloc (Below.refl _ _) _) hb1⟩
  · go_enter Tryd.func65, Tryd.ntmps65
    go_wp2_with fail
    refine (implIsChain_any _ _ _ _).mono ?_
    rintro e w1 ⟨rfl, hb1⟩
    rw [h0]
    obtain ⟨c0, c1, c2, c3, c4, c5, hk⟩ := bx.out.keep hb1
    go_wp2_with fail
    refine (umbrellas_any _ _ _ _ _ _ _).mono ?_
    rintro e w2 ⟨rfl, hb2⟩
    go_wp2_with fail
    refine (implIsChain_any _ _ _ _).mono ?_
    rintro e w3 ⟨rfl, hb3⟩
    go_wp2_with fail
    go_ret
    exact ⟨by simp [goodH, h0], bel_trans (bel_trans (bel_trans (bel_alloc (Below.refl _ _) _) hb1) hb2) hb3⟩

set_option maxHeartbeats 800000 in
theorem signsOn_any (a b c p q r d : Int) (w : World) (hd : dayV d) (hr : inR p q r) :
    Calls Tryd.prog 80 #[hdn a b c p q r, .int .u8 d] w fun e w' => e = .returned (pr2 (r - tkn p q d) (tkn p q d)) ∧ Below w.heap.size w w' := by
  obtain ⟨r1, r2, r3, r4, r5, r6⟩ := hr
  rcases hd with rfl | rfl
  · have hw : IntKind.i64.wrap (r - p) = r - p := IntWalk.i64_in _ (by omega)
    rw [show tkn p q 100 = p from by simp [tkn]]
    go_enter Tryd.func80, Tryd.ntmps80
    go_wp2
    refine bodyPost_ret (v := pr2 (r - p) p) (by simp [results, Tryd.results80, hw, go_sem]) rfl ⟨rfl, ?_⟩
    repeat (first | assumption | with_reducible exact Below.refl _ _ | refine bel_alloc ?_ _ | refine bel_drewN ?_ _ | refine Below.drew ?_ | (refine Below.setCell ?_ (by simp) _) | (refine bel_trans ?_ (by assumption)))
  · have hw : IntKind.i64.wrap (r - q) = r - q := IntWalk.i64_in _ (by omega)
    rw [show tkn p q 119 = q from by simp [tkn]]
    go_enter Tryd.func80, Tryd.ntmps80
    go_wp2
    refine bodyPost_ret (v := pr2 (r - q) q) (by simp [results, Tryd.results80, hw, go_sem]) rfl ⟨rfl, ?_⟩
    repeat (first | assumption | with_reducible exact Below.refl _ _ | refine bel_alloc ?_ _ | refine bel_drewN ?_ _ | refine Below.drew ?_ | (refine Below.setCell ?_ (by simp) _) | (refine bel_trans ?_ (by assumption)))

set_option maxHeartbeats 800000 in
theorem hdSign_any (a b c p q r d g : Int) (w : World) (hd : dayV d) (hg : sgV g) (hr : inR p q r) :
    Calls Tryd.prog 64 #[hdn a b c p q r, .int .u8 d, .int .u8 g] w fun e w' => e = .returned (.int .i64 (sgc p q r d g)) ∧ Below w.heap.size w w' := by
  obtain ⟨r1, r2, r3, r4, r5, r6⟩ := hr
  rcases hd with rfl | rfl <;> rcases hg with rfl | rfl
  · rw [show sgc p q r 100 110 = r - p from by simp [sgc, tkn]]
    go_enter Tryd.func64, Tryd.ntmps64
    go_wp2
    go_ret
    exact ⟨rfl, bel_alloc (Below.refl _ _) _⟩
  · rw [show sgc p q r 100 117 = p from by simp [sgc, tkn]]
    go_enter Tryd.func64, Tryd.ntmps64
    go_wp2
    go_ret
    exact ⟨rfl, bel_alloc (Below.refl _ _) _⟩
  · rw [show sgc p q r 119 110 = r - q from by simp [sgc, tkn]]
    go_enter Tryd.func64, Tryd.ntmps64
    go_wp2
    go_ret
    exact ⟨rfl, bel_alloc (Below.refl _ _) _⟩
  · rw [show sgc p q r 119 117 = q from by simp [sgc, tkn]]
    go_enter Tryd.func64, Tryd.ntmps64
    go_wp2
    go_ret
    exact ⟨rfl, bel_alloc (Below.refl _ _) _⟩

set_option maxHeartbeats 400000 in
theorem hdSigns_any (s : ByteArray) (w : World) (hs : s.size ≤ maxLen) :
    Calls Tryd.prog 41 #[.string s] w fun e w' => e = .returned (.bool (signsB s)) ∧ w = w' := by
  unfold maxLen at hs
  cases h1 : inB s.size 1 6
  · go_enter Tryd.func41, Tryd.ntmps41
    go_wp2_with fail
    refine (l1In_any _ _ _ _).mono ?_
    rintro e w' ⟨rfl, rfl⟩
    go_wp2_with fail
    go_ret
    exact ⟨by rw [show signsB s = false from by unfold signsB; rw [h1]; rfl]; rfl, rfl⟩
  · go_enter Tryd.func41, Tryd.ntmps41
    go_wp2_with fail
    refine (l1In_any _ _ _ _).mono ?_
    rintro e w' ⟨rfl, rfl⟩
    go_wp2_with fail
    go_loop [3] (fun i => ∃ k : Nat, k ≤ s.size ∧ i = .int .i64 k ∧ Hid (∀ j, (hj : j < s.size) → j < k → sgB s[j] = true)) (fun i => s.size - (intOf i).toNat)
    case atStart => exact ⟨0, by omega, rfl, fun _ _ h => by omega⟩
    case round =>
      obtain ⟨k, hk, rfl, hall⟩ := hrel
      by_cases hlt : k < s.size
      · go_wp2
        · have a1 : ¬ (s[k].toNat : Int) = 117 := by assumption
          have a2 : ((s[k].toNat : Int) != 110) = true := by assumption
          go_ret
          exact ⟨by rw [show signsB s = false from by unfold signsB; rw [allG_not s k hlt (sg_no a1 a2), Bool.and_false]]; rfl, rfl⟩
        · have a2 : ((s[k].toNat : Int) != 110) = false := by assumption
          exact ⟨⟨k + 1, by omega, by go_num, sg_step hall.out hlt (sg_n a2)⟩, by simp [intOf]; omega⟩
        · have a2 : (s[k].toNat : Int) = 117 := by assumption
          exact ⟨⟨k + 1, by omega, by go_num, sg_step hall.out hlt (sg_u a2)⟩, by simp [intOf]; omega⟩
      · go_wp2
        go_ret
        exact ⟨by rw [show signsB s = true from by unfold signsB; rw [allG_of s (fun j hj => hall.out j hj (by omega)), h1]; rfl]; rfl, rfl⟩

set_option maxHeartbeats 800000 in
theorem hdAsked_any (a b c p q r : Int) (s : ByteArray) (w : World) (hs : s.size ≤ maxLen) :
    Calls Tryd.prog 20 #[hdn a b c p q r, .string s] w fun e w' => e = .returned (.bool (goodH a b c p q r && signsB s)) ∧ Below w.heap.size w w' := by
  cases h1 : goodH a b c p q r
  all_goals
    go_enter Tryd.func20, Tryd.ntmps20
    go_wp2_with fail
    refine (hdGood_any _ _ _ _ _ _ _).mono ?_
    rintro e w1 ⟨rfl, hb1⟩
    rw [h1]
    go_wp2_with (go_at_call 41; refine (hdSigns_any _ _ hs).mono ?_; rintro e w' ⟨rfl, rfl⟩)
    go_ret
    exact ⟨rfl, bel_trans (bel_alloc (Below.refl _ _) _) hb1⟩
end Go.Proofs.YtjfcpbedmdnjcabDoor
