/- DayByDay: the contracts of the program and of its model, and the walk. -/
import Derived.Test.YtjfcpbedmdnjcabDoorHdF
import Derived.Test.YtjfcpbedmdnjcabDoorHdT
import Derived.Lib.OthersKept
namespace Go.Proofs.YtjfcpbedmdnjcabDoor
set_option linter.unusedSimpArgs false
open Go.ChangeShapes Go.WideShapes Go.ChangeAt Go.RowKit
set_option linter.unusedVariables false

theorem iterPosW {w : World} {k p : Nat} {s : ByteArray} (h : w.heap[k]? = some (.stringIter s p)) : w.iterPos k = p := by
  unfold World.iterPos
  rw [h]
theorem topS_casesD {a b c p q r : Int} (h : inR a b c) (g : inR p q r) (s : ByteArray) (h7 : s.size ≤ 7) : (0 < topS a b c p q r s ∧ 1 ≤ sgT a b c p q r s) ∨ (¬ 0 < topS a b c p q r s ∧ sgT a b c p q r s = 0) := by
  have h1 := topS_pos h g s h7
  have h2 := (sgT_in h g s h7).1
  by_cases e : 0 < topS a b c p q r s
  · have := h1.2 e
    exact .inl ⟨e, by omega⟩
  · refine .inr ⟨e, ?_⟩
    rcases Int.lt_or_le 0 (sgT a b c p q r s) with x | x
    · exact absurd (h1.1 x) e
    · omega
/-- What is likelier. -/
def lkl (x y : Int) : ByteArray := if y < x then ⟨#[100]⟩ else if x < y then ⟨#[119]⟩ else ⟨#[63]⟩
theorem lkl_size (x y : Int) : (lkl x y).size = 1 := by
  unfold lkl
  split
  · rfl
  · split <;> rfl
def dbT (a b c p q r : Int) (s : ByteArray) : Nat → ByteArray
  | 0 => ⟨#[]⟩
  | k + 1 => dbT a b c p q r s k ++ lkl (kdV a b c p q r s k 0) (kdV a b c p q r s k 1)
theorem dbT_size (a b c p q r : Int) (s : ByteArray) : ∀ k, (dbT a b c p q r s k).size = k
  | 0 => rfl
  | k + 1 => by rw [dbT, ByteArray.size_append, lkl_size, dbT_size a b c p q r s k]
def ansDb (a b c p q r : Int) (s : ByteArray) : Value := if (goodH a b c p q r && signsB s) && decide (0 < topS a b c p q r s) then .tuple #[.string (dbT a b c p q r s s.size), .bool true] else .tuple #[.string ⟨#[]⟩, .bool false]
theorem ansDb_form (a b c p q r : Int) (s : ByteArray) : ∃ (x : ByteArray) (o : Bool), ansDb a b c p q r s = .tuple #[.string x, .bool o] := by
  unfold ansDb
  split
  · exact ⟨_, _, rfl⟩
  · exact ⟨_, _, rfl⟩
set_option maxRecDepth 100000 in
set_option maxHeartbeats 3200000 in
theorem likelier_any (x y : Int) (w : World) :
    Calls Tryd.prog 25 #[pr2 x y] w fun e w' => e = .returned (.string (lkl x y)) ∧ Below w.heap.size w w' := by
  by_cases h1 : y < x
  · rw [show lkl x y = ⟨#[100]⟩ from by unfold lkl; rw [if_pos h1]]
    go_enter Tryd.func25, Tryd.ntmps25
    go_wp2
    go_ret
    exact ⟨rfl, bel_alloc (Below.refl _ _) _⟩
  · have h1d : decide (y < x) = false := by simpa using h1
    by_cases h2 : x < y
    · rw [show lkl x y = ⟨#[119]⟩ from by unfold lkl; rw [if_neg h1, if_pos h2]]
      go_enter Tryd.func25, Tryd.ntmps25
      go_wp2
      go_ret
      exact ⟨rfl, bel_alloc (Below.refl _ _) _⟩
    · have h2d : decide (x < y) = false := by simpa using h2
      rw [show lkl x y = ⟨#[63]⟩ from by unfold lkl; rw [if_neg h1, if_neg h2]]
      go_enter Tryd.func25, Tryd.ntmps25
      go_wp2
      go_ret
      exact ⟨rfl, bel_alloc (Below.refl _ _) _⟩
/-- What a drawn region keeps: the block of the hidden days, the iterator, and what was there before. -/
def HkI (w W : World) (k : Nat) (a b c p q r : Int) (I : Nat) (s : ByteArray) (n : Nat) : Prop := W.cell? ⟨k, 0, none⟩ = some (.int .i64 a) ∧ W.cell? ⟨k, 1, none⟩ = some (.int .i64 b) ∧ W.cell? ⟨k, 2, none⟩ = some (.int .i64 c) ∧ W.cell? ⟨k, 3, none⟩ = some (.int .i64 p) ∧ W.cell? ⟨k, 4, none⟩ = some (.int .i64 q) ∧ W.cell? ⟨k, 5, none⟩ = some (.int .i64 r) ∧ k < W.heap.size ∧ W.heap[I]? = some (.stringIter s n) ∧ Below w.heap.size w W
theorem hi_start {w W : World} {k : Nat} {a b c p q r : Int} {I : Nat} {s : ByteArray} {n : Nat} (h : Box6 W k a b c p q r) (hI : W.heap[I]? = some (.stringIter s n)) (hb : Below w.heap.size w W) : HkI w W.drew k a b c p q r I s n := by
  obtain ⟨h0, h1, h2, h3, h4, h5, h6⟩ := h
  exact ⟨h0, h1, h2, h3, h4, h5, h6, hI, hb.drew⟩
theorem hi_keep {w W w1 : World} {k : Nat} {a b c p q r : Int} {I : Nat} {s : ByteArray} {n : Nat} (h : HkI w W k a b c p q r I s n) (hb : Below W.heap.size W w1) : HkI w w1 k a b c p q r I s n := by
  obtain ⟨h0, h1, h2, h3, h4, h5, h6, hI, h7⟩ := h
  obtain ⟨g0, g1, g2, g3, g4, g5, g6⟩ := Box6.keep ⟨h0, h1, h2, h3, h4, h5, h6⟩ hb
  exact ⟨g0, g1, g2, g3, g4, g5, g6, (hb.block I (Array.getElem?_eq_some_iff.1 hI).1).trans hI, bel_trans h7 hb⟩
theorem hi_drewN {w W : World} {k : Nat} {a b c p q r : Int} {I : Nat} {s : ByteArray} {n : Nat} (h : HkI w W k a b c p q r I s n) (m : Nat) : HkI w (W.drewN m) k a b c p q r I s n := by
  obtain ⟨h0, h1, h2, h3, h4, h5, h6, hI, h7⟩ := h
  exact ⟨h0, h1, h2, h3, h4, h5, h6, hI, bel_drewN h7 m⟩
theorem hi_all {w W : World} {k : Nat} {a b c p q r : Int} {I : Nat} {s : ByteArray} {n : Nat} (h : HkI w W k a b c p q r I s n) : Box6 W k a b c p q r ∧ W.heap[I]? = some (.stringIter s n) ∧ Below w.heap.size w W := by
  obtain ⟨h0, h1, h2, h3, h4, h5, h6, hI, h7⟩ := h
  exact ⟨⟨h0, h1, h2, h3, h4, h5, h6⟩, hI, h7⟩

set_option maxRecDepth 100000 in
set_option maxHeartbeats 3200000 in
theorem specDb_any (a b c p q r : Int) (s : ByteArray) (w : World) (hs : s.size ≤ maxLen) :
    Calls Tryd.prog 8 #[hdn a b c p q r, .string s] w fun e w' => e = .returned (ansDb a b c p q r s) ∧ Below w.heap.size w w' := by
  have HS := Lib.hid hs
  have bx := Lib.hid (Box6.new w a b c p q r 30)
  cases h : (goodH a b c p q r && signsB s)
  · rw [show ansDb a b c p q r s = .tuple #[.string ⟨#[]⟩, .bool false] from by unfold ansDb; rw [h]; rfl]
    go_enter Tryd.func8, Tryd.ntmps8
    go_wp2_with fail
    refine (hdAsked_any _ _ _ _ _ _ s _ HS.out).mono ?_
    rintro e w1 ⟨rfl, hb1⟩
    rw [h]
    go_wp2_with fail
    go_ret2
    exact ⟨rfl, bel_trans (bel_alloc (Below.refl _ _) _) hb1⟩
  · have h' := h
    rw [Bool.and_eq_true] at h'
    obtain ⟨hr, hp⟩ := goodH_in h'.1
    obtain ⟨h1, h6, ha⟩ := signs_in h'.2
    have c1 : 1 ≤ c ∧ c ≤ 10 ∧ 1 ≤ r ∧ r ≤ 10 := by unfold inR at hr hp; omega
    obtain ⟨c1, c2, c3, c4⟩ := c1
    have hS : Hid (∀ W : World, Calls Tryd.prog 21 #[hdn a b c p q r, .string s, .int .i64 0, .int .u8 0] W fun e w' => e = .returned (.int .i64 (sgT a b c p q r s)) ∧ Below W.heap.size W w') := Lib.hid (fun W => hdSumA_any a b c p q r s 0 W hr hp ha h1 (by omega))
    rcases topS_casesD hr hp s (by omega) with ⟨ht, hT⟩ | ⟨ht, hT⟩
    rotate_left
    · rw [show ansDb a b c p q r s = .tuple #[.string ⟨#[]⟩, .bool false] from by unfold ansDb; rw [h, decide_eq_false ht]; rfl]
      rw [hT] at hS
      clear hr hp ha h' c1 c2 c3 c4 ht hT
      go_enter Tryd.func8, Tryd.ntmps8
      go_wp2_with fail
      refine (hdAsked_any _ _ _ _ _ _ s _ HS.out).mono ?_
      rintro e w1 ⟨rfl, hb1⟩
      rw [h]
      have bx1 := Lib.hid (bx.out.keep hb1)
      have bl1 := Lib.hid (bel_trans (bel_alloc (Below.refl _ w) _) hb1)
      obtain ⟨d0, d1, d2, d3, d4, d5, d6⟩ := bx1.out
      clear hb1
      go_wp2_with fail
      refine (hS.out _).mono ?_
      rintro e w2 ⟨rfl, hb2⟩
      go_wp2_with fail
      go_ret2
      exact ⟨rfl, bel_trans bl1.out hb2⟩
    rw [show ansDb a b c p q r s = .tuple #[.string (dbT a b c p q r s s.size), .bool true] from by unfold ansDb; rw [h, decide_eq_true ht]; rfl]
    have hT2 : (sgT a b c p q r s == 0) = false := by rw [beq_eq_false_iff_ne]; omega
    have h0 : Hid (∀ k : Nat, k < s.size → ∀ W : World, Calls Tryd.prog 21 #[hdn a b c p q r, .string s, .int .i64 k, .int .u8 100] W fun e w' => e = .returned (.int .i64 (kdV a b c p q r s k 0)) ∧ Below W.heap.size W w') := Lib.hid (fun k hk W => hdSum0_any a b c p q r s k W hr hp ha h1 (by omega) hk)
    have h1' : Hid (∀ k : Nat, k < s.size → ∀ W : World, Calls Tryd.prog 21 #[hdn a b c p q r, .string s, .int .i64 k, .int .u8 119] W fun e w' => e = .returned (.int .i64 (kdV a b c p q r s k 1)) ∧ Below W.heap.size W w') := Lib.hid (fun k hk W => hdSum1_any a b c p q r s k W hr hp ha h1 (by omega) hk)
    have hst : Hid (dbT a b c p q r s 0 = ⟨#[]⟩) := Lib.hid rfl
    have hsc : Hid (∀ k, dbT a b c p q r s (k + 1) = dbT a b c p q r s k ++ lkl (kdV a b c p q r s k 0) (kdV a b c p q r s k 1)) := Lib.hid (fun k => rfl)
    have hdz : Hid (∀ k, (dbT a b c p q r s k).size = k) := Lib.hid (dbT_size a b c p q r s)
    generalize hdd : dbT a b c p q r s = db at *
    generalize hkk : kdV a b c p q r s = kd at *
    clear hdd hkk
    generalize sgT a b c p q r s = X at *
    have HA := Lib.hid ha
    clear hr hp ha h' c1 c2 c3 c4 ht hT
    go_enter Tryd.func8, Tryd.ntmps8
    go_wp2_with fail
    refine (hdAsked_any _ _ _ _ _ _ s _ HS.out).mono ?_
    rintro e w1 ⟨rfl, hb1⟩
    rw [h]
    have bx1 := Lib.hid (bx.out.keep hb1)
    have bl1 := Lib.hid (bel_trans (bel_alloc (Below.refl _ w) _) hb1)
    obtain ⟨d0, d1, d2, d3, d4, d5, d6⟩ := bx1.out
    clear hb1
    go_wp2_with fail
    refine (hS.out _).mono ?_
    rintro e w2 ⟨rfl, hb2⟩
    have bx2 := Lib.hid (bx1.out.keep hb2)
    have bl2 := Lib.hid (bel_trans bl1.out hb2)
    have hsz2 := bl2.out.size
    clear hb2 d0 d1 d2 d3 d4 d5 d6
    go_wp2_with fail
    go_loopw [6] (fun x wr => ∃ k : Nat, k ≤ s.size ∧ x = .string (db k) ∧ Hid (wr.heap[w2.heap.size]? = some (.stringIter s k)) ∧ Hid (Box6 wr w.heap.size a b c p q r) ∧ Below w.heap.size w wr) (fun _ wr => s.size - wr.iterPos w2.heap.size)
    case atStart =>
      refine ⟨0, by omega, by rw [hst.out], ?_, ?_, ?_⟩
      · have := World.iter_heap w2 s 0
        exact Lib.hid (by simpa using this)
      · exact Lib.hid (bx2.out.keep (bel_alloc (Below.refl _ _) _))
      · exact bel_alloc bl2.out _
    case round =>
      obtain ⟨k, hk, rfl, hit, hbx, hbl⟩ := hrel
      obtain ⟨wa, rfl⟩ : ∃ wa : World, wa = wr := ⟨_, rfl⟩
      have hsz : w2.heap.size < wa.heap.size := (Array.getElem?_eq_some_iff.1 hit.out).1
      by_cases hlt : k < s.size
      · have hg := (sgB_iff _).1 (allG_at s k hlt HA.out)
        have hne : w.heap.size ≠ w2.heap.size := by have := bx2.out.2.2.2.2.2.2; omega
        obtain ⟨W0, hW0⟩ : ∃ W0, W0 = wa.iterAt w2.heap.size s (k + 1) := ⟨_, rfl⟩
        have hnx : ∀ ty, (Instr.next (.pointer (some ⟨w2.heap.size, 0, none⟩)) true ty).run Tryd.prog wa = .ok (.tuple #[.bool true, .int .i64 k, .int .i32 s[k].toNat]) W0 := fun ty => by
          rw [hW0]; exact Lib.run_next_ascii_at wa w2.heap.size s k ty hit.out hlt (by omega)
        have it0 := Lib.hid (Lib.iterAt_heap wa w2.heap.size s k (k + 1) hit.out)
        have bl0 := Lib.below_iterAt hbl (k := w2.heap.size) (by omega) s (k + 1)
        have bx0 : Hid (Box6 (wa.iterAt w2.heap.size s (k + 1)) w.heap.size a b c p q r) := Lib.hid (by
          obtain ⟨e0, e1, e2, e3, e4, e5, e6⟩ := hbx.out
          have hbk : Below w2.heap.size wa (wa.iterAt w2.heap.size s (k + 1)) := Lib.below_iterAt (Below.refl _ _) (k := w2.heap.size) (Nat.le_refl _) s (k + 1)
          have hlw : w.heap.size < w2.heap.size := bx2.out.2.2.2.2.2.2
          refine ⟨(hbk.cell (p := ⟨w.heap.size, 0, none⟩) hlw).trans e0, (hbk.cell (p := ⟨w.heap.size, 1, none⟩) hlw).trans e1, (hbk.cell (p := ⟨w.heap.size, 2, none⟩) hlw).trans e2, (hbk.cell (p := ⟨w.heap.size, 3, none⟩) hlw).trans e3, (hbk.cell (p := ⟨w.heap.size, 4, none⟩) hlw).trans e4, (hbk.cell (p := ⟨w.heap.size, 5, none⟩) hlw).trans e5, Nat.lt_of_lt_of_le e6 hbk.size⟩)
        rw [← hW0] at it0 bl0 bx0
        have Hpos := Lib.hid (iterPosW hit.out)
        clear hW0 hit
        have hA := Lib.hid (h0.out k hlt)
        have hB := Lib.hid (h1'.out k hlt)
        have hz := hdz.out k
        have t1 : ¬ 9223372036854775807 < (db k).size + 1 := by omega
        have hs3 := hsc.out k
        have Bl0 := Lib.hid bl0
        clear bl0 hg hne
        generalize kd k 0 = X0 at *
        generalize kd k 1 = X1 at *
        by_cases g1 : X1 < X0
        · rw [show lkl X0 X1 = ⟨#[100]⟩ from by unfold lkl; rw [if_pos g1]] at hs3
          have Hs3 := Lib.hid hs3
          clear hs3
          go_wp2_with fail
          go_region_held3 (fun w' => w'.cell? ⟨w.heap.size, 0, none⟩ = some (.int .i64 a) ∧ w'.cell? ⟨w.heap.size, 1, none⟩ = some (.int .i64 b) ∧ w'.cell? ⟨w.heap.size, 2, none⟩ = some (.int .i64 c) ∧ w'.cell? ⟨w.heap.size, 3, none⟩ = some (.int .i64 p) ∧ w'.cell? ⟨w.heap.size, 4, none⟩ = some (.int .i64 q) ∧ w'.cell? ⟨w.heap.size, 5, none⟩ = some (.int .i64 r) ∧ w.heap.size < w'.heap.size ∧ w'.heap[w2.heap.size]? = some (.stringIter s (k + 1)) ∧ Below w.heap.size w w')
            (first | exact hi_start bx0.out it0.out Bl0.out | exact hi_keep (by assumption) hb3 | exact hi_keep (by assumption) hb4 | exact hi_drewN (by assumption) _ | assumption | go_keep)
            (first | (go_at_call_of 21 (Value.int IntKind.u8 100); refine (hA.out _).mono ?_; rintro e w3 ⟨rfl, hb3⟩) | (go_at_call_of 21 (Value.int IntKind.u8 119); refine (hB.out _).mono ?_; rintro e w4 ⟨rfl, hb4⟩))
          all_goals
            obtain ⟨hbx9, hit9, hbl9⟩ := hi_all (by assumption)
            have Hbx9 := Lib.hid hbx9
            have Hit9 := Lib.hid hit9
            clear hbx9 hit9
            go_wp2_with fail
            exact ⟨⟨k + 1, by omega, by rw [Hs3.out], Hit9, Hbx9, hbl9⟩, by rw [iterPosW Hit9.out, Hpos.out]; omega⟩
        · have g1d : decide (X1 < X0) = false := by simpa using g1
          by_cases g2 : X0 < X1
          · rw [show lkl X0 X1 = ⟨#[119]⟩ from by unfold lkl; rw [if_neg g1, if_pos g2]] at hs3
            have Hs3 := Lib.hid hs3
            clear hs3
            go_wp2_with fail
            go_region_held3 (fun w' => w'.cell? ⟨w.heap.size, 0, none⟩ = some (.int .i64 a) ∧ w'.cell? ⟨w.heap.size, 1, none⟩ = some (.int .i64 b) ∧ w'.cell? ⟨w.heap.size, 2, none⟩ = some (.int .i64 c) ∧ w'.cell? ⟨w.heap.size, 3, none⟩ = some (.int .i64 p) ∧ w'.cell? ⟨w.heap.size, 4, none⟩ = some (.int .i64 q) ∧ w'.cell? ⟨w.heap.size, 5, none⟩ = some (.int .i64 r) ∧ w.heap.size < w'.heap.size ∧ w'.heap[w2.heap.size]? = some (.stringIter s (k + 1)) ∧ Below w.heap.size w w')
              (first | exact hi_start bx0.out it0.out Bl0.out | exact hi_keep (by assumption) hb3 | exact hi_keep (by assumption) hb4 | exact hi_drewN (by assumption) _ | assumption | go_keep)
              (first | (go_at_call_of 21 (Value.int IntKind.u8 100); refine (hA.out _).mono ?_; rintro e w3 ⟨rfl, hb3⟩) | (go_at_call_of 21 (Value.int IntKind.u8 119); refine (hB.out _).mono ?_; rintro e w4 ⟨rfl, hb4⟩))
            all_goals
              obtain ⟨hbx9, hit9, hbl9⟩ := hi_all (by assumption)
              have Hbx9 := Lib.hid hbx9
              have Hit9 := Lib.hid hit9
              clear hbx9 hit9
              go_wp2_with fail
              exact ⟨⟨k + 1, by omega, by rw [Hs3.out], Hit9, Hbx9, hbl9⟩, by rw [iterPosW Hit9.out, Hpos.out]; omega⟩
          · have g2d : decide (X0 < X1) = false := by simpa using g2
            rw [show lkl X0 X1 = ⟨#[63]⟩ from by unfold lkl; rw [if_neg g1, if_neg g2]] at hs3
            have Hs3 := Lib.hid hs3
            clear hs3
            go_wp2_with fail
            go_region_held3 (fun w' => w'.cell? ⟨w.heap.size, 0, none⟩ = some (.int .i64 a) ∧ w'.cell? ⟨w.heap.size, 1, none⟩ = some (.int .i64 b) ∧ w'.cell? ⟨w.heap.size, 2, none⟩ = some (.int .i64 c) ∧ w'.cell? ⟨w.heap.size, 3, none⟩ = some (.int .i64 p) ∧ w'.cell? ⟨w.heap.size, 4, none⟩ = some (.int .i64 q) ∧ w'.cell? ⟨w.heap.size, 5, none⟩ = some (.int .i64 r) ∧ w.heap.size < w'.heap.size ∧ w'.heap[w2.heap.size]? = some (.stringIter s (k + 1)) ∧ Below w.heap.size w w')
              (first | exact hi_start bx0.out it0.out Bl0.out | exact hi_keep (by assumption) hb3 | exact hi_keep (by assumption) hb4 | exact hi_drewN (by assumption) _ | assumption | go_keep)
              (first | (go_at_call_of 21 (Value.int IntKind.u8 100); refine (hA.out _).mono ?_; rintro e w3 ⟨rfl, hb3⟩) | (go_at_call_of 21 (Value.int IntKind.u8 119); refine (hB.out _).mono ?_; rintro e w4 ⟨rfl, hb4⟩))
            all_goals
              obtain ⟨hbx9, hit9, hbl9⟩ := hi_all (by assumption)
              have Hbx9 := Lib.hid hbx9
              have Hit9 := Lib.hid hit9
              clear hbx9 hit9
              go_wp2_with fail
              exact ⟨⟨k + 1, by omega, by rw [Hs3.out], Hit9, Hbx9, hbl9⟩, by rw [iterPosW Hit9.out, Hpos.out]; omega⟩
      · obtain rfl : k = s.size := by omega
        have hnx : ∀ ty, (Instr.next (.pointer (some ⟨w2.heap.size, 0, none⟩)) true ty).run Tryd.prog wa = .ok (.tuple #[.bool false]) wa := fun ty => Lib.run_next_end_at wa w2.heap.size s s.size ty hit.out hlt
        go_wp2_with fail
        go_ret2
        exact ⟨rfl, hbl⟩

set_option maxRecDepth 100000 in
set_option maxHeartbeats 3200000 in
theorem implDb_any (a b c p q r : Int) (s : ByteArray) (w : World) (hs : s.size ≤ maxLen) :
    Calls Tryd.prog 10 #[hdn a b c p q r, .string s] w fun e w' => e = .returned (ansDb a b c p q r s) ∧ Below w.heap.size w w' := by
  have HS := Lib.hid hs
  cases h : (goodH a b c p q r && signsB s)
  · rw [show ansDb a b c p q r s = .tuple #[.string ⟨#[]⟩, .bool false] from by unfold ansDb; rw [h]; rfl]
    go_enter Tryd.func10, Tryd.ntmps10
    go_wp2_with fail
    refine (behind_no a b c p q r s _ HS.out h).mono ?_
    rintro e w1 ⟨rfl, hb1⟩
    go_wp2_with fail
    go_ret2
    exact ⟨rfl, bel_trans (bel_alloc (Below.refl _ _) _) hb1⟩
  · have h' := h
    rw [Bool.and_eq_true] at h'
    obtain ⟨hr, hp⟩ := goodH_in h'.1
    obtain ⟨h1, h6, ha⟩ := signs_in h'.2
    have c1 : 1 ≤ c ∧ c ≤ 10 ∧ 1 ≤ r ∧ r ≤ 10 := by unfold inR at hr hp; omega
    obtain ⟨c1, c2, c3, c4⟩ := c1
    have hB : Hid (∀ W : World, Calls Tryd.prog 23 #[hdn a b c p q r, .string s] W fun e w' => ∃ v, e = .returned (.tuple #[v, .bool (decide (0 < topS a b c p q r s))]) ∧ IRow w' W.heap.size v (allV a b c p q r s) ∧ Below W.heap.size W w') := Lib.hid (fun W => behind_yes a b c p q r s W h'.1 h'.2)
    by_cases ht : 0 < topS a b c p q r s
    rotate_left
    · rw [show ansDb a b c p q r s = .tuple #[.string ⟨#[]⟩, .bool false] from by unfold ansDb; rw [h, decide_eq_false ht]; rfl]
      rw [decide_eq_false ht] at hB
      clear hr hp ha h' c1 c2 c3 c4 ht
      go_enter Tryd.func10, Tryd.ntmps10
      go_wp2_with fail
      refine (hB.out _).mono ?_
      rintro e w1 ⟨v, rfl, hR, hb1⟩
      go_wp2_with fail
      go_ret2
      exact ⟨rfl, bel_trans (bel_alloc (Below.refl _ _) _) hb1⟩
    rw [show ansDb a b c p q r s = .tuple #[.string (dbT a b c p q r s s.size), .bool true] from by unfold ansDb; rw [h, decide_eq_true ht]; rfl]
    rw [decide_eq_true ht] at hB
    have hD : Hid (∀ (k : Nat), k < s.size → ∀ (W : World) (base : Nat) (v : Value), IRow W base v (allV a b c p q r s) → Calls Tryd.prog 24 #[v, .int .i64 k] W fun e w' => e = .returned (pr2 (kdV a b c p q r s k 0) (kdV a b c p q r s k 1)) ∧ Below W.heap.size W w') := Lib.hid (fun k hk W base v h => daysAtV_any a b c p q r s v base k W hr hp (by omega) hk h)
    have hst : Hid (dbT a b c p q r s 0 = ⟨#[]⟩) := Lib.hid rfl
    have hsc : Hid (∀ k, dbT a b c p q r s (k + 1) = dbT a b c p q r s k ++ lkl (kdV a b c p q r s k 0) (kdV a b c p q r s k 1)) := Lib.hid (fun k => rfl)
    have hdz : Hid (∀ k, (dbT a b c p q r s k).size = k) := Lib.hid (dbT_size a b c p q r s)
    generalize hdd : dbT a b c p q r s = db at *
    generalize hkk : kdV a b c p q r s = kd at *
    generalize hzz : allV a b c p q r s = zs at *
    clear hr hp ha h' c1 c2 c3 c4 ht hdd hkk hzz
    go_enter Tryd.func10, Tryd.ntmps10
    go_wp2_with fail
    refine (hB.out _).mono ?_
    rintro e w1 ⟨v, rfl, hR, hb1⟩
    have bl1 := Lib.hid (bel_trans (bel_alloc (Below.refl _ w) _) hb1)
    have HR := Lib.hid hR
    clear hb1 hR
    generalize hBB : (w.alloc _).heap.size = BB at HR
    clear hBB
    go_wp2_with fail
    go_loopw [8, 20] (fun x i wr => ∃ k : Nat, k ≤ s.size ∧ i = .int .i64 k ∧ x = .string (db k) ∧ Hid (IRow wr BB v zs) ∧ Below w.heap.size w wr) (fun _ i _ => s.size - (intOf i).toNat)
    case atStart => exact ⟨0, by omega, rfl, by rw [hst.out], HR, bl1.out⟩
    case round =>
      obtain ⟨k, hk, rfl, rfl, hrow, hbl⟩ := hrel
      obtain ⟨wa, rfl⟩ : ∃ wa : World, wa = wr := ⟨_, rfl⟩
      by_cases hlt : k < s.size
      · have hd := Lib.hid (hD.out k hlt)
        have hz := hdz.out k
        have hki : (k : Int) < (s.size : Int) := by omega
        have hs3 := Lib.hid (hsc.out k)
        generalize kd k 0 = X0 at *
        generalize kd k 1 = X1 at *
        have hlz := lkl_size X0 X1
        have hlk := Lib.hid (likelier_any X0 X1)
        generalize lkl X0 X1 = T at *
        have hadd : ∀ W : World, (Op.stringOp .add (db k) T).run Tryd.prog W = .ok (.string (db k ++ T)) W := fun W => run_string_add W _ _ (by omega) (by omega)
        generalize hDT : db k ++ T = DT at *
        clear hDT
        go_wp2_with fail
        refine (hd.out _ _ _ hrow.out).mono ?_
        rintro e w2 ⟨rfl, hb2⟩
        have hrow2 := Lib.hid (hrow.out.below hb2)
        have hbl2 := Lib.hid (bel_trans hbl hb2)
        clear hb2
        go_wp2_with fail
        refine (hlk.out _).mono ?_
        rintro e w3 ⟨rfl, hb3⟩
        have hrow3 := Lib.hid (hrow2.out.below hb3)
        have hbl3 := Lib.hid (bel_trans hbl2.out hb3)
        clear hb3
        go_wp2_with fail
        exact ⟨⟨k + 1, by omega, by go_num, by rw [hs3.out], hrow3, hbl3.out⟩, by simp [intOf]; omega⟩
      · obtain rfl : k = s.size := by omega
        go_wp2_with fail
        go_ret2
        exact ⟨rfl, hbl⟩

set_option maxRecDepth 100000 in
set_option maxHeartbeats 3200000 in
theorem walkExactDayByDay (a b c p q r : Int) (s : ByteArray) (w : World) (ha : (Lit.int .i64 a).wf = true) (hb : (Lit.int .i64 b).wf = true) (hc : (Lit.int .i64 c).wf = true) (hp : (Lit.int .i64 p).wf = true) (hq : (Lit.int .i64 q).wf = true) (hr : (Lit.int .i64 r).wf = true) (zs : s.size ≤ maxLen) :
    Calls Tryd.prog 3 #[hdn a b c p q r, .string s] w fun e w' => e = .returned (.bool true) ∧ Below w.heap.size w w' := by
  clear ha hb hc hp hq hr
  by_cases ls : s.size ≤ 1048576
  · skip
    obtain ⟨x, ok, hv⟩ := ansDb_form a b c p q r s
    have Zs := Lib.hid zs
    have Hv := Lib.hid hv
    clear hv zs
    have bx := Lib.hid (Box6.new w a b c p q r 25)
    go_enter Tryd.func3, Tryd.ntmps3
    go_wp2_with fail
    refine (toHidden_any _ _ _ _ _ _ _).mono ?_
    rintro e w1 ⟨rfl, hb1⟩
    have bx1 := Lib.hid (bx.out.keep hb1)
    go_wp2_with fail
    refine (specDb_any _ _ _ _ _ _ s _ Zs.out).mono ?_
    rw [Hv.out]
    rintro e w2 ⟨rfl, hb2⟩
    obtain ⟨c0, c1, c2, c3, c4, c5, hk⟩ := bx1.out.keep hb2
    go_wp2_with fail
    refine (toHidden_any _ _ _ _ _ _ _).mono ?_
    rintro e w3 ⟨rfl, hb3⟩
    go_wp2_with fail
    refine (implDb_any _ _ _ _ _ _ s _ Zs.out).mono ?_
    rw [Hv.out]
    rintro e w4 ⟨rfl, hb4⟩
    go_wp2_with fail
    go_ret
    exact ⟨rfl, bel_trans (bel_trans (bel_trans (bel_trans (bel_alloc (Below.refl _ _) _) hb1) hb2) hb3) hb4⟩
  · go_enter Tryd.func3, Tryd.ntmps3
    go_wp2
    go_ret
    exact ⟨rfl, bel_alloc (Below.refl _ _) _⟩

end Go.Proofs.YtjfcpbedmdnjcabDoor
