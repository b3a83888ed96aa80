/- CountChanges: the contracts of the program and of its model, and the law's walk. -/
import Derived.Test.YtkehgokgngimgaaInts
namespace Go.Proofs.Ytkehgokgngimgaa
open Go.ChangeShapes Go.WideShapes Go.ChangeAt Go.RowKit
set_option linter.unusedVariables false

/-- What a call answers that makes a slice of numbers: the slice holds xs, in memory made since the call began. -/
def RowAns (xs : List Int) (ok : Bool) (w : World) (e : Ending) (w' : World) : Prop :=
  ∃ v, e = .returned (.tuple #[v, .bool ok]) ∧ IRow w' w.heap.size v xs ∧ Below w.heap.size w w'
/-- The same of a call with one result. -/
def RowOne (xs : List Int) (w : World) (e : Ending) (w' : World) : Prop :=
  ∃ v, e = .returned v ∧ IRow w' w.heap.size v xs ∧ Below w.heap.size w w'
theorem IRow.nil (w : World) (b : Nat) : IRow w b (.slice none 0 0) [] := World.ownsRow_nil w b _ _
theorem IRow.below {w w' : World} {base : Nat} {v : Value} {xs : List Int} (h : IRow w base v xs) (hb : Below w.heap.size w w') : IRow w' base v xs := by
  refine ⟨h.1, ?_⟩
  rcases h.2 with hn | ⟨g, cap, cur, rfl, hbg, hgg, rest⟩
  · exact .inl hn
  · refine .inr ⟨g, cap, cur, rfl, hbg, ?_, rest⟩
    rw [← hgg]
    refine hb.block g ?_
    rcases Nat.lt_or_ge g w.heap.size with hlt | hge
    · exact hlt
    · rw [Array.getElem?_eq_none hge] at hgg; cases hgg
theorem IRow.mono {w : World} {b b' : Nat} {v : Value} {xs : List Int} (h : IRow w b v xs) (hb : b' ≤ b) : IRow w b' v xs := by
  refine ⟨h.1, ?_⟩
  rcases h.2 with hn | ⟨g, cap, cur, rfl, hbg, rest⟩
  · exact .inl hn
  · exact .inr ⟨g, cap, cur, rfl, Nat.le_trans hb hbg, rest⟩
theorem bel_undrewN {W w1 : World} {n : Nat} (h : Below (W.drewN n).heap.size (W.drewN n) w1) : Below W.heap.size W w1 := ⟨h.os, h.tape, h.output, h.size, h.block⟩
theorem bel_grown {w W w' : World} {b : Nat} {v : Value} {xs : List Int} (h : Below w.heap.size w W) (hg : W.grownBy w' v.ownBlock) (hr : IRow W b v xs) (hb : w.heap.size ≤ b) : Below w.heap.size w w' :=
  h.grown hg h.size fun k hk => Nat.le_trans hb (World.ownsRow.lt hr k hk).1
/-- A row that was there before another one was made is as it was when that one is written. -/
theorem IRow.kept_by {w0 W w' : World} {b0 b1 : Nat} {v0 v1 : Value} {xs ys : List Int} (h : IRow W b0 v0 xs) (hg : W.grownBy w' v1.ownBlock) (h1 : IRow W b1 v1 ys) {n : Nat} (hn : n ≤ w0.heap.size) (h0 : IRow w0 b0 v0 xs) (hb : w0.heap.size ≤ b1 := by exact Nat.le_refl _) : IRow w' b0 v0 xs := by
  refine World.ownsRow.kept h hg ?_
  cases hv : v0.ownBlock with
  | none => exact .inl rfl
  | some k =>
    refine .inr fun he => ?_
    have l0 := (World.ownsRow.lt h0 k hv).2
    have l1 := (World.ownsRow.lt h1 k he.symm).1
    omega

/-- The number of the step from the day before to day i. -/
def kind (s : ByteArray) (i : Nat) : Nat := (if sgn s (i - 1) = 119 then 2 else 0) + (if sgn s i = 119 then 1 else 0)
/-- How often each step is there among the first n days. -/
def chg4 (s : ByteArray) : Nat → Int × Int × Int × Int
  | 0 => (0, 0, 0, 0)
  | n + 1 => if n = 0 then (0, 0, 0, 0) else
    let p := chg4 s n
    (p.1 + (if kind s n = 0 then 1 else 0), p.2.1 + (if kind s n = 1 then 1 else 0), p.2.2.1 + (if kind s n = 2 then 1 else 0), p.2.2.2 + (if kind s n = 3 then 1 else 0))
theorem chg4_in (s : ByteArray) : ∀ n : Nat, 0 ≤ (chg4 s n).1 ∧ 0 ≤ (chg4 s n).2.1 ∧ 0 ≤ (chg4 s n).2.2.1 ∧ 0 ≤ (chg4 s n).2.2.2 ∧ (chg4 s n).1 ≤ n ∧ (chg4 s n).2.1 ≤ n ∧ (chg4 s n).2.2.1 ≤ n ∧ (chg4 s n).2.2.2 ≤ n
  | 0 => by simp [chg4]
  | n + 1 => by
    have ih := chg4_in s n
    unfold chg4
    split
    · simp; omega
    · dsimp only
      refine ⟨?_, ?_, ?_, ?_, ?_, ?_, ?_, ?_⟩ <;> split <;> omega
def ansChanges (s : ByteArray) : List Int := if daysB s then [(chg4 s s.size).1, (chg4 s s.size).2.1, (chg4 s s.size).2.2.1, (chg4 s s.size).2.2.2] else []
theorem ansChanges_len (s : ByteArray) : (ansChanges s).length ≤ 1000 := by unfold ansChanges; split <;> simp
theorem row4 {w W : World} {k : Nat} {x0 x1 x2 x3 : Int} (h : W.heap[k]? = some (.cells #[.int .i64 x0, .int .i64 x1, .int .i64 x2, .int .i64 x3] 3 (0, 0))) (hk : w.heap.size ≤ k) :
    IRow W w.heap.size (.slice (some ⟨k, 0, none⟩) 4 4) [x0, x1, x2, x3] :=
  ⟨rfl, .inr ⟨k, 4, _, rfl, hk, h, Nat.le_refl _, by decide, rfl, rfl⟩⟩

def Row4 (W : World) (k : Nat) (x0 x1 x2 x3 : Int) : Prop := W.heap[k]? = some (.cells #[.int .i64 x0, .int .i64 x1, .int .i64 x2, .int .i64 x3] 3 (0, 0))
theorem Row4.new (w : World) : Row4 (w.alloc (.cells #[.int .i64 0, .int .i64 0, .int .i64 0, .int .i64 0] 3)) w.heap.size 0 0 0 0 := by
  exact heap_alloc_new w _
theorem Row4.cells {W : World} {k : Nat} {x0 x1 x2 x3 : Int} (h : Row4 W k x0 x1 x2 x3) :
    W.cell? ⟨k, 0, none⟩ = some (.int .i64 x0) ∧ W.cell? ⟨k, 1, none⟩ = some (.int .i64 x1) ∧ W.cell? ⟨k, 2, none⟩ = some (.int .i64 x2) ∧ W.cell? ⟨k, 3, none⟩ = some (.int .i64 x3) := by
  unfold Row4 at h
  refine ⟨?_, ?_, ?_, ?_⟩ <;> simp [World.cell?, h]
theorem Row4.frozen {W : World} {k : Nat} {x0 x1 x2 x3 : Int} (h : Row4 W k x0 x1 x2 x3) (j : Nat) : W.frozen? ⟨k, j, none⟩ = false := by
  unfold Row4 at h
  simp [World.frozen?, h]
theorem Row4.set {W : World} {k : Nat} {x0 x1 x2 x3 : Int} (h : Row4 W k x0 x1 x2 x3) (u : Int) :
    Row4 (W.setCell ⟨k, 0, none⟩ (.int .i64 u)) k u x1 x2 x3 ∧ Row4 (W.setCell ⟨k, 1, none⟩ (.int .i64 u)) k x0 u x2 x3 ∧ Row4 (W.setCell ⟨k, 2, none⟩ (.int .i64 u)) k x0 x1 u x3 ∧ Row4 (W.setCell ⟨k, 3, none⟩ (.int .i64 u)) k x0 x1 x2 u := by
  unfold Row4 at *
  refine ⟨?_, ?_, ?_, ?_⟩ <;> simp [World.setCell, Array.getElem?_modify, h]
theorem chg4_succ (s : ByteArray) (n : Nat) (h : 1 ≤ n) : chg4 s (n + 1) = ((chg4 s n).1 + (if kind s n = 0 then 1 else 0), (chg4 s n).2.1 + (if kind s n = 1 then 1 else 0), (chg4 s n).2.2.1 + (if kind s n = 2 then 1 else 0), (chg4 s n).2.2.2 + (if kind s n = 3 then 1 else 0)) := by
  conv => lhs; unfold chg4
  rw [if_neg (by omega)]

theorem sgn_cases (s : ByteArray) (k : Nat) (h : k < s.size) (ha : allB s = true) : sgn s k = 100 ∨ sgn s k = 119 := sgn_day s k h ha

set_option maxHeartbeats 1600000 in
theorem cnChanges_any (s : ByteArray) (w : World) (hs : s.size ≤ 60) (hs1 : 1 ≤ s.size) (ha : allB s = true) :
    Calls Try.prog 83 #[.string s] w (RowOne [(chg4 s s.size).1, (chg4 s s.size).2.1, (chg4 s s.size).2.2.1, (chg4 s s.size).2.2.2] w) := by
  have HA := Lib.hid ha
  clear ha
  have hmk : ∀ W : World, (Instr.makeSlice 40 (.int .i64 4) (.int .i64 4)).run Try.prog W = .ok (.slice (some ⟨W.heap.size, 0, none⟩) 4 4) (W.alloc (.cells #[.int .i64 0, .int .i64 0, .int .i64 0, .int .i64 0] 3)) := fun _ => by kernel_rfl
  go_enter Try.func83, Try.ntmps83
  go_wp2
  go_loopw [4, 5] (fun i j wr => ∃ k : Nat, 1 ≤ k ∧ k ≤ s.size ∧ i = .int .i64 k ∧ (∃ j0 : Value, j = j0) ∧ Hid (Row4 wr w.heap.size (chg4 s k).1 (chg4 s k).2.1 (chg4 s k).2.2.1 (chg4 s k).2.2.2) ∧ Below w.heap.size w wr) (fun i _ _ => s.size - (intOf i).toNat)
  case atStart => exact ⟨1, by omega, by omega, rfl, ⟨_, rfl⟩, Row4.new w, bel_alloc (Below.refl _ _) _⟩
  case round =>
    obtain ⟨k, hk1, hk, rfl, ⟨j0, rfl⟩, hrow, hbl⟩ := hrel
    by_cases hlt : k < s.size
    · obtain ⟨q1, q2, q3, q4, q5, q6, q7, q8⟩ := chg4_in s k
      have hS := chg4_succ s k hk1
      have e1 := sgn_at s (k - 1) (by omega)
      have e2 := sgn_at s k (by omega)
      have hw1 : IntKind.i64.wrap ((k : Int) - 1) = ((k - 1 : Nat) : Int) := by rw [IntWalk.i64_in _ (by omega)]; omega
      have hlt' : k - 1 < s.size := by omega
      have hkk : (k : Int) - 1 = ((k - 1 : Nat) : Int) := by omega
      obtain ⟨c0, c1, c2, c3⟩ := hrow.out.cells
      have f := hrow.out.frozen
      have f0 := f 0
      have f1 := f 1
      have f2 := f 2
      have f3 := f 3
      clear f
      rcases sgn_cases s (k - 1) (by omega) HA.out with ex | ex <;> rcases sgn_cases s k hlt HA.out with ey | ey
      · have hkd : kind s k = 0 := by unfold kind; rw [ex, ey]; rfl
        rw [hkd] at hS
        simp at hS
        have HS := Lib.hid hS
        have HR := Lib.hid ((hrow.out.set ((chg4 s k).1 + 1)).1)
        rw [ex] at e1
        rw [ey] at e2
        clear hS hkd ex ey
        generalize hv : (chg4 s k).1 = v at *
        clear hv
        go_wp2
        exact ⟨⟨k + 1, by omega, by omega, by go_num, ⟨_, rfl⟩, by rw [HS.out]; exact HR, hbl.setCell (Nat.le_refl _) _⟩, by simp [intOf]; omega⟩
      · have hkd : kind s k = 1 := by unfold kind; rw [ex, ey]; rfl
        rw [hkd] at hS
        simp at hS
        have HS := Lib.hid hS
        have HR := Lib.hid ((hrow.out.set ((chg4 s k).2.1 + 1)).2.1)
        rw [ex] at e1
        rw [ey] at e2
        clear hS hkd ex ey
        generalize hv : (chg4 s k).2.1 = v at *
        clear hv
        go_wp2
        exact ⟨⟨k + 1, by omega, by omega, by go_num, ⟨_, rfl⟩, by rw [HS.out]; exact HR, hbl.setCell (Nat.le_refl _) _⟩, by simp [intOf]; omega⟩
      · have hkd : kind s k = 2 := by unfold kind; rw [ex, ey]; rfl
        rw [hkd] at hS
        simp at hS
        have HS := Lib.hid hS
        have HR := Lib.hid ((hrow.out.set ((chg4 s k).2.2.1 + 1)).2.2.1)
        rw [ex] at e1
        rw [ey] at e2
        clear hS hkd ex ey
        generalize hv : (chg4 s k).2.2.1 = v at *
        clear hv
        go_wp2
        exact ⟨⟨k + 1, by omega, by omega, by go_num, ⟨_, rfl⟩, by rw [HS.out]; exact HR, hbl.setCell (Nat.le_refl _) _⟩, by simp [intOf]; omega⟩
      · have hkd : kind s k = 3 := by unfold kind; rw [ex, ey]; rfl
        rw [hkd] at hS
        simp at hS
        have HS := Lib.hid hS
        have HR := Lib.hid ((hrow.out.set ((chg4 s k).2.2.2 + 1)).2.2.2)
        rw [ex] at e1
        rw [ey] at e2
        clear hS hkd ex ey
        generalize hv : (chg4 s k).2.2.2 = v at *
        clear hv
        go_wp2
        exact ⟨⟨k + 1, by omega, by omega, by go_num, ⟨_, rfl⟩, by rw [HS.out]; exact HR, hbl.setCell (Nat.le_refl _) _⟩, by simp [intOf]; omega⟩
    · have hks : k = s.size := by omega
      have Hks := Lib.hid hks
      clear hks
      go_wp2
      go_ret
      exact ⟨_, rfl, by rw [← Hks.out]; exact row4 hrow.out (Nat.le_refl _), hbl⟩

theorem ansChanges_yes {s : ByteArray} (h : daysB s = true) : ansChanges s = [(chg4 s s.size).1, (chg4 s s.size).2.1, (chg4 s s.size).2.2.1, (chg4 s s.size).2.2.2] := by unfold ansChanges; rw [h]; rfl
theorem ansChanges_no {s : ByteArray} (h : daysB s = false) : ansChanges s = [] := by unfold ansChanges; rw [h]; rfl
theorem days_size {s : ByteArray} (h : daysB s = true) : 1 ≤ s.size ∧ s.size ≤ 60 ∧ allB s = true := by
  unfold daysB inB at h
  simp at h
  exact ⟨by omega, by omega, h.2⟩

set_option maxHeartbeats 1600000 in
theorem specChanges_any (s : ByteArray) (w : World) (hs : s.size ≤ maxLen) :
    Calls Try.prog 50 #[.string s] w (RowAns (ansChanges s) (daysB s) w) := by
  cases h2 : daysB s
  · rw [ansChanges_no h2]
    go_enter Try.func50, Try.ntmps50
    go_wp2_with fail
    refine (cnDays_any s _ hs).mono ?_
    rintro e w8 ⟨rfl, rfl⟩
    rw [h2]
    go_wp2_with fail
    go_ret2
    exact ⟨_, rfl, IRow.nil _ _, Below.refl _ _⟩
  · rw [ansChanges_yes h2]
    obtain ⟨g1, g2, g3⟩ := days_size h2
    go_enter Try.func50, Try.ntmps50
    go_wp2_with fail
    refine (cnDays_any s _ hs).mono ?_
    rintro e w8 ⟨rfl, rfl⟩
    rw [h2]
    go_wp2_with fail
    refine (cnChanges_any s _ g2 g1 g3).mono ?_
    rintro e w9 ⟨v, rfl, hv, hb⟩
    have Hv := Lib.hid hv
    clear hv
    go_wp2_with fail
    go_ret2
    exact ⟨v, rfl, Hv.out, hb⟩

set_option maxHeartbeats 1600000 in
theorem implChanges_any (s : ByteArray) (w : World) (hs : s.size ≤ maxLen) :
    Calls Try.prog 51 #[.string s] w (RowAns (ansChanges s) (daysB s) w) := by
  have hmk : ∀ W : World, (Instr.makeSlice 40 (.int .i64 4) (.int .i64 4)).run Try.prog W = .ok (.slice (some ⟨W.heap.size, 0, none⟩) 4 4) (W.alloc (.cells #[.int .i64 0, .int .i64 0, .int .i64 0, .int .i64 0] 3)) := fun _ => by kernel_rfl
  cases h2 : daysB s
  · rw [ansChanges_no h2]
    go_enter Try.func51, Try.ntmps51
    go_wp2_with fail
    refine (implAreDays_any s _ hs).mono ?_
    rintro e w8 ⟨rfl, rfl⟩
    rw [h2]
    go_wp2_with fail
    go_ret2
    exact ⟨_, rfl, IRow.nil _ _, Below.refl _ _⟩
  · rw [ansChanges_yes h2]
    obtain ⟨g1, g2, g3⟩ := days_size h2
    have HA := Lib.hid g3
    clear g3
    go_enter Try.func51, Try.ntmps51
    go_wp2_with fail
    refine (implAreDays_any s _ hs).mono ?_
    rintro e w8 ⟨rfl, rfl⟩
    rw [h2]
    go_wp2_with fail
    go_loopw [5, 6] (fun i j wr => ∃ k : Nat, 1 ≤ k ∧ k ≤ s.size ∧ i = .int .i64 k ∧ (∃ j0 : Value, j = j0) ∧ Hid (Row4 wr w.heap.size (chg4 s k).1 (chg4 s k).2.1 (chg4 s k).2.2.1 (chg4 s k).2.2.2) ∧ Below w.heap.size w wr) (fun i _ _ => s.size - (intOf i).toNat)
    case atStart => exact ⟨1, by omega, by omega, rfl, ⟨_, rfl⟩, Row4.new w, bel_alloc (Below.refl _ _) _⟩
    case round =>
      obtain ⟨k, hk1, hk, rfl, ⟨j0, rfl⟩, hrow, hbl⟩ := hrel
      by_cases hlt : k < s.size
      · obtain ⟨q1, q2, q3, q4, q5, q6, q7, q8⟩ := chg4_in s k
        have hS := chg4_succ s k hk1
        have e1 := sgn_at s (k - 1) (by omega)
        have e2 := sgn_at s k (by omega)
        have hw1 : IntKind.i64.wrap ((k : Int) - 1) = ((k - 1 : Nat) : Int) := by rw [IntWalk.i64_in _ (by omega)]; omega
        have hlt' : k - 1 < s.size := by omega
        have hkk : (k : Int) - 1 = ((k - 1 : Nat) : Int) := by omega
        obtain ⟨c0, c1, c2, c3⟩ := hrow.out.cells
        have f := hrow.out.frozen
        have f0 := f 0
        have f1 := f 1
        have f2 := f 2
        have f3 := f 3
        clear f
        rcases sgn_cases s (k - 1) (by omega) HA.out with ex | ex <;> rcases sgn_cases s k hlt HA.out with ey | ey
        · have hkd : kind s k = 0 := by unfold kind; rw [ex, ey]; rfl
          rw [hkd] at hS
          simp at hS
          have HS := Lib.hid hS
          have HR := Lib.hid ((hrow.out.set ((chg4 s k).1 + 1)).1)
          rw [ex] at e1
          rw [ey] at e2
          clear hS hkd ex ey
          generalize hv : (chg4 s k).1 = v at *
          clear hv
          go_wp2
          exact ⟨⟨k + 1, by omega, by omega, by go_num, ⟨_, rfl⟩, by rw [HS.out]; exact HR, hbl.setCell (Nat.le_refl _) _⟩, by simp [intOf]; omega⟩
        · have hkd : kind s k = 1 := by unfold kind; rw [ex, ey]; rfl
          rw [hkd] at hS
          simp at hS
          have HS := Lib.hid hS
          have HR := Lib.hid ((hrow.out.set ((chg4 s k).2.1 + 1)).2.1)
          rw [ex] at e1
          rw [ey] at e2
          clear hS hkd ex ey
          generalize hv : (chg4 s k).2.1 = v at *
          clear hv
          go_wp2
          exact ⟨⟨k + 1, by omega, by omega, by go_num, ⟨_, rfl⟩, by rw [HS.out]; exact HR, hbl.setCell (Nat.le_refl _) _⟩, by simp [intOf]; omega⟩
        · have hkd : kind s k = 2 := by unfold kind; rw [ex, ey]; rfl
          rw [hkd] at hS
          simp at hS
          have HS := Lib.hid hS
          have HR := Lib.hid ((hrow.out.set ((chg4 s k).2.2.1 + 1)).2.2.1)
          rw [ex] at e1
          rw [ey] at e2
          clear hS hkd ex ey
          generalize hv : (chg4 s k).2.2.1 = v at *
          clear hv
          go_wp2
          exact ⟨⟨k + 1, by omega, by omega, by go_num, ⟨_, rfl⟩, by rw [HS.out]; exact HR, hbl.setCell (Nat.le_refl _) _⟩, by simp [intOf]; omega⟩
        · have hkd : kind s k = 3 := by unfold kind; rw [ex, ey]; rfl
          rw [hkd] at hS
          simp at hS
          have HS := Lib.hid hS
          have HR := Lib.hid ((hrow.out.set ((chg4 s k).2.2.2 + 1)).2.2.2)
          rw [ex] at e1
          rw [ey] at e2
          clear hS hkd ex ey
          generalize hv : (chg4 s k).2.2.2 = v at *
          clear hv
          go_wp2
          exact ⟨⟨k + 1, by omega, by omega, by go_num, ⟨_, rfl⟩, by rw [HS.out]; exact HR, hbl.setCell (Nat.le_refl _) _⟩, by simp [intOf]; omega⟩
      · have hks : k = s.size := by omega
        have Hks := Lib.hid hks
        clear hks
        go_wp2
        go_ret2
        exact ⟨_, rfl, by rw [← Hks.out]; exact row4 hrow.out (Nat.le_refl _), hbl⟩

set_option maxHeartbeats 1600000 in
theorem walkExactCountChanges (s : ByteArray) (w : World) (hs : s.size ≤ maxLen) :
    Calls Try.prog 16 #[.string s] w fun e w' => e = .returned (.bool true) ∧ Below w.heap.size w w' := by
  by_cases z : s.size ≤ 1048576
  · have hlen : (ansChanges s).length ≤ 1000 := ansChanges_len s
    generalize hxs : ansChanges s = xs at *
    have Hxs := Lib.hid hxs
    clear hxs
    generalize hok : daysB s = ok at *
    have Hok := Lib.hid hok
    clear hok
    go_enter Try.func16, Try.ntmps16
    go_wp2_with fail
    refine (specChanges_any s _ hs).mono ?_
    rw [Hxs.out, Hok.out]
    rintro e w1 ⟨v0, rfl, r0, bl1⟩
    have R0 := Lib.hid r0
    clear r0
    go_wp2_with fail
    refine (implChanges_any s _ hs).mono ?_
    rw [Hxs.out, Hok.out]
    rintro e w2 ⟨v1, rfl, r1, hb2⟩
    have R1 := Lib.hid r1
    clear r1
    have R0b := Lib.hid (R0.out.below hb2)
    have bl2 := bel_trans bl1 hb2
    go_wp2_with fail
    refine (eqInt_same xs v1 v0 _ _ _ R1.out R0b.out).mono ?_
    rintro e w3 ⟨rfl, n3, rfl⟩
    go_wp2_with fail
    refine (mark_any xs v1 _ 1 _ (R1.out.drewN n3) (by omega) (by omega)).mono ?_
    rintro e w4 ⟨rfl, r4, hg4⟩
    have R4 := Lib.hid r4
    clear r4
    have bl4 := bel_grown (bel_drewN bl2 n3) hg4 (R1.out.drewN n3) (Nat.le_trans bl1.size (Nat.le_refl _))
    have R0c := Lib.hid ((R0b.out.drewN n3).kept_by hg4 (R1.out.drewN n3) bl1.size (R0.out))
    go_wp2_with fail
    refine (held_any xs v1 _ 1 _ R4.out (by omega) (by omega)).mono ?_
    rintro e w5 ⟨rfl, n5, rfl⟩
    have t1 : decide ((1 : Int) + (xs.length : Int) < 0) = false := by simp; omega
    go_wp2_with fail
    refine (implChanges_any s _ hs).mono ?_
    rw [Hxs.out, Hok.out]
    rintro e w6 ⟨v2, rfl, r6, hb6⟩
    have R2 := Lib.hid r6
    clear r6
    have hb6b := bel_undrewN hb6
    have R0d := Lib.hid (R0c.out.below hb6b)
    have R1d := Lib.hid (R4.out.below hb6b)
    have bl6 := bel_trans bl4 hb6b
    go_wp2_with fail
    refine (eqInt_same xs v2 v0 _ _ _ R2.out R0d.out).mono ?_
    rintro e w7 ⟨rfl, n7, rfl⟩
    go_wp2_with fail
    refine (held_any xs v1 _ 1 _ (R1d.out.drewN n7) (by omega) (by omega)).mono ?_
    rintro e w8 ⟨rfl, n8, rfl⟩
    go_wp2_with fail
    go_ret
    refine ⟨rfl, ?_⟩
    repeat (first | assumption | with_reducible exact Below.refl _ _ | refine bel_alloc ?_ _ | refine bel_drewN ?_ _ | refine Below.drew ?_ | (refine Below.setCell ?_ (by simp) _) | (refine bel_trans ?_ (by assumption)))
  · go_enter Try.func16, Try.ntmps16
    go_wp2
    go_ret
    exact ⟨rfl, Below.refl _ _⟩

end Go.Proofs.Ytkehgokgngimgaa
