/- RunsOf: the contracts of the program and of its model, and the law's walk. -/
import Derived.Test.YtkehgokgngimgaaChanges
namespace Go.Proofs.Ytkehgokgngimgaa
open Go.ChangeShapes Go.WideShapes Go.ChangeAt Go.RowKit
set_option linter.unusedVariables false

theorem infoInt : (Try.prog.info? 3).map (fun i => (i.zero, i.size, i.bytes)) = some (some (.int .i64 0), 1, 8) := by kernel_rfl
def brk (s : ByteArray) (i : Nat) : Bool := i == 0 || sgn s i != sgn s (i - 1)
def bump (l : List Int) : List Int := l.set (l.length - 1) (l.getD (l.length - 1) 0 + 1)
/-- How long the runs of the first n days are. -/
def runsL (s : ByteArray) : Nat → List Int
  | 0 => []
  | n + 1 => if brk s n then runsL s n ++ [1] else bump (runsL s n)
theorem runs_in (s : ByteArray) : ∀ n : Nat, (runsL s n).length ≤ n ∧ (1 ≤ n → 1 ≤ (runsL s n).length) ∧ ∀ x ∈ runsL s n, 0 ≤ x ∧ x ≤ n
  | 0 => by simp [runsL]
  | n + 1 => by
    obtain ⟨h1, h2, h3⟩ := runs_in s n
    unfold runsL
    split
    · refine ⟨by simp; omega, by simp, ?_⟩
      intro x hx
      rw [List.mem_append] at hx
      rcases hx with hx | hx
      · have := h3 x hx; omega
      · simp at hx; omega
    · rename_i hb
      have hn : 1 ≤ n := by
        rcases Nat.eq_zero_or_pos n with e | e
        · subst e; simp [brk] at hb
        · exact e
      refine ⟨by unfold bump; simp; omega, fun _ => by unfold bump; simp; exact h2 hn, ?_⟩
      intro x hx
      unfold bump at hx
      rcases List.mem_or_eq_of_mem_set hx with hx | hx
      · have := h3 x hx; omega
      · have hl := h2 hn
        have := h3 ((runsL s n).getD ((runsL s n).length - 1) 0) (by rw [List.getD_eq_getElem?_getD, List.getElem?_eq_getElem (by omega)]; exact List.getElem_mem _)
        omega
theorem bump_one (l : List Int) : bump (l ++ [0]) = l ++ [1] := by
  unfold bump
  simp
def ansRuns (s : ByteArray) : List Int := if daysB s then runsL s s.size else []
theorem ansRuns_len (s : ByteArray) : (ansRuns s).length ≤ 1000 := by
  unfold ansRuns
  split
  · rename_i h
    have := (runs_in s s.size).1
    have := (days_size h).2.1
    omega
  · simp
theorem ansRuns_yes {s : ByteArray} (h : daysB s = true) : ansRuns s = runsL s s.size := by unfold ansRuns; rw [h]; rfl
theorem ansRuns_no {s : ByteArray} (h : daysB s = false) : ansRuns s = [] := by unfold ansRuns; rw [h]; rfl
theorem IRow.push {w : World} {base : Nat} {v : Value} {xs : List Int} {u : Int} (h : w.ownsRow base 3 1 v (xs.length + 1) (xs.map (Value.int .i64) ++ [.int .i64 u])) : IRow w base v (xs ++ [u]) := by
  unfold IRow
  rw [List.map_append, List.length_append]
  exact h
theorem new_cell (w : World) (u : Value) (t : TypeId) : (w.alloc (.cells #[u] t)).cell? ⟨w.heap.size, 0, none⟩ = some u := by simp [go_sem]
theorem set_last (l : List Int) (x y : Int) : (l ++ [x]).set l.length y = l ++ [y] := by simp
/-- A row that is not empty, at its last number. -/
theorem IRow.last {w : World} {base : Nat} {v : Value} {xs : List Int} (h : IRow w base v xs) (hx : 1 ≤ xs.length) : ∃ g cap, v = .slice (some ⟨g, 0, none⟩) xs.length cap ∧ base ≤ g ∧ g < w.heap.size ∧
    w.cell? ⟨g, xs.length - 1, none⟩ = some (.int .i64 (xs.getD (xs.length - 1) 0)) ∧ w.frozen? ⟨g, xs.length - 1, none⟩ = false ∧
    ∀ u : Int, IRow (w.setCell ⟨g, xs.length - 1, none⟩ (.int .i64 u)) base (.slice (some ⟨g, 0, none⟩) xs.length cap) (xs.set (xs.length - 1) u) := by
  rcases h.form with ⟨e, _⟩ | ⟨_, g, cap, rfl, hb, hg, _, _⟩
  · rw [e] at hx; simp at hx
  · exact ⟨g, cap, rfl, hb, hg, h.at_ _ (by omega), World.ownsRow.frozenAt h _, fun u => (h.store _ u).1⟩


set_option maxHeartbeats 1600000 in
theorem implRuns_any (s : ByteArray) (w : World) (hs : s.size ≤ maxLen) :
    Calls Try.prog 46 #[.string s] w (RowAns (ansRuns s) (daysB s) w) := by
  obtain ⟨i0, hi0, hz0, hz1, hz2⟩ := info_parts infoInt
  cases h2 : daysB s
  · rw [ansRuns_no h2]
    go_enter Try.func46, Try.ntmps46
    go_wp2_with fail
    refine (implAreDays_any s _ hs).mono ?_
    rintro e w8 ⟨rfl, rfl⟩
    rw [h2]
    go_wp2_with fail
    go_ret2
    exact ⟨_, rfl, IRow.nil _ _, Below.refl _ _⟩
  · rw [ansRuns_yes h2]
    obtain ⟨g1, g2, g3⟩ := days_size h2
    go_enter Try.func46, Try.ntmps46
    go_wp2_with fail
    refine (implAreDays_any s _ hs).mono ?_
    rintro e w8 ⟨rfl, rfl⟩
    rw [h2]
    go_wp2_with fail
    go_loopw [4, 11] (fun v i wr => ∃ k : Nat, k ≤ s.size ∧ i = .int .i64 k ∧ Hid (IRow wr w.heap.size v (runsL s k)) ∧ Below w.heap.size w wr) (fun _ i _ => s.size - (intOf i).toNat)
    case atStart => exact ⟨0, by omega, rfl, IRow.nil _ _, Below.refl _ _⟩
    case round =>
      obtain ⟨k, hk, rfl, hrow, hbl⟩ := hrel
      obtain ⟨q1, q2, q3⟩ := runs_in s k
      have Q3 := Lib.hid q3
      clear q3
      by_cases hlt : k < s.size
      · have hN : runsL s (k + 1) = if brk s k then runsL s k ++ [1] else bump (runsL s k) := rfl
        by_cases hk0 : k = 0
        · subst hk0
          have hb1 : brk s 0 = true := rfl
          rw [hb1] at hN
          simp only [if_true] at hN
          have HN := Lib.hid hN
          clear hN hb1
          go_wp2_with fail
          go_quiet (fail)
          go_wp2_with (at_builtin; refine wpList_append_own _ rfl (.tmp 26) (.tmp 27) 40 rfl w.heap.size 3 i0 (.int .i64 0) 1 8 Try.underlying40 hi0 hz0 hz1 hz2 rfl (by decide) _ (runsL s 0).length ((runsL s 0).map (Value.int .i64)) rfl ?own ⟨_, 0, none⟩ 1 1 [.int .i64 0] rfl rfl ?c1 ?c2 ?c3 ?c4 ?c5 ?_)
          case own => exact World.ownsRow.alloc hrow.out _
          case c1 => intro j u hu; cases j with | zero => (simp at hu; subst hu; exact new_cell _ _ _) | succ j => simp at hu
          case c2 => intro u hu; simp at hu; subst hu; rfl
          case c3 => unfold maxLen; omega
          case c4 => omega
          case c5 => simp; have := hbl.size; omega
          intro v' w1 hown1 hg1 _
          have hp := IRow.push hown1
          have hbw1 : Below w.heap.size w w1 := bel_grown (bel_alloc (bel_drewN hbl _) _) hg1 (World.ownsRow.alloc hrow.out _) (Nat.le_refl _)
          obtain ⟨g, cap, hv, hgb, hgl, hcell, hfro, hset⟩ := hp.last (by simp)
          subst hv
          have hz : (runsL s 0 ++ [(0 : Int)]).getD ((runsL s 0 ++ [(0 : Int)]).length - 1) 0 = 0 := by simp
          rw [hz] at hcell
          have hlen : (runsL s 0 ++ [(0 : Int)]).length = (runsL s 0).length + 1 := by simp
          rw [hlen, Nat.add_sub_cancel] at hcell hfro
          have hset1 := hset 1
          rw [hlen, Nat.add_sub_cancel] at hset1
          have Hset := Lib.hid hset1
          clear hset hset1 hp hown1
          rw [hlen]
          have hw1 : IntKind.i64.wrap ((((runsL s 0).length + 1 : Nat) : Int) - 1) = ((runsL s 0).length : Int) := by rw [IntWalk.i64_in _ (by omega)]; omega
          go_wp2
          exact ⟨⟨0 + 1, by omega, by go_num, by rw [HN.out, ← set_last _ 0 1]; exact Hset, hbw1.setCell hgb _⟩, by simp [intOf]; omega⟩
        · have e1 := sgn_at s (k - 1) (by omega)
          have e2 := sgn_at s k hlt
          have hlt' : k - 1 < s.size := by omega
          have hk1 : ((k : Int) == 0) = false := by simp; omega
          have hk4 : 0 < k := by omega
          have hk5 : decide (0 < k) = true := decide_eq_true hk4
          have hw3 : IntKind.i64.wrap ((k : Int) - 1) = ((k - 1 : Nat) : Int) := by rw [IntWalk.i64_in _ (by omega)]; omega
          cases hq : (sgn s k == sgn s (k - 1))
          · have hq2 : (sgn s k != sgn s (k - 1)) = true := by rw [bne, hq]; rfl
            have hb1 : brk s k = true := by unfold brk; rw [hq2, Bool.or_true]
            rw [hb1] at hN
            simp only [if_true] at hN
            have HN := Lib.hid hN
            clear hN hb1
            go_wp2_with fail
            go_quiet (fail)
            go_wp2_with (at_builtin; refine wpList_append_own _ rfl (.tmp 26) (.tmp 27) 40 rfl w.heap.size 3 i0 (.int .i64 0) 1 8 Try.underlying40 hi0 hz0 hz1 hz2 rfl (by decide) _ (runsL s k).length ((runsL s k).map (Value.int .i64)) rfl ?own ⟨_, 0, none⟩ 1 1 [.int .i64 0] rfl rfl ?c1 ?c2 ?c3 ?c4 ?c5 ?_)
            case own => exact World.ownsRow.alloc hrow.out _
            case c1 => intro j u hu; cases j with | zero => (simp at hu; subst hu; exact new_cell _ _ _) | succ j => simp at hu
            case c2 => intro u hu; simp at hu; subst hu; rfl
            case c3 => unfold maxLen; omega
            case c4 => omega
            case c5 => simp; have := hbl.size; omega
            intro v' w1 hown1 hg1 _
            have hp := IRow.push hown1
            have hbw1 : Below w.heap.size w w1 := bel_grown (bel_alloc (bel_drewN hbl _) _) hg1 (World.ownsRow.alloc hrow.out _) (Nat.le_refl _)
            obtain ⟨g, cap, hv, hgb, hgl, hcell, hfro, hset⟩ := hp.last (by simp)
            subst hv
            have hz : (runsL s k ++ [(0 : Int)]).getD ((runsL s k ++ [(0 : Int)]).length - 1) 0 = 0 := by simp
            rw [hz] at hcell
            have hlen : (runsL s k ++ [(0 : Int)]).length = (runsL s k).length + 1 := by simp
            rw [hlen, Nat.add_sub_cancel] at hcell hfro
            have hset1 := hset 1
            rw [hlen, Nat.add_sub_cancel] at hset1
            have Hset := Lib.hid hset1
            clear hset hset1 hp hown1
            rw [hlen]
            have hw1 : IntKind.i64.wrap ((((runsL s k).length + 1 : Nat) : Int) - 1) = ((runsL s k).length : Int) := by rw [IntWalk.i64_in _ (by omega)]; omega
            go_wp2
            exact ⟨⟨k + 1, by omega, by go_num, by rw [HN.out, ← set_last _ 0 1]; exact Hset, hbw1.setCell hgb _⟩, by simp [intOf]; omega⟩
          · have hq2 : (sgn s k != sgn s (k - 1)) = false := by rw [bne, hq]; rfl
            have hb1 : brk s k = false := by unfold brk; rw [hq2]; simp [hk0]
            rw [hb1] at hN
            simp only [Bool.false_eq_true, if_false] at hN
            have HN := Lib.hid hN
            clear hN hb1
            have hL := q2 (by omega)
            obtain ⟨g, cap, hv, hgb, hgl, hcell, hfro, hset⟩ := hrow.out.last hL
            subst hv
            have hx := Q3.out ((runsL s k).getD ((runsL s k).length - 1) 0) (by rw [List.getD_eq_getElem?_getD, List.getElem?_eq_getElem (by omega)]; exact List.getElem_mem _)
            have Hset := Lib.hid (hset ((runsL s k).getD ((runsL s k).length - 1) 0 + 1))
            have hbump : bump (runsL s k) = (runsL s k).set ((runsL s k).length - 1) ((runsL s k).getD ((runsL s k).length - 1) 0 + 1) := rfl
            have Hb := Lib.hid hbump
            clear hset hbump
            have hw2 : IntKind.i64.wrap (((runsL s k).length : Int) - 1) = (((runsL s k).length - 1 : Nat) : Int) := by rw [IntWalk.i64_in _ (by omega)]; omega
            generalize (runsL s k).getD ((runsL s k).length - 1) 0 = x at *
            go_wp2_with fail
            go_quiet (fail)
            go_wp2
            exact ⟨⟨k + 1, by omega, by go_num, by rw [HN.out, Hb.out]; exact Hset.out, (bel_drewN hbl _).setCell hgb _⟩, by simp [intOf]; omega⟩
      · have hks : k = s.size := by omega
        have Hks := Lib.hid hks
        clear hks
        go_wp2
        go_ret2
        exact ⟨_, rfl, by rw [← Hks.out]; exact hrow.out, hbl⟩

set_option maxHeartbeats 1600000 in
theorem specRuns_any (s : ByteArray) (w : World) (hs : s.size ≤ maxLen) :
    Calls Try.prog 45 #[.string s] w (RowAns (ansRuns s) (daysB s) w) := by
  obtain ⟨i0, hi0, hz0, hz1, hz2⟩ := info_parts infoInt
  cases h2 : daysB s
  · rw [ansRuns_no h2]
    go_enter Try.func45, Try.ntmps45
    go_wp2_with fail
    refine (cnDays_any s _ hs).mono ?_
    rintro e w8 ⟨rfl, rfl⟩
    rw [h2]
    go_wp2_with fail
    go_ret2
    exact ⟨_, rfl, IRow.nil _ _, Below.refl _ _⟩
  · rw [ansRuns_yes h2]
    obtain ⟨g1, g2, g3⟩ := days_size h2
    go_enter Try.func45, Try.ntmps45
    go_wp2_with fail
    refine (cnDays_any s _ hs).mono ?_
    rintro e w8 ⟨rfl, rfl⟩
    rw [h2]
    go_wp2_with fail
    go_loopw [4, 5] (fun v i wr => ∃ k : Nat, k ≤ s.size ∧ i = .int .i64 k ∧ Hid (IRow wr w.heap.size v (runsL s k)) ∧ Below w.heap.size w wr) (fun _ i _ => s.size - (intOf i).toNat)
    case atStart => exact ⟨0, by omega, rfl, IRow.nil _ _, Below.refl _ _⟩
    case round =>
      obtain ⟨k, hk, rfl, hrow, hbl⟩ := hrel
      obtain ⟨q1, q2, q3⟩ := runs_in s k
      have Q3 := Lib.hid q3
      clear q3
      by_cases hlt : k < s.size
      · have hN : runsL s (k + 1) = if brk s k then runsL s k ++ [1] else bump (runsL s k) := rfl
        by_cases hk0 : k = 0
        · subst hk0
          have hb1 : brk s 0 = true := rfl
          rw [hb1] at hN
          simp only [if_true] at hN
          have HN := Lib.hid hN
          clear hN hb1
          go_wp2_with fail
          go_quiet (fail)
          go_wp2_with (at_builtin; refine wpList_append_own _ rfl (.tmp 35) (.tmp 36) 40 rfl w.heap.size 3 i0 (.int .i64 0) 1 8 Try.underlying40 hi0 hz0 hz1 hz2 rfl (by decide) _ (runsL s 0).length ((runsL s 0).map (Value.int .i64)) rfl ?own ⟨_, 0, none⟩ 1 1 [.int .i64 1] rfl rfl ?c1 ?c2 ?c3 ?c4 ?c5 ?_)
          case own => exact World.ownsRow.alloc hrow.out _
          case c1 => intro j u hu; cases j with | zero => (simp at hu; subst hu; exact new_cell _ _ _) | succ j => simp at hu
          case c2 => intro u hu; simp at hu; subst hu; rfl
          case c3 => unfold maxLen; omega
          case c4 => omega
          case c5 => simp; have := hbl.size; omega
          intro v' w1 hown1 hg1 _
          have hp := IRow.push hown1
          have hbw1 : Below w.heap.size w w1 := bel_grown (bel_alloc (bel_drewN hbl _) _) hg1 (World.ownsRow.alloc hrow.out _) (Nat.le_refl _)
          have Hp := Lib.hid hp
          clear hp hown1
          go_wp2
          exact ⟨⟨0 + 1, by omega, by go_num, by rw [HN.out]; exact Hp.out, hbw1⟩, by simp [intOf]; omega⟩
        · obtain ⟨m, rfl⟩ : ∃ m, k = m + 1 := ⟨k - 1, by omega⟩
          have e1 := sgn_at s m (by omega)
          have e2 := sgn_at s (m + 1) hlt
          have hlt' : m < s.size := by omega
          have hk1 : (((m + 1) : Int) == 0) = false := by simp; omega
          have hk2 : (0 : Int) < ((m + 1) : Int) := by omega
          have hw3 : IntKind.i64.wrap (m : Int) = (m : Int) := IntWalk.i64_in _ (by omega)
          have hw4 : IntKind.i64.wrap (((m + 1 : Nat) : Int) - 1) = (m : Int) := by rw [IntWalk.i64_in _ (by omega)]; omega
          have hw5 : IntKind.i64.wrap ((m : Int) + 1 - 1) = (m : Int) := by rw [IntWalk.i64_in _ (by omega)]; omega
          cases hq : (sgn s (m + 1) == sgn s m)
          · have hq2 : (sgn s (m + 1) != sgn s m) = true := by rw [bne, hq]; rfl
            have hb1 : brk s (m + 1) = true := by unfold brk; rw [Nat.add_sub_cancel, hq2, Bool.or_true]
            rw [hb1] at hN
            simp only [if_true] at hN
            have HN := Lib.hid hN
            clear hN hb1
            go_wp2_with fail
            go_quiet (fail)
            go_wp2_with (at_builtin; refine wpList_append_own _ rfl (.tmp 35) (.tmp 36) 40 rfl w.heap.size 3 i0 (.int .i64 0) 1 8 Try.underlying40 hi0 hz0 hz1 hz2 rfl (by decide) _ (runsL s (m + 1)).length ((runsL s (m + 1)).map (Value.int .i64)) rfl ?own ⟨_, 0, none⟩ 1 1 [.int .i64 1] rfl rfl ?c1 ?c2 ?c3 ?c4 ?c5 ?_)
            case own => exact World.ownsRow.alloc hrow.out _
            case c1 => intro j u hu; cases j with | zero => (simp at hu; subst hu; exact new_cell _ _ _) | succ j => simp at hu
            case c2 => intro u hu; simp at hu; subst hu; rfl
            case c3 => unfold maxLen; omega
            case c4 => omega
            case c5 => simp; have := hbl.size; omega
            intro v' w1 hown1 hg1 _
            have hp := IRow.push hown1
            have hbw1 : Below w.heap.size w w1 := bel_grown (bel_alloc (bel_drewN hbl _) _) hg1 (World.ownsRow.alloc hrow.out _) (Nat.le_refl _)
            have Hp := Lib.hid hp
            clear hp hown1
            go_wp2
            exact ⟨⟨(m + 1) + 1, by omega, by go_num, by rw [HN.out]; exact Hp.out, hbw1⟩, by simp [intOf]; omega⟩
          · have hq2 : (sgn s (m + 1) != sgn s m) = false := by rw [bne, hq]; rfl
            have hb1 : brk s (m + 1) = false := by unfold brk; rw [Nat.add_sub_cancel, hq2]; simp
            rw [hb1] at hN
            simp only [Bool.false_eq_true, if_false] at hN
            have HN := Lib.hid hN
            clear hN hb1
            have hL := q2 (by omega)
            obtain ⟨g, cap, hv, hgb, hgl, hcell, hfro, hset⟩ := hrow.out.last hL
            subst hv
            have hx := Q3.out ((runsL s (m + 1)).getD ((runsL s (m + 1)).length - 1) 0) (by rw [List.getD_eq_getElem?_getD, List.getElem?_eq_getElem (by omega)]; exact List.getElem_mem _)
            have Hset := Lib.hid (hset ((runsL s (m + 1)).getD ((runsL s (m + 1)).length - 1) 0 + 1))
            have hbump : bump (runsL s (m + 1)) = (runsL s (m + 1)).set ((runsL s (m + 1)).length - 1) ((runsL s (m + 1)).getD ((runsL s (m + 1)).length - 1) 0 + 1) := rfl
            have Hb := Lib.hid hbump
            clear hset hbump
            have hw2 : IntKind.i64.wrap (((runsL s (m + 1)).length : Int) - 1) = (((runsL s (m + 1)).length - 1 : Nat) : Int) := by rw [IntWalk.i64_in _ (by omega)]; omega
            generalize (runsL s (m + 1)).getD ((runsL s (m + 1)).length - 1) 0 = x at *
            go_wp2_with fail
            go_quiet (fail)
            go_wp2
            exact ⟨⟨(m + 1) + 1, by omega, by go_num, by rw [HN.out, Hb.out]; exact Hset.out, (bel_drewN hbl _).setCell hgb _⟩, by simp [intOf]; omega⟩
      · have hks : k = s.size := by omega
        have Hks := Lib.hid hks
        clear hks
        go_wp2
        go_ret2
        exact ⟨_, rfl, by rw [← Hks.out]; exact hrow.out, hbl⟩

set_option maxHeartbeats 1600000 in
theorem walkExactRunsOf (s : ByteArray) (w : World) (hs : s.size ≤ maxLen) :
    Calls Try.prog 15 #[.string s] w fun e w' => e = .returned (.bool true) ∧ Below w.heap.size w w' := by
  by_cases z : s.size ≤ 1048576
  · have hlen : (ansRuns s).length ≤ 1000 := ansRuns_len s
    generalize hxs : ansRuns s = xs at *
    have Hxs := Lib.hid hxs
    clear hxs
    generalize hok : daysB s = ok at *
    have Hok := Lib.hid hok
    clear hok
    go_enter Try.func15, Try.ntmps15
    go_wp2_with fail
    refine (specRuns_any s _ hs).mono ?_
    rw [Hxs.out, Hok.out]
    rintro e w1 ⟨v0, rfl, r0, bl1⟩
    have R0 := Lib.hid r0
    clear r0
    go_wp2_with fail
    refine (implRuns_any s _ hs).mono ?_
    rw [Hxs.out, Hok.out]
    rintro e w2 ⟨v1, rfl, r1, hb2⟩
    have R1 := Lib.hid r1
    clear r1
    have R0b := Lib.hid (R0.out.below hb2)
    have bl2 := bel_trans bl1 hb2
    go_wp2_with fail
    refine (eqInt_same xs v1 v0 _ _ _ R1.out R0b.out).mono ?_
    rintro e w3 ⟨rfl, n3, rfl⟩
    go_wp2_with fail
    refine (mark_any xs v1 _ 1 _ (R1.out.drewN n3) (by omega) (by omega)).mono ?_
    rintro e w4 ⟨rfl, r4, hg4⟩
    have R4 := Lib.hid r4
    clear r4
    have bl4 := bel_grown (bel_drewN bl2 n3) hg4 (R1.out.drewN n3) (Nat.le_trans bl1.size (Nat.le_refl _))
    have R0c := Lib.hid ((R0b.out.drewN n3).kept_by hg4 (R1.out.drewN n3) bl1.size (R0.out))
    go_wp2_with fail
    refine (held_any xs v1 _ 1 _ R4.out (by omega) (by omega)).mono ?_
    rintro e w5 ⟨rfl, n5, rfl⟩
    have t1 : decide ((1 : Int) + (xs.length : Int) < 0) = false := by simp; omega
    go_wp2_with fail
    refine (implRuns_any s _ hs).mono ?_
    rw [Hxs.out, Hok.out]
    rintro e w6 ⟨v2, rfl, r6, hb6⟩
    have R2 := Lib.hid r6
    clear r6
    have hb6b := bel_undrewN hb6
    have R0d := Lib.hid (R0c.out.below hb6b)
    have R1d := Lib.hid (R4.out.below hb6b)
    have bl6 := bel_trans bl4 hb6b
    go_wp2_with fail
    refine (eqInt_same xs v2 v0 _ _ _ R2.out R0d.out).mono ?_
    rintro e w7 ⟨rfl, n7, rfl⟩
    go_wp2_with fail
    refine (held_any xs v1 _ 1 _ (R1d.out.drewN n7) (by omega) (by omega)).mono ?_
    rintro e w8 ⟨rfl, n8, rfl⟩
    go_wp2_with fail
    go_ret
    refine ⟨rfl, ?_⟩
    repeat (first | assumption | with_reducible exact Below.refl _ _ | refine bel_alloc ?_ _ | refine bel_drewN ?_ _ | refine Below.drew ?_ | (refine Below.setCell ?_ (by simp) _) | (refine bel_trans ?_ (by assumption)))
  · go_enter Try.func15, Try.ntmps15
    go_wp2
    go_ret
    exact ⟨rfl, Below.refl _ _⟩

end Go.Proofs.Ytkehgokgngimgaa
