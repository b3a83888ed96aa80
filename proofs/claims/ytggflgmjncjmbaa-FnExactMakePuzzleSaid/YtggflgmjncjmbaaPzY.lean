/- The first clues alone: contracts of the program and of its model. -/
import Derived.Test.YtggflgmjncjmbaaPzE
namespace Go.Proofs.Ytggflgmjncjmbaa
set_option linter.unusedSimpArgs false
open Go.ChangeShapes Go.WideShapes Go.ChangeAt Go.RowKit
set_option linter.unusedVariables false

set_option maxRecDepth 100000 in
set_option maxHeartbeats 1600000 in
theorem upToP_any (o : Int) (A : Option Addr) (n cap k : Nat) (w : World) (hk : k ≤ cap) :
    Calls Try.prog 78 #[pz o (.slice A n cap), .int .i64 k] w fun e w' => e = .returned (pz o (.slice A k k)) ∧ Below w.heap.size w w' := by
  have bx := Lib.hid ((Box2.new w (.int .i64 o) (.slice A n cap) 29).keep (bel_alloc (Below.refl _ _) (.cells #[.int .i64 0, .slice none 0 0] 29)))
  have bl := bel_alloc (bel_alloc (Below.refl _ w) (.cells #[.int .i64 o, .slice A n cap] 29)) (.cells #[.int .i64 0, .slice none 0 0] 29)
  have hs := cut_three A n cap k hk
  go_enter Try.func78, Try.ntmps78
  go_wp2_with fail
  go_region_held3 (fun w' => w'.cell? ⟨w.heap.size, 0, none⟩ = some (.int .i64 o) ∧ w'.cell? ⟨w.heap.size, 1, none⟩ = some (.slice A n cap) ∧ w.heap.size < w'.heap.size ∧ Below w.heap.size w w')
    (first | exact held2_start bx.out bl | exact held2_start (Box2.keep (Box2.new w _ _ _) (bel_alloc (Below.refl _ _) _)) (bel_alloc (bel_alloc (Below.refl _ w) _) _) | exact held2_res (by assumption) _ (by simp) _ _ | assumption | go_keep)
    (fail)
  all_goals
    obtain ⟨hbx9, hbl9⟩ := held2_below (by assumption)
    clear hbx9
    go_wp2
    refine bodyPost_ret (v := pz o (.slice A k k)) (by simp [results, Try.results78, go_sem]) rfl ⟨rfl, ?_⟩
    first | exact hbl9 | repeat (first | assumption | with_reducible exact Below.refl _ _ | refine bel_alloc ?_ _ | refine bel_drewN ?_ _ | refine Below.drew ?_ | (refine Below.setCell ?_ (by simp) _) | (refine bel_trans ?_ (by assumption)))
def lfR (o : Int) (ts : List Tri) : Nat → List Int
  | 0 => []
  | k + 1 => lfR o ts k ++ [((solA o (ts.take k)).length : Int)]
theorem lfR_len (o : Int) (ts : List Tri) : ∀ k, (lfR o ts k).length = k
  | 0 => rfl
  | k + 1 => by unfold lfR; simp [lfR_len o ts k]
def ansLf (o : Int) (ts : List Tri) : List Int := if pzG o ts then lfR o ts (ts.length + 1) else []
theorem ansLf_len (o : Int) (ts : List Tri) : (ansLf o ts).length ≤ 1000 := by
  unfold ansLf
  split
  · rename_i h
    have := (pzG_in h).2.2.1
    rw [lfR_len]; omega
  · simp
theorem pzG_take {o : Int} {ts : List Tri} (k : Nat) (h : pzG o ts = true) : pzG o (ts.take k) = true :=
  pzG_sub h (by rw [List.length_take]; omega) fun _ hx => List.mem_of_mem_take hx
set_option maxRecDepth 100000 in
set_option maxHeartbeats 3200000 in
theorem implLf_any (o : Int) (ts : List Tri) (v : Value) (B : Nat) (w : World) (h : RdT w B v ts) (hB : B ≤ w.heap.size) :
    Calls Try.prog 52 #[pz o v] w (RowAns (ansLf o ts) (pzG o ts) w) := by
  have bl := Lib.hid (bel_alloc (Below.refl _ w) (.cells #[.int .i64 o, v] 29))
  have bx := Lib.hid (Box2.new w (.int .i64 o) v 29)
  have H0 := Lib.hid h
  obtain ⟨A, cap, rfl, hlc, hmc⟩ := h.form
  cases hg : pzG o ts
  · rw [show ansLf o ts = [] from by unfold ansLf; rw [hg]; rfl]
    go_enter Try.func52, Try.ntmps52
    go_wp2_with fail
    refine (implIsPz_any o ts _ B _ (H0.out.below bl.out hB) (by simp; omega)).mono ?_
    rintro e w2 ⟨rfl, b2⟩
    rw [hg]
    go_wp2
    go_ret2
    exact ⟨_, rfl, IRow.nil _ _, bel_trans bl.out b2⟩
  · rw [show ansLf o ts = lfR o ts (ts.length + 1) from by unfold ansLf; rw [hg]; rfl]
    obtain ⟨o1, o8, h6, hcl⟩ := pzG_in hg
    have hU := fun (k : Nat) (hk : k ≤ ts.length) W => upToP_any o A ts.length cap k W (by omega)
    have hR0 := fun (k : Nat) (hk : k ≤ ts.length) => h.take (cap' := k) (j := k) hk (Nat.le_refl _) (by omega)
    have hS := fun (k : Nat) (v : Value) W (hR : RdT W B v (ts.take k)) (hz : B ≤ W.heap.size) => pSolsI_any o (ts.take k) v _ W hR hz (pzG_take k hg)
    have hlf := lfR_len o ts
    generalize hN : ts.length = N at *
    have HN := Lib.hid hN
    clear hN h
    go_enter Try.func52, Try.ntmps52
    go_wp2_with fail
    refine (implIsPz_any o ts _ B _ (H0.out.below bl.out hB) (by simp; omega)).mono ?_
    rintro e w1 ⟨rfl, b1⟩
    rw [hg]
    have hb1 := bel_trans bl.out b1
    have bx1 := Lib.hid (bx.out.keep b1)
    obtain ⟨c0, c1, ck⟩ := bx1.out
    go_wp2_with fail
    clear c0 c1 ck
    go_loopw [4, 13] (fun x i wr => ∃ k : Nat, k ≤ N + 1 ∧ i = .int .i64 k ∧ Hid (IRow wr (w.heap.size + 1) x (lfR o ts k)) ∧ Hid (Box2 wr w.heap.size (.int .i64 o) (.slice A N cap)) ∧ Below w.heap.size w wr) (fun _ i _ => N + 1 - (intOf i).toNat)
    case atStart => exact ⟨0, by omega, rfl, Lib.hid (IRow.nil _ _), bx1, hb1⟩
    case round =>
      obtain ⟨k, hk, rfl, hI, hbx, hbl⟩ := hrel
      obtain ⟨c0, c1, ck⟩ := hbx.out
      by_cases hlt : k < N + 1
      · have hki : (k : Int) < (N : Int) + 1 := by omega
        have hl := hlf k
        go_wp2_with fail
        refine (hU k (by omega) _).mono ?_
        rintro e w2 ⟨rfl, b2⟩
        have hI2 := Lib.hid (hI.out.below b2)
        have hbx2 := Lib.hid (hbx.out.keep b2)
        have hbl2 := bel_trans hbl b2
        clear c0 c1 ck
        go_wp2_with fail
        refine (hS k _ _ ((hR0 k (by omega)).below hbl2 hB) (by have := hbl2.size; omega)).mono ?_
        rintro e w3 ⟨v3, rfl, r3, b3⟩
        obtain ⟨A3, cap3, rfl, _, _⟩ := r3.rd.form
        have hI3 := Lib.hid (hI2.out.below b3)
        have hbx3 := Lib.hid (hbx2.out.keep b3)
        have hbl3 := bel_trans hbl2 b3
        have hs : Hid (lfR o ts (k + 1) = lfR o ts k ++ [((solA o (ts.take k)).length : Int)]) := Lib.hid rfl
        clear r3
        generalize (solA o (ts.take k)).length = D at *
        go_wp2_with (at_builtin; refine wpList_push1 rfl (.tmp 16) (.tmp 22) rfl _ _ _ hI3.out (by omega) (by have := hbx3.out.2.2; omega) (D : Int) rfl rfl ?_)
        intro v' w5 hI5 hb5
        have hbx5 := Lib.hid (hbx3.out.keepB hb5 (by omega))
        go_wp2_with fail
        exact ⟨⟨k + 1, by omega, by go_num, by rw [hs.out]; exact Lib.hid hI5, hbx5, hbl3.trans (hb5.mono (by omega))⟩, by simp [intOf]; omega⟩
      · obtain rfl : k = N + 1 := by omega
        clear c0 c1 ck
        have hki : ¬ (((N + 1 : Nat) : Nat) : Int) < (N : Int) + 1 := by omega
        go_wp2_with fail
        go_ret2
        exact ⟨_, rfl, hI.out.mono (by omega), hbl⟩
theorem IRow.alloc1 {w : World} {b : Nat} {v : Value} {xs : List Int} (h : IRow w b v xs) (o : Obj) : IRow (w.alloc o) b v xs := World.ownsRow.alloc h o
theorem IRow.drew1 {w : World} {b : Nat} {v : Value} {xs : List Int} (h : IRow w b v xs) : IRow w.drew b v xs := h
theorem step_pushI {ops : Array Oper} {o : Oper} {a : Act} {K : Act → World → Prop} {Q : Exit → Act → World → Prop} {E : Prop} {W : World} (hgd : o.guard = none) (s x : Operand)
    (ho : o.op = .call { callee := .builtin .append, args := #[s, x], argTypes := #[58, 58] }) (base : Nat) (v : Value) (xs : List Int) (hown : IRow W base v xs) (u : Int) (g : Nat)
    (hx : a.eval x = .slice (some ⟨g, 0, none⟩) 1 1) (hc : W.cell? ⟨g, 0, none⟩ = some (.int .i64 u)) (hlen : xs.length ≤ 1000000) (hbase : base ≤ W.heap.size) (hs : a.eval s = v)
    (h : ∀ v' w', IRow w' base v' (xs ++ [u]) → Below base W w' → K (a.put o.dst v') w') : if Region.wanted o (yielded ops a.tmps) = true then Oper.wp Try.prog o a W K Q else E := by
  obtain ⟨i0, hi, hz0, hz1, hz2⟩ := info_parts info_int
  refine step_append_any _ hgd s x 58 ho base 3 i0 (.int .i64 0) 1 8 Try.underlying58 hi hz0 hz1 hz2 rfl (by decide) v xs.length (xs.map (Value.int .i64)) hs hown (g + 1) (some ⟨g, 0, none⟩) 1 1 [.int .i64 u] hx
    ⟨rfl, fun _ => ⟨_, rfl, by dsimp only; omega, fun j y hj => ?_⟩⟩ ?_ ?_ ?_ hbase ?_
  · cases j with
    | zero => simp at hj; subst hj; exact hc
    | succ j => simp at hj
  · intro y hy; simp at hy; subst hy; rfl
  · unfold maxLen; omega
  · omega
  · intro v' w' h1 h2 _
    exact h v' w' (IRow.push h1) (Below.grown (Below.refl base W) h2 hbase fun k hk => (World.ownsRow.lt hown k hk).1)
theorem held2_keepB {w W w1 : World} {k C : Nat} {x y : Value} (h : W.cell? ⟨k, 0, none⟩ = some x ∧ W.cell? ⟨k, 1, none⟩ = some y ∧ k < W.heap.size ∧ Below w.heap.size w W) (hb : Below C W w1) (hk : k < C) (hC : w.heap.size ≤ C) :
    w1.cell? ⟨k, 0, none⟩ = some x ∧ w1.cell? ⟨k, 1, none⟩ = some y ∧ k < w1.heap.size ∧ Below w.heap.size w w1 := by
  have b : Box2 w1 k x y := Box2.keepB ⟨h.1, h.2.1, h.2.2.1⟩ hb hk
  exact ⟨b.1, b.2.1, b.2.2, h.2.2.2.trans (hb.mono hC)⟩
set_option maxRecDepth 100000 in
set_option maxHeartbeats 6400000 in
theorem specLf_any (o : Int) (ts : List Tri) (v : Value) (B : Nat) (w : World) (h : RdT w B v ts) (hB : B ≤ w.heap.size) :
    Calls Try.prog 51 #[pz o v] w (RowAns (ansLf o ts) (pzG o ts) w) := by
  have bl := Lib.hid (bel_alloc (Below.refl _ w) (.cells #[.int .i64 o, v] 29))
  have bx := Lib.hid (Box2.new w (.int .i64 o) v 29)
  have H0 := Lib.hid h
  obtain ⟨A, cap, rfl, hlc, hmc⟩ := h.form
  cases hg : pzG o ts
  · rw [show ansLf o ts = [] from by unfold ansLf; rw [hg]; rfl]
    go_enter Try.func51, Try.ntmps51
    go_wp2_with fail
    refine (pzGood_any o ts _ B _ (H0.out.below bl.out hB) (by simp; omega)).mono ?_
    rintro e w2 ⟨rfl, b2⟩
    rw [hg]
    go_wp2
    go_ret2
    exact ⟨_, rfl, IRow.nil _ _, bel_trans bl.out b2⟩
  · rw [show ansLf o ts = lfR o ts (ts.length + 1) from by unfold ansLf; rw [hg]; rfl]
    obtain ⟨o1, o8, h6, hcl⟩ := pzG_in hg
    have hR0 := fun (k : Nat) (hk : k ≤ ts.length) => h.take (cap' := cap) (j := k) hk (by omega) hmc
    have hS := fun (k : Nat) (v : Value) W (hR : RdT W B v (ts.take k)) (hz : B ≤ W.heap.size) => pzAllI_any o (ts.take k) v _ W hR hz (pzG_take k hg)
    have hlf := lfR_len o ts
    generalize hN : ts.length = N at *
    have HN := Lib.hid hN
    clear hN h
    go_enter Try.func51, Try.ntmps51
    go_wp2_with fail
    refine (pzGood_any o ts _ B _ (H0.out.below bl.out hB) (by simp; omega)).mono ?_
    rintro e w1 ⟨rfl, b1⟩
    rw [hg]
    have hb1 := bel_trans bl.out b1
    have bx1 := Lib.hid (bx.out.keep b1)
    go_wp2_with fail
    go_loopw [4, 5] (fun x i wr => ∃ k : Nat, k ≤ N + 1 ∧ i = .int .i64 k ∧ Hid (IRow wr (w.heap.size + 1) x (lfR o ts k)) ∧ Hid (Box2 wr w.heap.size (.int .i64 o) (.slice A N cap)) ∧ Below w.heap.size w wr) (fun _ i _ => N + 1 - (intOf i).toNat)
    case atStart => exact ⟨0, by omega, rfl, Lib.hid (IRow.nil _ _), bx1, hb1⟩
    case round =>
      obtain ⟨k, hk, rfl, hI, hbx, hbl⟩ := hrel
      obtain ⟨c0, c1, ck⟩ := hbx.out
      by_cases hlt : k < N + 1
      · have hki : (k : Int) ≤ (N : Int) := by omega
        have hl := hlf k
        have hs1 := cut_to A N cap k (by omega)
        have hs : Hid (lfR o ts (k + 1) = lfR o ts k ++ [((solA o (ts.take k)).length : Int)]) := Lib.hid rfl
        have hRk := hR0 k (by omega)
        have hSk := hS k
        go_wp2_with fail
        clear c0 c1 ck
        go_region_held3 (fun w' => w'.cell? ⟨w.heap.size, 0, none⟩ = some (.int .i64 o) ∧ w'.cell? ⟨w.heap.size, 1, none⟩ = some (.slice A N cap) ∧ w.heap.size < w'.heap.size ∧ Below w.heap.size w w')
          (first | exact held2_start hbx.out hbl | exact held2_keep (by assumption) hb6 | exact held2_keepB (by assumption) hb9 (by omega) (by omega) | exact held2_alloc (by assumption) _ | assumption | go_keep)
          (first | (go_at_call 69; refine (hSk _ _ (hRk.below (held2_below (by assumption)).2 hB) (by have := (held2_below (by assumption)).2.size; omega)).mono ?_; rintro e w6 ⟨v6, rfl, r6, hb6⟩; obtain ⟨A6, cap6, rfl, _, _⟩ := r6.rd.form; have hI6 := Lib.hid (IRow.below hI.out (bel_undrew hb6))) | (have _g := hI6.out; clear _g; refine step_pushI (by rfl) (.tmp 16) (.tmp 25) (by rfl) (w.heap.size + 1) _ (lfR o ts k) (by first | exact (hI6.out.alloc1 _) | exact (hI6.out.alloc1 _).drew1) ((solA o (ts.take k)).length : Int) w6.heap.size (by rfl) (by simp [go_sem]) (by omega) (by have := (held2_below (by assumption)).1.2.2; omega) (by rfl) ?_; intro v9 w9 hI9 hb9))
        all_goals
          obtain ⟨hbx9, hbl9⟩ := held2_below (by assumption)
          have hbx8 := Lib.hid hbx9
          clear hbx9 r6 hb6 hb9
          go_wp2_with fail
          exact ⟨⟨k + 1, by omega, by go_num, by rw [hs.out]; exact Lib.hid hI9, hbx8, hbl9⟩, by simp [intOf]; omega⟩
      · obtain rfl : k = N + 1 := by omega
        have hki : ¬ (((N + 1 : Nat) : Nat) : Int) ≤ (N : Int) := by omega
        go_wp2_with fail
        go_ret2
        exact ⟨_, rfl, hI.out.mono (by omega), hbl⟩
end Go.Proofs.Ytggflgmjncjmbaa
