/- StateClasses: the rows of the classes, and rows out of a map of rows. -/
import Derived.Test.YtbcngdamligpbaaOne
namespace Go.Proofs.Ytbcngdamligpbaa
set_option linter.unusedSimpArgs false
open Go.ChangeShapes Go.WideShapes Go.ChangeAt Go.RowKit Go.Maps Go.Sort
set_option linter.unusedVariables false

/-- The classes with a first state below k, each by its states. -/
def scL (m : List (List Int)) : Nat → List (List Int)
  | 0 => []
  | k + 1 => if frs m k == k then scL m k ++ [selK (clsB m k) m.length] else scL m k
theorem scL_yes {m : List (List Int)} {k : Nat} (h : frs m k = k) : scL m (k + 1) = scL m k ++ [selK (clsB m k) m.length] := by simp [scL, h]
theorem scL_no {m : List (List Int)} {k : Nat} (h : frs m k ≠ k) : scL m (k + 1) = scL m k := by simp [scL, h]
theorem scL_len (m : List (List Int)) : ∀ k, (scL m k).length ≤ k
  | 0 => by simp [scL]
  | k + 1 => by
    have := scL_len m k
    unfold scL
    split
    · simp; omega
    · omega
theorem scL_off (m : List (List Int)) : ∀ k, offM (scL m k) (scL m k).length ≤ k * m.length
  | 0 => by simp [scL, offM]
  | k + 1 => by
    have ih := scL_off m k
    have hm : (k + 1) * m.length = k * m.length + m.length := by rw [Nat.add_mul, Nat.one_mul]
    by_cases h : frs m k = k
    · rw [scL_yes h]
      have hs := selK_len (clsB m k) m.length
      have e : ∀ (l : List (List Int)) (x : List Int), offM (l ++ [x]) (l ++ [x]).length = offM l l.length + x.length := by
        intro l x
        have h1 : ∀ j, j ≤ l.length → offM (l ++ [x]) j = offM l j := by
          intro j
          induction j with
          | zero => intro _; rfl
          | succ j ih =>
            intro hj
            show offM (l ++ [x]) j + _ = offM l j + _
            rw [ih (by omega), getD_snoc, if_pos (by omega)]
        rw [List.length_append, List.length_singleton]
        show offM (l ++ [x]) l.length + ((l ++ [x]).getD l.length []).length = _
        rw [h1 _ (Nat.le_refl _), getD_snoc, if_neg (Nat.lt_irrefl _), if_pos rfl]
      rw [e]
      omega
    · rw [scL_no h]
      omega
def ansCls (lim : Int) (m : List (List Int)) : List (List Int) := if saG lim m then scL m m.length else []
theorem selK_head {p : Nat → Bool} {f : Nat} (hp : p f = true) (hf : ∀ j, j < f → p j = false) : ∀ n, f < n → (selK p n).getD 0 0 = (f : Int) ∧ 0 < (selK p n).length
  | 0, h => absurd h (Nat.not_lt_zero f)
  | n + 1, h => by
    rcases Nat.lt_or_ge f n with q | q
    · obtain ⟨i1, i2⟩ := selK_head hp hf n q
      unfold selK
      split
      · refine ⟨?_, by rw [List.length_append]; omega⟩
        rw [List.getD_eq_getElem?_getD, List.getElem?_append_left i2, ← List.getD_eq_getElem?_getD]
        exact i1
      · exact ⟨i1, i2⟩
    · obtain rfl : f = n := by omega
      have h0 : ∀ k, k ≤ f → selK p k = [] := by
        intro k
        induction k with
        | zero => intro _; rfl
        | succ k ih =>
          intro hk
          rw [selK_no (hf k (by omega))]
          exact ih (by omega)
      rw [selK_yes hp, h0 f (Nat.le_refl _)]
      simp
theorem cls_head {lim : Int} {m : List (List Int)} (hg : Good lim m) {i : Nat} (hi : i < m.length) : (selK (clsB m i) m.length).getD 0 0 = (frs m i : Int) ∧ 0 < (selK (clsB m i) m.length).length := by
  obtain ⟨a, b, c⟩ := frs_spec m i
  refine selK_head (cls_symm b) (fun j hj => ?_) _ (by omega)
  have := c j hj
  cases hh : clsB m i j with
  | false => rfl
  | true => rw [cls_symm hh] at this; cases this
theorem grp_cls {lim : Int} {m : List (List Int)} (hg : Good lim m) {f : Nat} (hf : frs m f = f) (n : Nat) : grp m f n = selK (clsB m f) n := by
  unfold grp
  refine selK_congr _ fun t _ => ?_
  rw [Bool.eq_iff_iff, beq_iff_eq]
  constructor
  · intro e
    have := (frs_spec m t).2.1
    rw [e] at this
    exact this
  · intro h
    refine (frs_eq h (fun j hj => ?_)).symm
    have hc := (frs_spec m f).2.2 j (by rw [hf]; exact hj)
    cases hh : clsB m j t with
    | false => rfl
    | true => rw [cls_trans hg hh (cls_symm h)] at hc; cases hc
theorem has_first {lim : Int} {D : MDG} {m : List (List Int)} (hg : Good lim m) (h : CD D m m.length) {k : Nat} (hk : k < m.length) : Maps.has D (kI k) = (frs m k == k) := by
  rw [Bool.eq_iff_iff, h.has, beq_iff_eq]
  constructor
  · rintro ⟨t, _, e⟩
    have := kI_inj e
    rw [this]
    exact frs_idem hg t
  · intro e
    exact ⟨k, hk, by rw [e]⟩

/-- A row that lies in the map at a key. -/
def AtK (w : World) (b base f : Nat) (v : Value) (xs : List Int) : Prop :=
  ∃ es clock e0, w.heap[b]? = some (.map es clock) ∧ e0 ∈ es.toList ∧ e0.key = .int .i64 f ∧ e0.val = v ∧ IRow w base v xs
def VA (w : World) (b base : Nat) (m : List (List Int)) : Nat → List Value → Prop
  | 0, vs => vs = []
  | k + 1, vs => if frs m k = k then ∃ vs0 v, vs = vs0 ++ [v] ∧ VA w b base m k vs0 ∧ AtK w b base k v (selK (clsB m k) m.length) else VA w b base m k vs
theorem VA.yes {w : World} {b base : Nat} {m : List (List Int)} {k : Nat} {vs : List Value} {v : Value} (h : VA w b base m k vs) (hf : frs m k = k) (hv : AtK w b base k v (selK (clsB m k) m.length)) : VA w b base m (k + 1) (vs ++ [v]) := by
  unfold VA
  rw [if_pos hf]
  exact ⟨vs, v, rfl, h, hv⟩
theorem VA.no {w : World} {b base : Nat} {m : List (List Int)} {k : Nat} {vs : List Value} (h : VA w b base m k vs) (hf : frs m k ≠ k) : VA w b base m (k + 1) vs := by
  unfold VA
  rw [if_neg hf]
  exact h
theorem VA.all {w : World} {b base n : Nat} {m : List (List Int)} {D : MDG} (hO : w.ownsGroups Try.prog 3 base 3 .i64 b n D) : ∀ {k : Nat} {vs : List Value}, VA w b base m k vs →
    vs.length = (scL m k).length ∧ (∀ i, IRow w base (vs.getD i nilS) ((scL m k).getD i [])) ∧ (∀ i, i < vs.length → ∃ f xs, f < k ∧ AtK w b base f (vs.getD i nilS) xs) ∧
    (∀ i j, i < j → ∀ g, (vs.getD i nilS).ownBlock = some g → (vs.getD j nilS).ownBlock ≠ some g)
  | 0, vs, h => by
    have e : vs = [] := h
    subst e
    exact ⟨rfl, fun i => by simpa [scL] using IRow.nil _ _, fun i hi => absurd hi (Nat.not_lt_zero i), fun i j _ g hg => by simp [Value.ownBlock] at hg⟩
  | k + 1, vs, h => by
    unfold VA at h
    split at h
    · rename_i hf
      obtain ⟨vs0, v, rfl, h0, hv⟩ := h
      obtain ⟨a1, a2, a3, a4⟩ := VA.all hO h0
      rw [scL_yes hf]
      refine ⟨by simp [a1], fun i => ?_, fun i hi => ?_, fun i j hij g hg => ?_⟩
      · rw [getD_snoc, getD_snoc, a1]
        split
        · exact a2 i
        · split
          · obtain ⟨_, _, _, _, _, _, _, hr⟩ := hv
            exact hr
          · exact IRow.nil _ _
      · rw [getD_snoc]
        split
        · rename_i q
          obtain ⟨f, xs, q1, q2⟩ := a3 i q
          exact ⟨f, xs, by omega, q2⟩
        · rw [if_pos (by simp at hi; omega)]
          exact ⟨k, _, Nat.lt_succ_self k, hv⟩
      · rw [getD_snoc] at hg ⊢
        split at hg
        · rename_i hi'
          split
          · exact a4 i j hij g hg
          · split
            · obtain ⟨f, xs, q1, es, clock, e0, c1, c2, c3, c4, c5⟩ := a3 i hi'
              obtain ⟨es', clock', e1, d1, d2, d3, d4, d5⟩ := hv
              rw [c1] at d1
              obtain ⟨rfl, rfl⟩ : es = es' ∧ clock = clock' := by simpa using d1
              obtain ⟨es2, clock2, p1, p2, p3, p4, p5, p6, p7⟩ := hO
              rw [c1] at p1
              obtain ⟨rfl, rfl⟩ : es = es2 ∧ clock = clock2 := by simpa using p1
              have hne : e0.key ≠ e1.key := by
                rw [c3, d3]
                intro e
                simp at e
                omega
              rcases p7 e0 c2 e1 d2 hne with q | q
              · rw [c4, hg] at q; cases q
              · rw [c4, d4, hg] at q
                exact fun e => q e.symm
            · simp [Value.ownBlock]
        · split at hg
          · rw [if_neg (by omega), if_neg (by omega)]
            simp [Value.ownBlock]
          · simp [Value.ownBlock] at hg
    · rename_i hf
      obtain ⟨a1, a2, a3, a4⟩ := VA.all hO h
      rw [scL_no hf]
      exact ⟨a1, a2, fun i hi => by obtain ⟨f, xs, q1, q2⟩ := a3 i hi; exact ⟨f, xs, by omega, q2⟩, a4⟩
/-- The rows of the map, in a list of their own. -/
theorem VA.own {w0 w w' : World} {b base n : Nat} {m : List (List Int)} {D : MDG} (hO : w.ownsGroups Try.prog 3 base 3 .i64 b n D) {k : Nat} {vs : List Value} {v : Value} (h : VA w b base m k vs)
    (hr : w'.ownsRow w.heap.size 25 1 v (scL m k).length vs) (hb : Below w.heap.size w w') (h0 : w0.heap.size ≤ b) : OwnM w' w0.heap.size w'.heap.size v (scL m k) := by
  obtain ⟨a1, a2, a3, a4⟩ := VA.all hO h
  have hbb : b < base := by obtain ⟨_, _, _, _, _, _, q, _⟩ := hO; exact q
  have hlt : b < w.heap.size := by obtain ⟨es, clock, q, _⟩ := hO; exact (Array.getElem?_eq_some_iff.1 q).1
  refine ⟨Nat.le_refl _, vs, ?_, fun g hg => (World.ownsRow.lt hr g hg).2, fun i => ?_, a4⟩
  · refine ⟨hr.1, ?_⟩
    rcases hr.2 with hn | ⟨g, cap, cur, e, hbg, rest⟩
    · exact .inl hn
    · exact .inr ⟨g, cap, cur, e, Nat.le_trans (by omega) hbg, rest⟩
  · have hi := (a2 i).below hb
    exact ⟨hi.mono (by omega), fun g hg => (hi.lt g hg).2⟩

theorem look_rows {w W : World} {b base n : Nat} {D : MDG} {o : Oper} {ops : Array Oper} {rest : List Oper} {a : Act} {Q : Exit → Act → World → Prop} (hO : w.ownsGroups Try.prog 3 base 3 .i64 b n D) (hb : W.heap[b]? = w.heap[b]?)
    (hg : o.guard = none) (mo x : Operand) (hop : o.op = Op.lookup 73 mo x true) (hm : a.eval mo = .map (some b)) (f : Nat) (hf : f ≤ 1000000) (hx : a.eval x = .int .i64 f)
    (hK : ∀ v, (Maps.has D (kI f) = true → ∃ zs, D.atKey (kI f) .nil = rowDatum .i64 v zs ∧ w.ownsInts base 3 .i64 v zs ∧ AtK w b base f v zs) → wpList Try.prog ops Q rest (a.put o.dst (.tuple #[v, .bool (Maps.has D (kI f))])) W) :
    wpList Try.prog ops Q (o :: rest) a W := by
  refine wpList_plain hg fun K' hK' => ?_
  have hkey : keyOf Try.prog 3 (.int .i64 f) = some (kI f) := Maps.keyOf_int_mk Try.underlying3 (Go.WalkArith.wf_i64 (by omega))
  have hz : ∀ W : World, (zeroValue 25).run Try.prog W = .ok (.slice none 0 0) W := fun W => Try.zeroValue25 _
  obtain ⟨es, clock, hb0, F, hs, hD, _⟩ := hO
  rcases Maps.fit_look (w := W) true lawI Try.underlying73 (hz W) (hb.trans hb0) F hkey with ⟨hrun, _, hat⟩ | ⟨e0, y, hm0, h3, hrun, hR, hat, _⟩
  · rw [← hD] at hat
    have hh := Maps.has_false_of_atKey hat
    unfold Oper.wp
    simp [execOp, hop, hm, hx, hrun, Result.andThen]
    have := hK' _ _ (hK (.slice none 0 0) (fun q => by rw [hh] at q; cases q))
    rw [hh] at this
    exact this
  · obtain ⟨zs, ho, rfl⟩ := rowElem_inv hR
    rw [← hD] at hat
    have hh := Maps.has_true_of_atKey hat
    unfold Oper.wp
    simp [execOp, hop, hm, hx, hrun, Result.andThen]
    have := hK' _ _ (hK e0.val (fun _ => ⟨zs, hat _, ho, es, clock, e0, hb0, hm0, h3, rfl, ho.1⟩))
    rw [hh] at this
    exact this

theorem wpList_pushR {ops : Array Oper} {rest : List Oper} {o : Oper} {a : Act} {Q : Exit → Act → World → Prop} {W : World} (hgd : o.guard = none) (s x : Operand)
    (ho : o.op = .call { callee := .builtin .append, args := #[s, x], argTypes := #[22, 22] }) (lo : Nat) (v r : Value) (n : Nat) (vs : List Value) (hown : (W.alloc (.cells #[r] 25)).ownsRow lo 25 1 v n vs) (hn : n ≤ 1000) (hlo : lo ≤ W.heap.size)
    (hr : r.oneCell' = true) (hs : a.eval s = v) (hx : a.eval x = .slice (some ⟨W.heap.size, 0, none⟩) 1 1)
    (h : ∀ v' w', w'.ownsRow lo 25 1 v' (n + 1) (vs ++ [r]) → (W.alloc (.cells #[r] 25)).grownBy w' v.ownBlock → Below lo W w' → wpList Try.prog ops Q rest (a.put o.dst v') w') :
    wpList Try.prog ops Q (o :: rest) a (W.alloc (.cells #[r] 25)) := by
  obtain ⟨i0, hi0, hz0, hz1, hz2⟩ := info_parts info_ints
  refine wpList_append_own_at _ hgd s x 22 ho lo 25 i0 nilS 1 24 Try.underlying22 hi0 hz0 hz1 hz2 rfl (by decide) v n vs hs hown ⟨W.heap.size, 0, none⟩ 1 1 [r] hx rfl (cell_one_new _ _ _) (by intro y hy; simp at hy; subst hy; exact hr) (by unfold maxLen; omega) (by omega) (by rw [← size1]; omega) ?_
  intro v' w' h1 h2 _ _
  refine h v' w' h1 h2 ?_
  refine Below.grown ((Below.refl lo W).alloc hlo _) h2 (by rw [← size1]; omega) fun k hk => ?_
  exact (World.ownsRow.lt hown k hk).1
end Go.Proofs.Ytbcngdamligpbaa
