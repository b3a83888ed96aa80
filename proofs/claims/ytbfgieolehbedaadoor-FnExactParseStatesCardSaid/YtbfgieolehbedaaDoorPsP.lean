/- Texts of states that are read: both readings give back what was written. -/
import Derived.Test.YtbfgieolehbedaaDoorStTxt2
import Derived.Test.YtbfgieolehbedaaDoorNmIS
import Derived.Lib.Split
import Derived.Lib.SplitLaws
namespace Go.Proofs.YtbfgieolehbedaaDoor
set_option linter.unusedSimpArgs false
open Go.ChangeShapes Go.WideShapes Go.ChangeAt Go.RowKit
set_option linter.unusedVariables false

/-- Parts with a sign between them. -/
def jn (b : UInt8) : List (List UInt8) → List UInt8
  | [] => []
  | [x] => x
  | x :: y :: r => x ++ b :: jn b (y :: r)
theorem jn_two (b : UInt8) (x : List UInt8) {Z : List (List UInt8)} (h : Z ≠ []) : jn b (x :: Z) = x ++ b :: jn b Z := by
  cases Z with
  | nil => exact absurd rfl h
  | cons y r => rfl
theorem jn_J (b : UInt8) (x : List UInt8) : ∀ P : List (List UInt8), jn b (P ++ [x]) = P.flatMap (· ++ [b]) ++ x
  | [] => rfl
  | p :: P => by
    rw [List.cons_append, jn_two b p (by simp), jn_J b x P]
    simp
theorem jn_snoc (b : UInt8) (x : List UInt8) : ∀ {Z : List (List UInt8)}, Z ≠ [] → jn b (Z ++ [x]) = jn b Z ++ b :: x
  | [], h => absurd rfl h
  | [y], _ => rfl
  | y :: z :: r, _ => by
    rw [List.cons_append, jn_two b y (by simp), jn_two b y (by simp), jn_snoc b x (by simp)]
    simp
theorem mem_jn {b c : UInt8} : ∀ {Z : List (List UInt8)}, c ∈ jn b Z → c = b ∨ ∃ z ∈ Z, c ∈ z
  | [], h => by simp [jn] at h
  | [x], h => .inr ⟨x, by simp, h⟩
  | x :: y :: r, h => by
    rw [jn_two b x (by simp), List.mem_append, List.mem_cons] at h
    rcases h with h | h | h
    · exact .inr ⟨x, by simp, h⟩
    · exact .inl h
    · rcases mem_jn h with h | ⟨z, hz, hc⟩
      · exact .inl h
      · exact .inr ⟨z, by simp at hz ⊢; exact .inr hz, hc⟩
theorem cons_inj {b : UInt8} : ∀ {p q R S : List UInt8}, b ∉ p → b ∉ q → p ++ b :: R = q ++ b :: S → p = q ∧ R = S
  | [], [], R, S, _, _, h => by simpa using h
  | [], c :: q, R, S, _, hq, h => by
    simp at h hq
    exact absurd h.1 hq.1
  | c :: p, [], R, S, hp, _, h => by
    simp at h hp
    exact absurd h.1.symm hp.1
  | c :: p, d :: q, R, S, hp, hq, h => by
    simp at h hp hq
    obtain ⟨e1, e2⟩ := cons_inj (b := b) hp.2 hq.2 h.2
    exact ⟨by rw [h.1, e1], e2⟩
theorem jn_inj {b : UInt8} : ∀ {Z Y : List (List UInt8)}, Z ≠ [] → Y ≠ [] → (∀ z ∈ Z, b ∉ z) → (∀ y ∈ Y, b ∉ y) → jn b Z = jn b Y → Z = Y
  | [], _, h, _, _, _, _ => absurd rfl h
  | _, [], _, h, _, _, _ => absurd rfl h
  | [x], [y], _, _, _, _, h => by rw [show x = y from h]
  | [x], y :: y' :: s, _, _, hz, hy, h => by
    rw [jn_two b y (by simp)] at h
    have : b ∈ x := by rw [show x = _ from h]; simp
    exact absurd this (hz x (by simp))
  | x :: x' :: r, [y], _, _, hz, hy, h => by
    rw [jn_two b x (by simp)] at h
    have : b ∈ y := by rw [show y = _ from h.symm]; simp
    exact absurd this (hy y (by simp))
  | x :: x' :: r, y :: y' :: s, _, _, hz, hy, h => by
    rw [jn_two b x (by simp), jn_two b y (by simp)] at h
    obtain ⟨e1, e2⟩ := cons_inj (hz x (by simp)) (hy y (by simp)) h
    have := jn_inj (Z := x' :: r) (Y := y' :: s) (by simp) (by simp) (fun z h => hz z (by simp at h ⊢; exact .inr h)) (fun z h => hy z (by simp at h ⊢; exact .inr h)) e2
    rw [e1, this]

/-- The model's parts: none of them has the sign, and they make the text. -/
theorem splL_free (l : List UInt8) (b : UInt8) : ∀ k, k ≤ l.length → (∀ z ∈ splL l b k, b ∉ z) ∧ b ∉ (l.take k).drop (frmL l b k)
  | 0, _ => by simp [splL, frmL]
  | k + 1, hk => by
    obtain ⟨h1, h2⟩ := splL_free l b k (by omega)
    have hl : k < l.length := by omega
    have hs : sgB l k = l[k] := by unfold sgB; rw [List.getD_eq_getElem?_getD, List.getElem?_eq_getElem hl]; rfl
    have ht : l.take (k + 1) = l.take k ++ [l[k]] := by rw [List.take_succ_eq_append_getElem hl]
    have hf := frmL_le l b k
    rw [splL_succ, frmL_succ]
    split
    · rename_i e
      refine ⟨fun z hz => ?_, ?_⟩
      · rw [List.mem_append] at hz
        rcases hz with hz | hz
        · exact h1 z hz
        · rw [List.mem_singleton] at hz
          rw [hz]; exact h2
      · rw [ht, List.drop_eq_nil_of_le (by simp; omega)]
        simp
    · rename_i e
      refine ⟨h1, ?_⟩
      rw [ht, List.drop_append_of_le_length (by simp; omega), List.mem_append]
      rintro (h | h)
      · exact h2 h
      · rw [List.mem_singleton] at h
        exact e (hs.trans h.symm)
theorem prtL_jn {b : UInt8} {Z : List (List UInt8)} (hne : Z ≠ []) (hf : ∀ z ∈ Z, b ∉ z) : prtL (jn b Z) b = Z := by
  generalize hl : jn b Z = l
  have e := splL_join l b l.length (Nat.le_refl _)
  obtain ⟨f1, f2⟩ := splL_free l b l.length (Nat.le_refl _)
  rw [List.take_length] at e f2
  refine jn_inj (b := b) ?_ hne ?_ hf ?_
  · unfold prtL; simp
  · unfold prtL
    intro z hz
    rw [List.mem_append] at hz
    rcases hz with hz | hz
    · exact f1 z hz
    · rw [List.mem_singleton] at hz
      rw [hz]; exact f2
  · unfold prtL
    rw [jn_J, e, hl]

theorem idx_hit {b : UInt8} : ∀ {x y : List UInt8}, b ∉ x → Lib.indexByte (x ++ b :: y) b = x.length
  | [], y, _ => by unfold Lib.indexByte; simp
  | c :: x, y, h => by
    simp at h
    have ih := idx_hit (x := x) (y := y) h.2
    rw [List.cons_append]
    unfold Lib.indexByte
    have hcb : (c == b) = false := by
      rw [beq_eq_false_iff_ne]
      exact fun e => h.1 e.symm
    rw [hcb, ih]
    have : ((x.length : Int) == -1) = false := by rw [beq_eq_false_iff_ne]; omega
    rw [this]
    simp
theorem idx_miss {b : UInt8} : ∀ {x : List UInt8}, b ∉ x → Lib.indexByte x b = -1
  | [], _ => rfl
  | c :: x, h => by
    simp at h
    have ih := idx_miss (x := x) h.2
    unfold Lib.indexByte
    have hcb : (c == b) = false := by
      rw [beq_eq_false_iff_ne]
      exact fun e => h.1 e.symm
    rw [hcb, ih]
    rfl
/-- The program's parts. -/
def pcs (l : List UInt8) (b : UInt8) : List (List UInt8) := Lib.splitK [b] 0 (Lib.count l [b]) l
theorem pcs_jn {b : UInt8} : ∀ {Z : List (List UInt8)}, Z ≠ [] → (∀ z ∈ Z, b ∉ z) → pcs (jn b Z) b = Z
  | [], h, _ => absurd rfl h
  | [x], _, hf => by
    have h := idx_miss (hf x (by simp))
    unfold pcs
    rw [show jn b [x] = x from rfl, Lib.count_miss (by rw [index_one]; exact h)]
    rfl
  | x :: y :: r, _, hf => by
    have ih := pcs_jn (b := b) (Z := y :: r) (by simp) (fun z h => hf z (by simp at h ⊢; exact .inr h))
    have h := idx_hit (x := x) (y := jn b (y :: r)) (hf x (by simp))
    rw [jn_two b x (by simp)]
    generalize jn b (y :: r) = R at *
    have hd : (x ++ b :: R).drop (x.length + [b].length) = R := by
      rw [List.drop_append]
      simp
    unfold pcs at ih ⊢
    rw [Lib.count_hit (i := x.length) (by simp) (by rw [index_one]; exact h), hd, Nat.add_comm 1]
    unfold Lib.splitK
    rw [index_one, h, if_neg (by simp)]
    rw [show ((x.length : Int)).toNat + [b].length = x.length + [b].length from rfl, hd, ih]
    simp
theorem cut_jn {b : UInt8} {x : List UInt8} {Z : List (List UInt8)} (hne : Z ≠ []) (hx : b ∉ x) : Lib.cut (jn b (x :: Z)) [b] = (x, jn b Z, true) := by
  rw [jn_two b x hne, cut_yes (by rw [idx_hit hx]; omega), idx_hit hx]
  have hd : (x ++ b :: jn b Z).drop (x.length + 1) = jn b Z := by
    rw [List.drop_append]
    simp
  simp [hd]

/-- The text of a number of states, and of a row. -/
def ddV (v : Int) : List UInt8 := dd11 v.toNat
def rowT (r : List Int) : List UInt8 := jn 44 (r.map ddV)
def stT (lim : Int) (m : List (List Int)) : List UInt8 := jn 59 (ddV lim :: m.map rowT)
def chkD (n : Nat) : Bool := decide (numI (dd11 n) = (n : Int)) && (decide (rdN (dd11 n) = (n : Int)) && (decide ((59 : UInt8) ∉ dd11 n) && decide ((44 : UInt8) ∉ dd11 n)))
theorem chkD_all : ((List.range 11).all fun n => chkD n) = true := by kernel_rfl
theorem chkD_at {v : Int} (h0 : 0 ≤ v) (h1 : v ≤ 10) : numI (ddV v) = v ∧ rdN (ddV v) = v ∧ (59 : UInt8) ∉ ddV v ∧ (44 : UInt8) ∉ ddV v := by
  have h := List.all_eq_true.1 chkD_all v.toNat (by rw [List.mem_range]; omega)
  unfold chkD at h
  simp only [Bool.and_eq_true, decide_eq_true_eq] at h
  have hv : (v.toNat : Int) = v := by omega
  rw [hv] at h
  exact h
theorem numS_list {v : Int} (h1 : v ≤ 10) : (numS v.toNat).data.toList = ddV v := by
  unfold numS ddV
  rw [← dd11_eq _ (by omega)]
/-- What all rows of states keep. -/
def RowsOk (m : List (List Int)) : Prop := m ≠ [] ∧ ∀ r ∈ m, r ≠ [] ∧ ∀ v ∈ r, 0 ≤ v ∧ v ≤ 10
theorem good_rows {lim : Int} {m : List (List Int)} (h : Good lim m) : RowsOk m := by
  refine ⟨fun e => ?_, fun r hr => ?_⟩
  · have := h.one
    rw [e] at this
    simp at this
  · obtain ⟨i, hi, rfl⟩ := List.getElem_of_mem hr
    have e : m.getD i [] = m[i] := by rw [List.getD_eq_getElem?_getD, List.getElem?_eq_getElem hi]; rfl
    have hl := h.row i hi
    have h1 := h.one
    rw [e] at hl
    refine ⟨fun e2 => by rw [e2] at hl; simp at hl; omega, fun v hv => ?_⟩
    obtain ⟨j, hj, rfl⟩ := List.getElem_of_mem hv
    have hn := h.num i j
    have h2 := h.hi
    have e3 : atM m i j = (m[i])[j] := by
      unfold atM
      rw [e, List.getD_eq_getElem?_getD, List.getElem?_eq_getElem hj]
      rfl
    rw [e3] at hn
    exact ⟨hn.1, by omega⟩
theorem txtJ_list (acc : ByteArray) (xs : List Int) (h : ∀ v ∈ xs, v ≤ 10) : ∀ j, j < xs.length → (txtJ acc xs (j + 1)).data.toList = acc.data.toList ++ 59 :: jn 44 ((xs.take (j + 1)).map ddV)
  | 0, hj => by
    obtain ⟨x, r, rfl⟩ : ∃ x r, xs = x :: r := by
      cases xs with
      | nil => simp at hj
      | cons x r => exact ⟨x, r, rfl⟩
    have := numS_list (h x (by simp))
    simp [txtJ, sepS, jn, ByteArray.data_append, this]
  | j + 1, hj => by
    have ih := txtJ_list acc xs h j (by omega)
    have hx : xs.getD (j + 1) 0 = xs[j + 1] := by rw [List.getD_eq_getElem?_getD, List.getElem?_eq_getElem hj]; rfl
    have hn := numS_list (h xs[j + 1] (List.getElem_mem _))
    have ht : xs.take (j + 1 + 1) = xs.take (j + 1) ++ [xs[j + 1]] := by rw [List.take_succ_eq_append_getElem hj]
    have hne : (xs.take (j + 1)).map ddV ≠ [] := by
      intro e
      have q := congrArg List.length e
      rw [List.length_map, List.length_take, List.length_nil] at q
      omega
    rw [ht, List.map_append, List.map_cons, List.map_nil, jn_snoc 44 _ hne]
    unfold txtJ
    rw [ByteArray.data_append, Array.toList_append, ih, ByteArray.data_append, Array.toList_append, hx, hn]
    simp [sepS]
theorem txtK_list (lim : Int) (m : List (List Int)) (hl : lim ≤ 10) (h : RowsOk m) : ∀ k, k ≤ m.length → (txtK lim m k).data.toList = jn 59 (ddV lim :: (m.take k).map rowT)
  | 0, _ => by
    simp [txtK, jn, numS_list hl]
  | k + 1, hk => by
    have ih := txtK_list lim m hl h k (by omega)
    have hkl : k < m.length := by omega
    have hm : m.getD k [] = m[k] := by rw [List.getD_eq_getElem?_getD, List.getElem?_eq_getElem hkl]; rfl
    have ht : m.take (k + 1) = m.take k ++ [m[k]] := by rw [List.take_succ_eq_append_getElem hkl]
    obtain ⟨hr, hv⟩ := h.2 m[k] (List.getElem_mem _)
    obtain ⟨n, hn⟩ : ∃ n, m[k].length = n + 1 := by
      cases hq : m[k] with
      | nil => exact absurd hq hr
      | cons x r => exact ⟨r.length, rfl⟩
    have hj := txtJ_list (txtK lim m k) m[k] (fun v hv' => (hv v hv').2) n (by omega)
    rw [← hn, List.take_length] at hj
    rw [ht, List.map_append, ← List.cons_append, List.map_cons, List.map_nil, jn_snoc 59 _ (by simp)]
    unfold txtK
    rw [hm, hj, ih]
    rfl
theorem txt_good {lim : Int} {m : List (List Int)} (h : Good lim m) : (txtK lim m m.length).data.toList = stT lim m := by
  rw [txtK_list lim m h.hi (good_rows h) m.length (Nat.le_refl _), List.take_length]
  rfl

/-- What the program reads, and what the model reads. -/
def limP (l : List UInt8) : Int := numI (Lib.cut l [59]).1
def rowsP (l : List UInt8) : List (List Int) := (pcs (Lib.cut l [59]).2.1 59).map fun p => (pcs p 44).map numI
def limM (l : List UInt8) : Int := rdN ((prtL l 59).headD [])
def rowsM (l : List UInt8) : List (List Int) := (prtL l 59).tail.map fun p => (prtL p 44).map rdN
theorem row_free {r : List Int} (h : ∀ v ∈ r, 0 ≤ v ∧ v ≤ 10) : (∀ z ∈ r.map ddV, (44 : UInt8) ∉ z) ∧ (59 : UInt8) ∉ rowT r := by
  refine ⟨fun z hz => ?_, fun hm => ?_⟩
  · obtain ⟨v, hv, rfl⟩ := List.mem_map.1 hz
    exact (chkD_at (h v hv).1 (h v hv).2).2.2.2
  · rcases mem_jn hm with e | ⟨z, hz, hc⟩
    · revert e; decide
    · obtain ⟨v, hv, rfl⟩ := List.mem_map.1 hz
      exact (chkD_at (h v hv).1 (h v hv).2).2.2.1 hc
theorem back_map {f : List UInt8 → Int} {r : List Int} (h : ∀ v ∈ r, f (ddV v) = v) : (r.map ddV).map f = r := by
  rw [List.map_map]
  conv => rhs; rw [← List.map_id r]
  exact List.map_congr_left fun v hv => h v hv
theorem read_back {lim : Int} {m : List (List Int)} (h : Good lim m) : limP (stT lim m) = lim ∧ rowsP (stT lim m) = m ∧ limM (stT lim m) = lim ∧ rowsM (stT lim m) = m := by
  obtain ⟨hne, hr⟩ := good_rows h
  have hc := chkD_at (v := lim) (by have := h.lo; omega) h.hi
  have hne2 : m.map rowT ≠ [] := by simpa using hne
  have hfree : ∀ z ∈ m.map rowT, (59 : UInt8) ∉ z := by
    intro z hz
    obtain ⟨r, hr', rfl⟩ := List.mem_map.1 hz
    exact (row_free (hr r hr').2).2
  have hcut : Lib.cut (stT lim m) [59] = (ddV lim, jn 59 (m.map rowT), true) := cut_jn hne2 hc.2.2.1
  have hprt : prtL (stT lim m) 59 = ddV lim :: m.map rowT := prtL_jn (by simp) (by
    intro z hz
    rw [List.mem_cons] at hz
    rcases hz with rfl | hz
    · exact hc.2.2.1
    · exact hfree z hz)
  have hm1 : (m.map rowT).map (fun p => (pcs p 44).map numI) = m := by
    rw [List.map_map]
    conv => rhs; rw [← List.map_id m]
    refine List.map_congr_left fun r hr' => ?_
    obtain ⟨q1, q2⟩ := hr r hr'
    show (pcs (rowT r) 44).map numI = r
    unfold rowT
    rw [pcs_jn (by simpa using q1) (row_free q2).1]
    exact back_map fun v hv => (chkD_at (q2 v hv).1 (q2 v hv).2).1
  have hm2 : (m.map rowT).map (fun p => (prtL p 44).map rdN) = m := by
    rw [List.map_map]
    conv => rhs; rw [← List.map_id m]
    refine List.map_congr_left fun r hr' => ?_
    obtain ⟨q1, q2⟩ := hr r hr'
    show (prtL (rowT r) 44).map rdN = r
    unfold rowT
    rw [prtL_jn (by simpa using q1) (row_free q2).1]
    exact back_map fun v hv => (chkD_at (q2 v hv).1 (q2 v hv).2).2.1
  refine ⟨?_, ?_, ?_, ?_⟩
  · unfold limP; rw [hcut]; exact hc.1
  · unfold rowsP; rw [hcut, pcs_jn hne2 hfree]; exact hm1
  · unfold limM; rw [hprt]; exact hc.2.1
  · unfold rowsM; rw [hprt]; exact hm2

/-- Whether it is a text of states, for the program and for its model. -/
def okP (s : ByteArray) : Bool := saG (limP s.data.toList) (rowsP s.data.toList) && decide (txtK (limP s.data.toList) (rowsP s.data.toList) (rowsP s.data.toList).length = s)
def okM (s : ByteArray) : Bool := decide (s.size ≤ 90) && (saG (limM s.data.toList) (rowsM s.data.toList) && decide (txtK (limM s.data.toList) (rowsM s.data.toList) (rowsM s.data.toList).length = s))
theorem ok_P {s : ByteArray} (h : okP s = true) : okM s = true ∧ limM s.data.toList = limP s.data.toList ∧ rowsM s.data.toList = rowsP s.data.toList := by
  unfold okP at h
  rw [Bool.and_eq_true, decide_eq_true_eq] at h
  obtain ⟨h1, h2⟩ := h
  have hg := good_of h1
  have e : s.data.toList = stT (limP s.data.toList) (rowsP s.data.toList) := by
    have := txt_good hg
    rw [h2] at this
    exact this
  obtain ⟨_, _, a, b⟩ := read_back hg
  rw [← e] at a b
  refine ⟨?_, a, b⟩
  unfold okM
  rw [a, b, h1, h2]
  have hsz := txtK_size hg (rowsP s.data.toList).length
  rw [h2] at hsz
  have h5 := hg.five
  have : s.size ≤ 90 := by omega
  simp [this]
theorem ok_M {s : ByteArray} (h : okM s = true) : okP s = true ∧ limM s.data.toList = limP s.data.toList ∧ rowsM s.data.toList = rowsP s.data.toList := by
  unfold okM at h
  rw [Bool.and_eq_true, Bool.and_eq_true, decide_eq_true_eq, decide_eq_true_eq] at h
  obtain ⟨_, h1, h2⟩ := h
  have hg := good_of h1
  have e : s.data.toList = stT (limM s.data.toList) (rowsM s.data.toList) := by
    have := txt_good hg
    rw [h2] at this
    exact this
  obtain ⟨a, b, _, _⟩ := read_back hg
  rw [← e] at a b
  refine ⟨?_, a.symm, b.symm⟩
  unfold okP
  rw [a, b, h1, h2]
  simp
theorem ok_same (s : ByteArray) : okM s = okP s := by
  cases h : okP s with
  | true => exact (ok_P h).1
  | false =>
    cases h2 : okM s with
    | false => rfl
    | true => rw [(ok_M h2).1] at h; cases h
def limS (s : ByteArray) : Int := if okP s then limP s.data.toList else 0
def mS (s : ByteArray) : List (List Int) := if okP s then rowsP s.data.toList else []
end Go.Proofs.YtbfgieolehbedaaDoor
