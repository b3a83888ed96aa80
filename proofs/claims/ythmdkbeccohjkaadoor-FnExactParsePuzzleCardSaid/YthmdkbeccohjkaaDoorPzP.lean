/- Clues and what they tell of chains, solutions of puzzles, what is marked: as lists of triples. -/
import Derived.Test.YthmdkbeccohjkaaDoorLaterD
namespace Go.Proofs.YthmdkbeccohjkaaDoor
set_option linter.unusedSimpArgs false
open Go.ChangeShapes Go.WideShapes Go.ChangeAt Go.RowKit
set_option linter.unusedVariables false
--BEGIN
abbrev Tri := Int × Int × Int
abbrev tz : Tri := (0, 0, 0)
def triL (t : Tri) : List Value := [.int .i64 t.1, .int .i64 t.2.1, .int .i64 t.2.2]
/-- The cells of a slice of structs of three integers. -/
def flat : List Tri → List Value
  | [] => []
  | t :: ts => triL t ++ flat ts
theorem flat_len : ∀ ts, (flat ts).length = ts.length * 3
  | [] => rfl
  | t :: ts => by
    show (triL t ++ flat ts).length = _
    rw [List.length_append, flat_len ts, List.length_cons]
    show 3 + _ = _
    omega
theorem flat_append : ∀ ts us, flat (ts ++ us) = flat ts ++ flat us
  | [], us => rfl
  | t :: ts, us => by
    show triL t ++ flat (ts ++ us) = (triL t ++ flat ts) ++ flat us
    rw [flat_append ts us, List.append_assoc]
theorem flat_at : ∀ ts k, k < ts.length → (flat ts)[k * 3]? = some (.int .i64 (ts.getD k tz).1) ∧ (flat ts)[k * 3 + 1]? = some (.int .i64 (ts.getD k tz).2.1) ∧ (flat ts)[k * 3 + 2]? = some (.int .i64 (ts.getD k tz).2.2)
  | [], k, h => by simp at h
  | t :: ts, 0, h => ⟨rfl, rfl, rfl⟩
  | t :: ts, k + 1, h => by
    have ih := flat_at ts k (by simpa using h)
    have e : ∀ j, (flat (t :: ts))[(k + 1) * 3 + j]? = (flat ts)[k * 3 + j]? := fun j => by
      show (triL t ++ flat ts)[(k + 1) * 3 + j]? = _
      rw [List.getElem?_append_right (by show 3 ≤ _; omega)]
      congr 1
      show (k + 1) * 3 + j - 3 = _
      omega
    rw [e 1, e 2]
    have e0 := e 0
    rw [Nat.add_zero, Nat.add_zero] at e0
    rw [e0]
    exact ih
theorem flat_set : ∀ ts k a b c, k < ts.length → (((flat ts).set (k * 3) (.int .i64 a)).set (k * 3 + 1) (.int .i64 b)).set (k * 3 + 2) (.int .i64 c) = flat (ts.set k (a, b, c))
  | [], k, a, b, c, h => by simp at h
  | t :: ts, 0, a, b, c, h => rfl
  | t :: ts, k + 1, a, b, c, h => by
    have ih := flat_set ts k a b c (by simpa using h)
    have e : ∀ (l : List Value) j x, (triL t ++ l).set ((k + 1) * 3 + j) x = triL t ++ l.set (k * 3 + j) x := fun l j x => by
      rw [List.set_append_right _ _ (by show 3 ≤ _; omega)]
      congr 2
      show (k + 1) * 3 + j - 3 = _
      omega
    show (((triL t ++ flat ts).set ((k + 1) * 3 + 0) _).set _ _).set _ _ = triL t ++ flat (ts.set k (a, b, c))
    rw [e, e, e, ← ih]
    rfl
/-- The triples, the first i of them marked: k, k + 1, k + 2, .. -/
def markT (k : Int) (i : Nat) (ts : List Tri) : List Tri := ts.mapIdx (fun j x => if j < i then (k + 3 * j, k + 3 * j + 1, k + 3 * j + 2) else x)
theorem markT_len (k : Int) (i : Nat) (ts : List Tri) : (markT k i ts).length = ts.length := by simp [markT]
theorem markT_zero (k : Int) (ts : List Tri) : markT k 0 ts = ts := by
  unfold markT
  apply List.ext_getElem
  · simp
  · intro j h1 h2; simp
theorem markT_set (k : Int) (i : Nat) (ts : List Tri) : (markT k i ts).set i (k + 3 * i, k + 3 * i + 1, k + 3 * i + 2) = markT k (i + 1) ts := by
  unfold markT
  apply List.ext_getElem
  · simp
  · intro j h1 h2
    simp only [List.getElem_set, List.getElem_mapIdx]
    by_cases e : i = j
    · subst e; simp
    · rw [if_neg e]
      by_cases g : j < i
      · rw [if_pos g, if_pos (by omega)]
      · rw [if_neg g, if_neg (by omega)]
theorem markT_at (k : Int) (n i : Nat) (ts : List Tri) (hi : i < n) (hx : i < ts.length) : (markT k n ts).getD i tz = (k + 3 * i, k + 3 * i + 1, k + 3 * i + 2) := by
  rw [List.getD_eq_getElem?_getD, List.getElem?_eq_getElem (by rw [markT_len]; exact hx)]
  simp [markT, hi]

/-- Whether three numbers are a clue. -/
def clG (t : Tri) : Bool :=
  if t.1 = 0 then decide (t.2.1 = 0) && inB t.2.2 0 1
  else if t.1 = 1 ∨ t.1 = 2 ∨ t.1 = 5 then decide (t.2.1 = 0) && inB t.2.2 0 100
  else if t.1 = 3 ∨ t.1 = 4 then inB t.2.1 0 100 && (inB t.2.2 0 100 && decide (1 ≤ t.2.2))
  else false
theorem clG_in {t : Tri} (h : clG t = true) : 0 ≤ t.1 ∧ t.1 ≤ 5 ∧ 0 ≤ t.2.1 ∧ t.2.1 ≤ 100 ∧ 0 ≤ t.2.2 ∧ t.2.2 ≤ 100 ∧ ((t.1 = 3 ∨ t.1 = 4) → 1 ≤ t.2.2) := by
  unfold clG inB at h
  split at h
  · simp at h; omega
  · split at h
    · simp at h; omega
    · split at h
      · simp at h; omega
      · simp at h
def hidG (c : Tri) : Bool := good c.1 c.2.1 c.2.2 && decide (c.2.2 ≤ 8)
/-- What a clue of a kind tells of a chain. -/
def clv (k : Int) (c : Tri) : Int × Int :=
  if k = 0 then (0, if c.2.1 < c.1 then 1 else 0)
  else if k = 1 then (0, c.1 + c.2.1)
  else if k = 2 then (0, c.1 * c.2.1)
  else if k = 3 then (if 1 ≤ c.1 ∧ 1 ≤ c.2.1 then (low c.2.1 c.2.1 (c.1 + c.2.1), low (c.1 + c.2.1) c.2.1 (c.1 + c.2.1)) else (0, 0))
  else if k = 4 then (if c.2.1 = 0 then (0, 0) else (low c.2.2 c.2.2 c.2.1, low c.2.1 c.2.2 c.2.1))
  else (0, (c.2.2 - c.1) * (c.2.2 - c.1) + c.1 * c.2.1)
/-- Whether it tells anything. -/
def clo (k : Int) (c : Tri) : Bool := if k = 3 then decide (1 ≤ c.1 ∧ 1 ≤ c.2.1) else if k = 4 then !decide (c.2.1 = 0) else true
/-- Whether a chain fits a clue. -/
def fit (t c : Tri) : Bool := decide ((clv t.1 c).1 = t.2.1) && decide ((clv t.1 c).2 = t.2.2)
theorem fit_ok {t c : Tri} (h : clG t = true) (hf : fit t c = true) : clo t.1 c = true := by
  obtain ⟨h1, h2, h3, h4, h5, h6, h7⟩ := clG_in h
  unfold fit at hf
  unfold clo
  unfold clv at hf
  split
  · rename_i e
    rw [if_neg (by omega), if_neg (by omega), if_neg (by omega), if_pos e] at hf
    by_cases q : 1 ≤ c.1 ∧ 1 ≤ c.2.1
    · simpa using q
    · rw [if_neg q] at hf
      simp at hf
      omega
  · split
    · rename_i e
      rw [if_neg (by omega), if_neg (by omega), if_neg (by omega), if_neg (by omega), if_pos e] at hf
      by_cases q : c.2.1 = 0
      · rw [if_pos q] at hf
        simp at hf
        omega
      · simpa using q
    · rfl
def fitsA (ts : List Tri) (c : Tri) : Bool := ts.all fun t => fit t c
def clsG (ts : List Tri) : Bool := ts.all clG
def pzG (o : Int) (ts : List Tri) : Bool := inB o 1 8 && (decide (ts.length ≤ 6) && clsG ts)
/-- The solutions with these Wets among the first d Dries. -/
def solD (o : Nat) (ts : List Tri) (w : Nat) : Nat → List Tri
  | 0 => []
  | d + 1 => if fitsA ts ((w : Int), (d : Int), (o : Int)) then solD o ts w d ++ [((w : Int), (d : Int), (o : Int))] else solD o ts w d
/-- The solutions with fewer Wets than w. -/
def solW (o : Nat) (ts : List Tri) : Nat → List Tri
  | 0 => []
  | w + 1 => solW o ts w ++ solD o ts w (o + 1)
def sols (o : Nat) (ts : List Tri) : List Tri := solW o ts (o + 1)
theorem solD_len (o : Nat) (ts : List Tri) (w : Nat) : ∀ d, (solD o ts w d).length ≤ d
  | 0 => by simp [solD]
  | d + 1 => by
    have := solD_len o ts w d
    unfold solD
    split
    · simp; omega
    · omega
theorem solW_len (o : Nat) (ts : List Tri) : ∀ w, (solW o ts w).length ≤ w * (o + 1)
  | 0 => by simp [solW]
  | w + 1 => by
    have := solW_len o ts w
    have := solD_len o ts w (o + 1)
    unfold solW
    rw [List.length_append, Nat.succ_mul]
    omega
theorem sols_len (o : Nat) (ts : List Tri) (h : o ≤ 8) : (sols o ts).length ≤ 81 := by
  have h1 := solW_len o ts (o + 1)
  have h2 : (o + 1) * (o + 1) ≤ 9 * 9 := Nat.mul_le_mul (by omega) (by omega)
  unfold sols
  omega
theorem solD_yes {o : Nat} {ts : List Tri} {w d : Nat} (h : fitsA ts ((w : Int), (d : Int), (o : Int)) = true) : solD o ts w (d + 1) = solD o ts w d ++ [((w : Int), (d : Int), (o : Int))] := by
  conv => lhs; unfold solD
  rw [if_pos h]
theorem solD_no {o : Nat} {ts : List Tri} {w d : Nat} (h : fitsA ts ((w : Int), (d : Int), (o : Int)) = false) : solD o ts w (d + 1) = solD o ts w d := by
  conv => lhs; unfold solD
  rw [if_neg (by rw [h]; simp)]
theorem fitsA_take {ts : List Tri} {c : Tri} {k : Nat} (hk : k < ts.length) : fitsA (ts.take (k + 1)) c = (fitsA (ts.take k) c && fit (ts.getD k tz) c) := by
  unfold fitsA
  rw [List.take_add_one, List.all_append, List.getD_eq_getElem?_getD, List.getElem?_eq_getElem hk]
  simp
theorem fitsA_no {ts : List Tri} {c : Tri} {k : Nat} (hk : k < ts.length) (h : fit (ts.getD k tz) c = false) : fitsA ts c = false := by
  unfold fitsA
  rw [List.all_eq_false]
  refine ⟨ts[k], List.getElem_mem hk, ?_⟩
  rw [List.getD_eq_getElem?_getD, List.getElem?_eq_getElem hk] at h
  simpa using h
theorem clsG_at {ts : List Tri} {k : Nat} (hk : k < ts.length) (h : clsG ts = true) : clG (ts.getD k tz) = true := by
  unfold clsG at h
  rw [List.all_eq_true] at h
  rw [List.getD_eq_getElem?_getD, List.getElem?_eq_getElem hk]
  exact h _ (List.getElem_mem hk)
theorem clsG_take {ts : List Tri} {k : Nat} (hk : k < ts.length) : clsG (ts.take (k + 1)) = (clsG (ts.take k) && clG (ts.getD k tz)) := by
  unfold clsG
  rw [List.take_add_one, List.all_append, List.getD_eq_getElem?_getD, List.getElem?_eq_getElem hk]
  simp
theorem clsG_no {ts : List Tri} {k : Nat} (hk : k < ts.length) (h : clG (ts.getD k tz) = false) : clsG ts = false := by
  unfold clsG
  rw [List.all_eq_false]
  refine ⟨ts[k], List.getElem_mem hk, ?_⟩
  rw [List.getD_eq_getElem?_getD, List.getElem?_eq_getElem hk] at h
  simpa using h
theorem clsG_app (xs ys : List Tri) : clsG (xs ++ ys) = (clsG xs && clsG ys) := by unfold clsG; rw [List.all_append]
theorem clsG_sub {xs ys : List Tri} (h : clsG ys = true) (hs : ∀ x ∈ xs, x ∈ ys) : clsG xs = true := by
  unfold clsG at *
  rw [List.all_eq_true] at *
  exact fun x hx => h x (hs x hx)
--END
end Go.Proofs.YthmdkbeccohjkaaDoor
