/- States told by other names: what is of no program, and whether a list has a number. -/
import Derived.Test.YtcfafgdgmkiibaaStt
namespace Go.Proofs.Ytcfafgdgmkiibaa
set_option linter.unusedSimpArgs false
open Go.ChangeShapes Go.WideShapes Go.ChangeAt Go.RowKit
set_option linter.unusedVariables false

def nmN (xs : List Int) (i : Nat) : Nat := (xs.getD i 0).toNat
/-- Whether one of the first k names is a. -/
def hasB (xs : List Int) (a : Nat) : Nat → Bool
  | 0 => false
  | k + 1 => hasB xs a k || nmN xs k == a
/-- Whether the first k names are all different. -/
def nwB (xs : List Int) : Nat → Bool
  | 0 => true
  | k + 1 => nwB xs k && !hasB xs (nmN xs k) k
/-- Whether the states before a are all named by the first n names. -/
def alB (xs : List Int) (n : Nat) : Nat → Bool
  | 0 => true
  | a + 1 => alB xs n a && hasB xs a n
def upd2 (f : Nat → Nat → Int) (a b : Nat) (x : Int) : Nat → Nat → Int := fun p q => if p = a ∧ q = b then x else f p q
def rnI (m : List (List Int)) (xs : List Int) (i : Nat) (f : Nat → Nat → Int) : Nat → Nat → Nat → Int
  | 0 => f
  | j + 1 => upd2 (rnI m xs i f j) (nmN xs i) (nmN xs j) (atM m i j)
def rnO (m : List (List Int)) (xs : List Int) (n : Nat) : Nat → Nat → Nat → Int
  | 0 => fun _ _ => 0
  | i + 1 => rnI m xs i (rnO m xs n i) n
def rowsR (n : Nat) (F : Nat → Nat → Int) : List (List Int) := (List.range n).map fun a => rowL (F a) n
def okRn (lim : Int) (m : List (List Int)) (xs : List Int) : Bool := saG lim m && (decide (xs.length = m.length) && (askB m.length xs && nwB xs m.length))
def ansRn (lim : Int) (m : List (List Int)) (xs : List Int) : List (List Int) := if okRn lim m xs then rowsR m.length (rnO m xs m.length m.length) else []
def limRn (lim : Int) (m : List (List Int)) (xs : List Int) : Int := if okRn lim m xs then lim else 0
theorem nm_at {n : Nat} {xs : List Int} (h : askB n xs = true) (i : Nat) (hi : i < xs.length) : xs.getD i 0 = (nmN xs i : Int) ∧ nmN xs i < n := by
  unfold askB at h
  have h2 := List.all_eq_true.1 h (xs.getD i 0) (by rw [List.getD_eq_getElem?_getD, List.getElem?_eq_getElem hi]; exact List.getElem_mem _)
  obtain ⟨a, b⟩ := (inB_iff _ _ _).1 h2
  unfold nmN
  omega
/-- The lists of k numbers below n. -/
def lists (n : Nat) : Nat → List (List Nat)
  | 0 => [[]]
  | k + 1 => (lists n k).flatMap fun l => (List.range n).map fun a => l ++ [a]
def pigChk : Bool := (List.range 6).all fun n => (lists n n).all fun l => nwB (l.map Int.ofNat) n == alB (l.map Int.ofNat) n n
theorem pigChk_ok : pigChk = true := by kernel_rfl
theorem lists_mem (n : Nat) : ∀ (k : Nat) (f : Nat → Nat), (∀ i, i < k → f i < n) → (List.range k).map f ∈ lists n k
  | 0, f, h => by simp [lists]
  | k + 1, f, h => by
    unfold lists
    rw [List.mem_flatMap]
    refine ⟨(List.range k).map f, lists_mem n k f (fun i hi => h i (by omega)), ?_⟩
    rw [List.mem_map]
    exact ⟨f k, List.mem_range.2 (h k (by omega)), by rw [List.range_succ, List.map_append]; rfl⟩
theorem pig {n : Nat} {xs : List Int} (h : askB n xs = true) (hl : xs.length = n) (hn : n ≤ 5) : nwB xs n = alB xs n n := by
  have hm := lists_mem n n (nmN xs) (fun i hi => (nm_at h i (by omega)).2)
  have hx : ((List.range n).map (nmN xs)).map Int.ofNat = xs := by
    apply List.ext_getElem
    · simp [hl]
    · intro i h1 h2
      have := (nm_at h i h2).1
      rw [List.getD_eq_getElem?_getD, List.getElem?_eq_getElem h2] at this
      simp
      exact this.symm
  have hc := List.all_eq_true.1 (List.all_eq_true.1 pigChk_ok n (List.mem_range.2 (by omega))) _ hm
  rw [hx] at hc
  exact eq_of_beq hc
theorem rowsR_len (n : Nat) (F : Nat → Nat → Int) : (rowsR n F).length = n := by simp [rowsR]
theorem rowsR_at (n : Nat) (F : Nat → Nat → Int) (a : Nat) (h : a < n) : (rowsR n F).getD a [] = rowL (F a) n := getD_map_range _ _ _ _ h
theorem rowsR_upd (n : Nat) (F : Nat → Nat → Int) (a b : Nat) (x : Int) (ha : a < n) : (rowsR n F).set a ((rowL (F a) n).set b x) = rowsR n (upd2 F a b x) := by
  rw [rowL_set]
  apply List.ext_getElem
  · simp [rowsR]
  · intro j h1 h2
    have hj : j < n := by simpa [rowsR] using h2
    rw [List.getElem_set]
    by_cases e : a = j
    · subst e
      rw [if_pos rfl]
      simp only [rowsR, List.getElem_map, List.getElem_range]
      apply rowL_congr
      intro q _
      unfold upd upd2
      by_cases eq : q = b
      · rw [if_pos eq, if_pos ⟨rfl, eq⟩]
      · rw [if_neg eq, if_neg (fun h => eq h.2)]
    · rw [if_neg e]
      simp only [rowsR, List.getElem_map, List.getElem_range]
      apply rowL_congr
      intro q _
      unfold upd2
      rw [if_neg (fun h => e h.1.symm)]
def gridF (F : Nat → Nat → Int) (q : Nat) : Int := F (q / 5) (q % 5)
theorem gridF_upd (F : Nat → Nat → Int) (a b : Nat) (x : Int) (hb : b < 5) : upd (gridF F) (a * 5 + b) x = gridF (upd2 F a b x) := by
  funext q
  unfold upd gridF upd2
  by_cases e : q = a * 5 + b
  · subst e
    have h1 : (a * 5 + b) / 5 = a := by omega
    have h2 : (a * 5 + b) % 5 = b := by omega
    rw [if_pos rfl, if_pos ⟨h1, h2⟩]
  · rw [if_neg e, if_neg (by omega)]
theorem rows_grid (n : Nat) (F : Nat → Nat → Int) (hn : n ≤ 5) : rowsG n (gridF F) n = rowsR n F := by
  unfold rowsG rowsR
  apply List.map_congr_left
  intro a _
  unfold rowG
  apply rowL_congr
  intro j hj
  unfold gridF
  rw [show (a * 5 + j) / 5 = a from by omega, show (a * 5 + j) % 5 = j from by omega]
theorem hasB_mono (xs : List Int) (a : Nat) {j : Nat} (h : hasB xs a j = true) : ∀ k, j ≤ k → hasB xs a k = true
  | 0, hk => by
    obtain rfl : j = 0 := by omega
    exact h
  | k + 1, hk => by
    by_cases e : j = k + 1
    · subst e; exact h
    · unfold hasB
      rw [hasB_mono xs a h k (by omega), Bool.true_or]
set_option maxHeartbeats 800000 in
theorem l1Has_any (n : Nat) (xs : List Int) (v : Value) (B : Nat) (a : Nat) (w : World) (h : RdI w B v xs) (ha : askB n xs = true) :
    Calls Try.prog 35 #[v, .int .i64 a] w fun e w' => e = .returned (.bool (hasB xs a xs.length)) ∧ w = w' := by
  obtain ⟨A, cap, rfl, l0, m0⟩ := h.form
  unfold maxLen at m0
  have H := Lib.hid h
  have HA := Lib.hid (fun i hi => nm_at ha i hi)
  clear h ha
  go_enter Try.func35, Try.ntmps35
  go_wp2
  go_loop [9] (fun i => ∃ k : Nat, k ≤ xs.length ∧ i = .int .i64 k ∧ Hid (hasB xs a k = false)) (fun i => xs.length - (intOf i).toNat)
  case atStart => exact ⟨0, by omega, rfl, rfl⟩
  case round =>
    obtain ⟨k, hk, rfl, hb⟩ := hrel
    by_cases hlt : k < xs.length
    · obtain ⟨ad, rfl, _, e0⟩ := H.out.at_ hlt
      obtain ⟨x0, x1⟩ := HA.out k hlt
      rw [x0] at e0
      clear x0
      by_cases hq : nmN xs k = a
      · have hfin : Hid (hasB xs a xs.length = true) := Lib.hid (hasB_mono xs a (j := k + 1) (by unfold hasB; simp [hq]) _ (by omega))
        have hqi : ((nmN xs k : Nat) : Int) = (a : Int) := by omega
        generalize nmN xs k = x at *
        clear hq
        go_wp2
        go_ret
        exact ⟨by rw [hfin.out]; rfl, rfl⟩
      · have hnx : Hid (hasB xs a (k + 1) = false) := Lib.hid (by unfold hasB; rw [hb.out]; simp [hq])
        have hqi : ¬ ((nmN xs k : Nat) : Int) = (a : Int) := by omega
        generalize nmN xs k = x at *
        clear hq
        go_wp2
        exact ⟨⟨k + 1, by omega, by go_num, hnx⟩, by simp [intOf]; omega⟩
    · obtain rfl : k = xs.length := by omega
      go_wp2
      go_ret
      exact ⟨by rw [hb.out]; rfl, rfl⟩
end Go.Proofs.Ytcfafgdgmkiibaa
