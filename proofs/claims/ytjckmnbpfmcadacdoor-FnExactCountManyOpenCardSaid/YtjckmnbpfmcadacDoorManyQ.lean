/- The two machines of several patterns, held against each other: what is of no program. -/
import Derived.Test.YtjckmnbpfmcadacDoorManyP
namespace Go.Proofs.YtjckmnbpfmcadacDoor
set_option linter.unusedSimpArgs false
open Go.ChangeShapes Go.WideShapes Go.ChangeAt Go.RowKit
set_option linter.unusedVariables false

/-- Patterns of one length, all of them different. -/
structure Pats (xs : List LB) (L : Nat) : Prop where
  ne : xs ≠ []
  len : ∀ x ∈ xs, x.length = L
  tos : ∀ x ∈ xs, x.all tosB = true
  nodup : xs.Nodup
  low : 1 ≤ L
/-- The first signs of patterns, no whole ones. -/
def stS (xs : List LB) (L : Nat) : List LB := dedA [[]] ((List.range L).flatMap fun l => xs.map fun x => x.take l)
def stK (xs : List LB) (L : Nat) : List LB := stS xs L ++ xs
theorem stS_len {xs : List LB} {L : Nat} (P : Pats xs L) : ∀ y ∈ stS xs L, y.length < L := by
  intro y hy
  rcases (dedA_mem y _ _).1 hy with h | h
  · have : y = [] := by simpa using h
    subst this
    exact P.low
  · rw [List.mem_flatMap] at h
    obtain ⟨l, hl, h2⟩ := h
    rw [List.mem_map] at h2
    obtain ⟨x, _, rfl⟩ := h2
    have : l < L := by simpa using hl
    rw [List.length_take]
    omega
theorem stS_pos (xs : List LB) (L : Nat) : 0 < (stS xs L).length := by
  have h : ([] : LB) ∈ stS xs L := (dedA_mem _ _ _).2 (.inl (by simp))
  exact List.length_pos_of_mem h
theorem stS_head (xs : List LB) (L : Nat) : (stS xs L).getD 0 [] = [] := dedA_head _ _ _ _
theorem stK_nodup {xs : List LB} {L : Nat} (P : Pats xs L) : (stK xs L).Nodup := by
  unfold stK
  rw [List.nodup_append]
  refine ⟨dedA_nodup _ _ (by simp), P.nodup, fun a ha b hb e => ?_⟩
  have := stS_len P a ha
  rw [e, P.len b hb] at this
  omega
theorem kept_mem {xs : List LB} {L : Nat} (P : Pats xs L) (s : LB) : keptL xs s ∈ stK xs L := by
  obtain ⟨x, hx, hp⟩ := keptL_pre xs P.ne s
  have hl := hp.length_le
  rw [P.len x hx] at hl
  unfold stK
  rw [List.mem_append]
  have e := List.prefix_iff_eq_take.1 hp
  by_cases h : (keptL xs s).length = L
  · right
    rw [h, ← P.len x hx, List.take_length] at e
    rw [e]
    exact hx
  · left
    refine (dedA_mem _ _ _).2 (.inr ?_)
    rw [List.mem_flatMap]
    refine ⟨(keptL xs s).length, by simpa using (by omega), ?_⟩
    rw [List.mem_map]
    exact ⟨x, hx, e.symm⟩
/-- Where a text stands among the states. -/
def ixK (xs : List LB) (L : Nat) (u : LB) : Nat := (stK xs L).idxOf u
theorem ix_lt {xs : List LB} {L : Nat} {u : LB} (h : u ∈ stK xs L) : ixK xs L u < (stK xs L).length := List.idxOf_lt_length_of_mem h
theorem ix_at {xs : List LB} {L : Nat} {u : LB} (h : u ∈ stK xs L) : (stK xs L).getD (ixK xs L u) [] = u := by
  have hl := ix_lt h
  rw [List.getD_eq_getElem?_getD, List.getElem?_eq_getElem hl]
  exact List.getElem_idxOf hl
theorem ix_low {xs : List LB} {L : Nat} {u : LB} (h : u ∈ stS xs L) : ixK xs L u < (stS xs L).length := by
  unfold ixK stK
  rw [List.idxOf_append, if_pos h]
  exact List.idxOf_lt_length_of_mem h
theorem nodup_inj {l : List LB} (hn : l.Nodup) {i j : Nat} (hi : i < l.length) (hj : j < l.length) (h : l.getD i [] = l.getD j []) : i = j := by
  rw [List.getD_eq_getElem?_getD, List.getD_eq_getElem?_getD, List.getElem?_eq_getElem hi, List.getElem?_eq_getElem hj] at h
  replace h : l[i] = l[j] := h
  have hp := List.pairwise_iff_getElem.1 hn
  rcases Nat.lt_trichotomy i j with q | q | q
  · exact absurd h (hp i j hi hj q)
  · exact q
  · exact absurd h.symm (hp j i hj hi q)
theorem ix_fin {xs : List LB} {L : Nat} (P : Pats xs L) (k : Nat) (hk : k < xs.length) : ixK xs L (xs.getD k []) = (stS xs L).length + k := by
  have hm : xs.getD k [] ∈ xs := by rw [List.getD_eq_getElem?_getD, List.getElem?_eq_getElem hk]; exact List.getElem_mem hk
  have hK : xs.getD k [] ∈ stK xs L := by unfold stK; rw [List.mem_append]; exact .inr hm
  refine nodup_inj (stK_nodup P) (ix_lt hK) (by unfold stK; rw [List.length_append]; omega) ?_
  rw [ix_at hK]
  unfold stK
  rw [List.getD_eq_getElem?_getD, List.getD_eq_getElem?_getD, List.getElem?_append_right (by omega), show (stS xs L).length + k - (stS xs L).length = k from by omega]
def gK (xs : List LB) (L : Nat) (c : UInt8) (j : Nat) : Nat := ixK xs L (keptL xs ((stK xs L).getD j [] ++ [c]))

/- The model's machine. -/
def isM (xs : List LB) (to : Nat) : Option Nat := firstK (fun k => decide (codeL (xs.getD k []) = to)) xs.length 0
def toM (L x : Nat) : Nat := if x < 2 * 2 ^ L then x else x % 2 ^ L + 2 ^ L
def mvM (xs : List LB) (L x : Nat) : Nat := match isM xs (toM L x) with
  | some k => 2 * 2 ^ L + k
  | none => toM L x
theorem firstK_some {p : Nat → Bool} : ∀ {m k j : Nat}, firstK p m k = some j → p j = true
  | 0, k, j, h => by simp [firstK] at h
  | m + 1, k, j, h => by
    cases hp : p k
    · rw [firstK_no hp] at h
      exact firstK_some h
    · rw [firstK_yes hp] at h
      obtain rfl := Option.some.inj h
      exact hp
theorem firstK_none_all {p : Nat → Bool} : ∀ {m k : Nat}, firstK p m k = none → ∀ j, k ≤ j → j < k + m → p j = false
  | 0, k, _, j, h1, h2 => by omega
  | m + 1, k, h, j, h1, h2 => by
    cases hp : p k
    · rw [firstK_no hp] at h
      by_cases e : j = k
      · subst e; exact hp
      · exact firstK_none_all h j (by omega) (by omega)
    · rw [firstK_yes hp] at h
      cases h
theorem isM_some {xs : List LB} {to k : Nat} (h : isM xs to = some k) : k < xs.length ∧ codeL (xs.getD k []) = to := by
  have h1 := firstK_lt h
  have h2 := firstK_some h
  exact ⟨by omega, of_decide_eq_true h2⟩
theorem isM_none {xs : List LB} {to : Nat} (h : isM xs to = none) : ∀ x ∈ xs, codeL x ≠ to := by
  intro x hx e
  obtain ⟨k, hk, rfl⟩ := List.getElem_of_mem hx
  have := firstK_none_all h k (by omega) (by omega)
  rw [List.getD_eq_getElem?_getD, List.getElem?_eq_getElem hk] at this
  simp [e] at this
def goodM (xs : List LB) (i : Nat) : Bool := decide (1 ≤ i) && (isM xs i).isNone
def rhoM (xs : List LB) (L i : Nat) : Nat := if i < 2 * 2 ^ L then ixK xs L (keptL xs (txM i)) else (stS xs L).length + (i - 2 * 2 ^ L)
theorem toM_in (L x : Nat) (h1 : 1 ≤ x) (h2 : x < 4 * 2 ^ L) : 1 ≤ toM L x ∧ toM L x < 2 * 2 ^ L := by
  have hp : 0 < 2 ^ L := Nat.pow_pos (by omega)
  unfold toM
  split
  · omega
  · have := Nat.mod_lt x hp
    omega
theorem toM_kept {xs : List LB} {L : Nat} (P : Pats xs L) (x : Nat) (h1 : 1 ≤ x) (h2 : x < 4 * 2 ^ L) : keptL xs (txM (toM L x)) = keptL xs (txM x) := by
  unfold toM
  split
  · rfl
  · rename_i h
    rw [tx_trunc x L (by omega) h2]
    have hl := len_of x (L + 1) (by rw [Nat.pow_succ]; omega) (by rw [Nat.pow_succ]; omega)
    exact keptL_last xs L 1 P.ne P.len _ (by rw [List.length_drop, hl]; omega)
theorem one_step {xs : List LB} {L : Nat} (P : Pats xs L) (i : Nat) (hi : i < 2 * 2 ^ L) (hg : goodM xs i = true) (b : Nat) (hb : b ≤ 1) :
    gK xs L (if b = 1 then 104 else 116) (rhoM xs L i) = rhoM xs L (mvM xs L (2 * i + b)) ∧ mvM xs L (2 * i + b) < 2 * 2 ^ L + xs.length ∧ (mvM xs L (2 * i + b) < 2 * 2 ^ L → goodM xs (mvM xs L (2 * i + b)) = true) := by
  unfold goodM at hg
  rw [Bool.and_eq_true, decide_eq_true_iff] at hg
  have hto := toM_in L (2 * i + b) (by omega) (by omega)
  have hk := toM_kept P (2 * i + b) (by omega) (by omega)
  have e1 : gK xs L (if b = 1 then 104 else 116) (rhoM xs L i) = ixK xs L (keptL xs (txM (toM L (2 * i + b)))) := by
    unfold gK rhoM
    rw [if_pos hi, ix_at (kept_mem P _), keptL_step xs P.ne, ← tx_snoc i hg.1 b hb, hk]
  rw [e1]
  unfold mvM
  cases hm : isM xs (toM L (2 * i + b)) with
  | some k =>
    obtain ⟨k1, k2⟩ := isM_some hm
    have hmem : xs.getD k [] ∈ xs := by rw [List.getD_eq_getElem?_getD, List.getElem?_eq_getElem k1]; exact List.getElem_mem k1
    refine ⟨?_, by dsimp only; omega, fun h => by dsimp only at h; omega⟩
    dsimp only
    rw [← k2, tx_code _ (P.tos _ hmem), keptL_self xs _ hmem, ix_fin P k k1]
    unfold rhoM
    rw [if_neg (by omega)]
    omega
  | none =>
    refine ⟨?_, by dsimp only; omega, fun _ => ?_⟩
    · dsimp only
      unfold rhoM
      rw [if_pos hto.2]
    · unfold goodM
      dsimp only
      rw [hm]
      simpa using hto.1
theorem lumps_many {xs : List LB} {L : Nat} (P : Pats xs L) : Lumps (stS xs L).length (2 * 2 ^ L) xs.length 1 (gK xs L 104) (gK xs L 116) (fun i => mvM xs L (2 * i + 1)) (fun i => mvM xs L (2 * i)) (rhoM xs L) (goodM xs) := by
  have hp : 2 ≤ 2 ^ L := by have := Nat.pow_le_pow_right (show 0 < 2 by omega) P.low; simpa using this
  refine ⟨⟨by omega, ?_, ?_⟩, fun i hi hg => ?_, fun k hk => ?_, fun i hi hg => one_step P i hi hg 1 (by omega), fun i hi hg => one_step P i hi hg 0 (by omega)⟩
  · unfold goodM
    cases hm : isM xs 1 with
    | none => rfl
    | some k =>
      obtain ⟨k1, k2⟩ := isM_some hm
      have hmem : xs.getD k [] ∈ xs := by rw [List.getD_eq_getElem?_getD, List.getElem?_eq_getElem k1]; exact List.getElem_mem k1
      have := (codeL_in (xs.getD k [])).1
      rw [P.len _ hmem] at this
      omega
  · unfold rhoM
    rw [if_pos (by omega), txM_one 1 (Nat.le_refl 1)]
    have hK : ([] : LB) ∈ stK xs L := by unfold stK; rw [List.mem_append]; exact .inl ((dedA_mem _ _ _).2 (.inl (by simp)))
    refine nodup_inj (stK_nodup P) (ix_lt (kept_mem P [])) (List.length_pos_of_mem hK) ?_
    rw [ix_at (kept_mem P [])]
    show ([] : LB) = _
    have h0 := stS_head xs L
    have hp0 := stS_pos xs L
    unfold stK
    rw [List.getD_eq_getElem?_getD, List.getElem?_append_left hp0, ← List.getD_eq_getElem?_getD, h0]
  · unfold goodM at hg
    rw [Bool.and_eq_true, decide_eq_true_iff] at hg
    unfold rhoM
    rw [if_pos hi]
    have hm := kept_mem P (txM i)
    unfold stK at hm
    rw [List.mem_append] at hm
    rcases hm with h | h
    · exact ix_low h
    · exfalso
      have hl := P.len _ h
      have hs := keptL_suf xs (txM i)
      have hle := hs.length_le
      have hti := tx_len i hg.1
      have hlen : (txM i).length ≤ L := by
        rcases Nat.lt_or_ge L (txM i).length with q | q
        · have := Nat.pow_le_pow_right (show 0 < 2 by omega) (show L + 1 ≤ (txM i).length from q)
          rw [Nat.pow_succ] at this
          omega
        · exact q
      have e := hs.eq_of_length (by omega)
      rw [e] at h
      have hn : isM xs i = none := by simpa using hg.2
      exact isM_none hn _ h (code_tx i hg.1)
  · unfold rhoM
    rw [if_neg (by omega)]
    omega
end Go.Proofs.YtjckmnbpfmcadacDoor
