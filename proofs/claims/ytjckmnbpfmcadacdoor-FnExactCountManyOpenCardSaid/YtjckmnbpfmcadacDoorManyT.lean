/- All texts of tosses led on together, for many racers: the contract of the program, in the numbers of the model's machine. -/
import Derived.Test.YtjckmnbpfmcadacDoorManyQ
namespace Go.Proofs.YtjckmnbpfmcadacDoor
set_option linter.unusedSimpArgs false
open Go.ChangeShapes Go.WideShapes Go.ChangeAt Go.RowKit
set_option linter.unusedVariables false

theorem sl_formR {w : World} {base : Nat} {v : Value} {xs : List ByteArray} (h : SRow w base v xs) : ∃ A cap, v = .slice A xs.length cap ∧ (0 < xs.length → ∃ gg, A = some ⟨gg, 0, none⟩ ∧ base ≤ gg) := by
  rcases h.form with ⟨hx, A, cap, rfl⟩ | ⟨hx, gg, cap, rfl, hbg, _⟩
  · subst hx
    exact ⟨A, cap, rfl, fun h => by simp at h⟩
  · exact ⟨_, cap, rfl, fun _ => ⟨gg, rfl, hbg⟩⟩
def lsM (xs : List ByteArray) : List LB := xs.map fun x => x.data.toList
def keyM (xs : List ByteArray) (L j : Nat) : ByteArray := ⟨((stK (lsM xs) L).getD j []).toArray⟩
theorem pre_link (xs : List ByteArray) (s : ByteArray) : preAny xs s = preL (lsM xs) s.data.toList := by
  unfold preAny preL lsM
  rw [List.any_map]
  rfl
theorem kept_link (xs : List ByteArray) (s : ByteArray) : ∀ k, k ≤ s.size → (keptD xs s k).data.toList = keptL (lsM xs) (s.data.toList.drop (s.size - k))
  | 0, _ => by
    show (sufx s 0).data.toList = _
    rw [sufx_zero, Nat.sub_zero, List.drop_eq_nil_of_le (by rw [len_list]; exact Nat.le_refl _)]
    rfl
  | k + 1, hk => by
    have hlt : s.size - (k + 1) < s.data.toList.length := by rw [len_list]; omega
    have hd := List.drop_eq_getElem_cons hlt
    have hs : (sufx s (k + 1)).data.toList = s.data.toList.drop (s.size - (k + 1)) := by
      unfold sufx
      rw [ext_list, List.take_of_length_le (by rw [len_list]; exact Nat.le_refl _)]
    have hp := pre_link xs (sufx s (k + 1))
    rw [hs] at hp
    have hn : s.size - (k + 1) + 1 = s.size - k := by omega
    rw [hd, hn] at hp ⊢
    unfold keptL
    cases hq : preAny xs (sufx s (k + 1))
    · rw [keptD_no hq, kept_link xs s k (by omega), ← hp, hq]
      rfl
    · rw [keptD_yes hq, hs, hd, hn, ← hp, hq]
      rfl
theorem keptT_link (xs : List ByteArray) (s : ByteArray) : (keptT xs s).data.toList = keptL (lsM xs) s.data.toList := by
  unfold keptT
  rw [kept_link xs s s.size (Nat.le_refl _), Nat.sub_self, List.drop_zero]
theorem lsM_getD (xs : List ByteArray) (k : Nat) (hk : k < xs.length) : (lsM xs).getD k [] = (xs.getD k ByteArray.empty).data.toList := by
  unfold lsM
  rw [List.getD_eq_getElem?_getD, List.getElem?_map, List.getD_eq_getElem?_getD, List.getElem?_eq_getElem hk]
  rfl
theorem pats_many {xs : List ByteArray} (h : manyG xs = true) : Pats (lsM xs) (xs.getD 0 noS).size ∧ (xs.getD 0 noS).size ≤ 5 := by
  obtain ⟨x2, x4, hok⟩ := many_in h
  have hsz := ok_size hok
  have hrc := ok_rac hok
  have h0 := rac_in (hrc 0 (by omega))
  have each : ∀ y ∈ lsM xs, ∃ k, k < xs.length ∧ y = (xs.getD k noS).data.toList := by
    intro y hy
    unfold lsM at hy
    rw [List.mem_map] at hy
    obtain ⟨x, hx, rfl⟩ := hy
    obtain ⟨k, hk, rfl⟩ := List.getElem_of_mem hx
    exact ⟨k, hk, by rw [List.getD_eq_getElem?_getD, List.getElem?_eq_getElem hk]; rfl⟩
  refine ⟨⟨?_, ?_, ?_, ?_, h0.1⟩, h0.2.1⟩
  · intro e
    have := congrArg List.length e
    unfold lsM at this
    simp at this
    rw [this] at x2
    simp at x2
  · intro y hy
    obtain ⟨k, hk, rfl⟩ := each y hy
    rw [len_list]
    exact hsz k hk
  · intro y hy
    obtain ⟨k, hk, rfl⟩ := each y hy
    exact (rac_in (hrc k hk)).2.2
  · unfold lsM List.Nodup
    rw [List.pairwise_map, List.pairwise_iff_getElem]
    intro i j hi hj hij e
    have h2 := hok j hj
    unfold okAt at h2
    simp only [Bool.and_eq_true, Bool.not_eq_true'] at h2
    have h3 := h2.2.2
    rw [← Bool.not_eq_true, Lib.containsS_iff] at h3
    apply h3
    have e2 := ba_eq.2 e
    rw [List.getD_eq_getElem?_getD, List.getElem?_eq_getElem hj]
    show xs[j] ∈ _
    rw [← e2, List.mem_iff_getElem]
    exact ⟨i, by simp; omega, by rw [List.getElem_take]⟩
theorem pres_many {xs : List ByteArray} (h : manyG xs = true) : Pres xs (stS (lsM xs) (xs.getD 0 noS).size).length (keyM xs (xs.getD 0 noS).size) (gK (lsM xs) (xs.getD 0 noS).size 104) (gK (lsM xs) (xs.getD 0 noS).size 116) := by
  obtain ⟨P, h5⟩ := pats_many h
  generalize (xs.getD 0 noS).size = L at *
  have hlen : (stS (lsM xs) L).length + xs.length = (stK (lsM xs) L).length := by unfold stK; rw [List.length_append]; unfold lsM; rw [List.length_map]
  have hkl : ∀ j, j < (stK (lsM xs) L).length → ((stK (lsM xs) L).getD j []).length ≤ L := by
    intro j hj
    rw [List.getD_eq_getElem?_getD, List.getElem?_eq_getElem hj]
    have hm : (stK (lsM xs) L)[j] ∈ stS (lsM xs) L ++ lsM xs := List.getElem_mem hj
    rw [List.mem_append] at hm
    rcases hm with q | q
    · exact Nat.le_of_lt (stS_len P _ q)
    · exact Nat.le_of_eq (P.len _ q)
  have hgo : ∀ (c : UInt8) j, keptT xs (keyM xs L j ++ ⟨#[c]⟩) = keyM xs L (gK (lsM xs) L c j) ∧ gK (lsM xs) L c j < (stS (lsM xs) L).length + xs.length := by
    intro c j
    constructor
    · rw [ba_eq, keptT_link]
      unfold keyM gK
      rw [ix_at (kept_mem P _)]
      simp
    · rw [hlen]
      exact ix_lt (kept_mem P _)
  refine ⟨fun i j hi hj e => ?_, stS_pos _ _, ?_, fun k hk => ?_, fun j hj => ?_, fun j _ => hgo 104 j, fun j _ => hgo 116 j⟩
  · have h1 := ba_eq.1 e
    unfold keyM at h1
    exact nodup_inj (stK_nodup P) (by omega) (by omega) (by simpa using h1)
  · unfold keyM
    have hp0 := stS_pos (lsM xs) L
    have h0 := stS_head (lsM xs) L
    rw [show (stK (lsM xs) L).getD 0 [] = [] from by
      unfold stK
      rw [List.getD_eq_getElem?_getD, List.getElem?_append_left hp0, ← List.getD_eq_getElem?_getD, h0]]
  · rw [ba_eq]
    unfold keyM
    have h1 := lsM_getD xs k hk
    rw [← h1]
    unfold stK
    rw [List.getD_eq_getElem?_getD, List.getElem?_append_right (by omega), show (stS (lsM xs) L).length + k - (stS (lsM xs) L).length = k from by omega, ← List.getD_eq_getElem?_getD]
  · have := hkl j (by omega)
    have e : (keyM xs L j).size = ((stK (lsM xs) L).getD j []).length := by rw [← len_list]; unfold keyM; simp
    rw [e]
    omega
/-- The model's numbers behind t tosses. -/
def mcH (xs : List ByteArray) (L : Nat) (i : Nat) : Nat := mvM (lsM xs) L (2 * i + 1)
def mcT (xs : List ByteArray) (L : Nat) (i : Nat) : Nat := mvM (lsM xs) L (2 * i)
def cntR (xs : List ByteArray) (t : Nat) : Nat → Int := cntM (mcH xs (xs.getD 0 noS).size) (mcT xs (xs.getD 0 noS).size) (2 * 2 ^ (xs.getD 0 noS).size) 1 t
def opnR (xs : List ByteArray) (t : Nat) : Int := sumJ (cntR xs t) (2 * 2 ^ (xs.getD 0 noS).size)
def wonR (xs : List ByteArray) (t k : Nat) : Int := cntR xs t (2 * 2 ^ (xs.getD 0 noS).size + k)
theorem two30 (t : Nat) (ht : t ≤ 30) : ∀ s, s ≤ t → ((1 : Int) + 1) ^ s ≤ 4000000000000 := fun s hs => Int.le_trans (two_le s (by omega)) (by omega)
theorem tossMany_any (xs : List ByteArray) (v : Value) (t base : Nat) (w : World) (hR : SRow w base v xs) (hm : manyG xs = true) (ht : t ≤ 30) :
    Calls Tryd.prog 38 #[v, .int .i64 1, .int .i64 1, .int .i64 t] w fun e w' => ∃ v', e = .returned (.tuple #[.int .i64 (opnR xs t), v']) ∧ IRow w' w.heap.size v' (rowF (xs.length - 1) (wonR xs t)) ∧ Below w.heap.size w w' := by
  obtain ⟨x2, x4, _⟩ := many_in hm
  obtain ⟨P, h5⟩ := pats_many hm
  have hL := lumps_many P
  have hl : (lsM xs).length = xs.length := by unfold lsM; rw [List.length_map]
  rw [hl] at hL
  have h := tossG_any xs v _ (xs.length - 1) _ _ _ (pres_many hm) (by omega) (by omega) 1 1 t base w hR (by omega) (by omega) (by omega) (by omega) (by omega) (two30 t ht)
  refine h.mono ?_
  rintro e w' ⟨v', rfl, r, b⟩
  have e1 := hL.open_ t
  rw [e1]
  refine ⟨v', rfl, ?_, b⟩
  rw [rowF_congr (xs.length - 1) (g := wonR xs t) fun k hk => hL.won t k (by omega)] at r
  exact r
end Go.Proofs.YtjckmnbpfmcadacDoor
