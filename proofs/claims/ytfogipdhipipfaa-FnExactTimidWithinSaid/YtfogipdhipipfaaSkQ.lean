/- Chances within some plays: numbers only; the program's values are the model's. -/
import Derived.Test.YtfogipdhipipfaaSkV
namespace Go.Proofs.Ytfogipdhipipfaa
set_option linter.unusedSimpArgs false
open Go.ChangeShapes Go.WideShapes Go.ChangeAt Go.RowKit
set_option linter.unusedVariables false

def bdN (q G : Nat) : Nat := min q (G - q)
def loN (kind q G : Nat) : Nat := if kind = 1 then bdN q G else min 1 (bdN q G)
def hiN (kind q G : Nat) : Nat := if kind = 0 then min 1 (bdN q G) else bdN q G
/-- The greatest part of the stakes from l on, of so many. -/
def pmS (H T : Int) (F : Nat → Int) (q l : Nat) : Nat → Int
  | 0 => 0
  | s + 1 => max (pmS H T F q l s) (ptI H T F q (l + s))
def stP (H T : Int) (kind : Nat) (F : Nat → Int) (G q : Nat) : Int := pmS H T F q (loN kind q G) (hiN kind q G - loN kind q G + 1)
def wiG (H T : Int) (kind : Nat) (F : Nat → Int) (G k j : Nat) : Int := if j < k then stP H T kind F G j else 0
def wP (H T : Int) (kind G : Nat) : Nat → Nat → Int
  | 0, q => if q = G then 1 else 0
  | n + 1, q => wiG H T kind (wP H T kind G n) G (G + 1) q
/-- In the midst of the purse k, of its stakes the first s. -/
def wiH (H T : Int) (kind : Nat) (F : Nat → Int) (G k s j : Nat) : Int := if j = k then pmS H T F k (loN kind k G) s else wiG H T kind F G k j
/-- The model, of a purse with the greatest stake b. -/
def mdS (H T O : Int) (kind : Nat) (F : Nat → Int) (q b : Nat) : Nat → Int
  | 0 => F q * O
  | s + 1 => if ((kind = 0 ∧ s + 1 = 1) ∨ (kind = 1 ∧ s + 1 = b)) ∨ (kind = 2 ∧ mdS H T O kind F q b s < ptI H T F q (s + 1)) then ptI H T F q (s + 1) else mdS H T O kind F q b s
theorem wiG_zero (H T : Int) (kind : Nat) (F : Nat → Int) (G : Nat) : wiG H T kind F G 0 = noI := by
  funext j
  unfold wiG
  rw [if_neg (by omega)]
theorem wiH_zero (H T : Int) (kind : Nat) (F : Nat → Int) (G k : Nat) : wiH H T kind F G k 0 = wiG H T kind F G k := by
  funext j
  unfold wiH
  split
  · next e => subst e; unfold wiG; rw [if_neg (by omega)]; rfl
  · rfl
theorem wiH_at (H T : Int) (kind : Nat) (F : Nat → Int) (G k s : Nat) : wiH H T kind F G k s k = pmS H T F k (loN kind k G) s := by unfold wiH; rw [if_pos rfl]
theorem wiH_old (H T : Int) (kind : Nat) (F : Nat → Int) (G k s s' j : Nat) (h : j ≠ k) : wiH H T kind F G k s j = wiH H T kind F G k s' j := by unfold wiH; rw [if_neg h, if_neg h]
theorem wiH_all (H T : Int) (kind : Nat) (F : Nat → Int) (G k : Nat) : wiH H T kind F G k (hiN kind k G - loN kind k G + 1) = wiG H T kind F G (k + 1) := by
  funext j
  unfold wiH
  by_cases e : j = k
  · subst e
    rw [if_pos rfl]
    unfold wiG
    rw [if_pos (by omega)]
    rfl
  · rw [if_neg e]
    unfold wiG
    by_cases a : j < k
    · rw [if_pos a, if_pos (by omega)]
    · rw [if_neg a, if_neg (by omega)]
theorem ptI_in {H T B : Int} {F : Nat → Int} (h0 : 0 ≤ H) (t0 : 0 ≤ T) (hF : ∀ i, 0 ≤ F i ∧ F i ≤ B) (q s : Nat) : 0 ≤ ptI H T F q s ∧ ptI H T F q s ≤ (H + T) * B := by
  have a := Int.mul_nonneg h0 (hF (q + s)).1
  have b := Int.mul_nonneg t0 (hF (q - s)).1
  have c := Int.mul_le_mul_of_nonneg_left (hF (q + s)).2 h0
  have d := Int.mul_le_mul_of_nonneg_left (hF (q - s)).2 t0
  unfold ptI
  rw [Int.add_mul]
  omega
theorem pmS_in {H T B : Int} {F : Nat → Int} (h0 : 0 ≤ H) (t0 : 0 ≤ T) (hF : ∀ i, 0 ≤ F i ∧ F i ≤ B) (q l : Nat) : ∀ s, 0 ≤ pmS H T F q l s ∧ pmS H T F q l s ≤ (H + T) * B
  | 0 => by
    have := ptI_in h0 t0 hF 0 0
    unfold pmS
    omega
  | s + 1 => by
    have a := pmS_in h0 t0 hF q l s
    have b := ptI_in h0 t0 hF q (l + s)
    unfold pmS
    omega
theorem wiG_in {H T B : Int} {F : Nat → Int} (kind : Nat) (h0 : 0 ≤ H) (t0 : 0 ≤ T) (hF : ∀ i, 0 ≤ F i ∧ F i ≤ B) (G k j : Nat) : 0 ≤ wiG H T kind F G k j ∧ wiG H T kind F G k j ≤ (H + T) * B := by
  have a := pmS_in h0 t0 hF j (loN kind j G) (hiN kind j G - loN kind j G + 1)
  unfold wiG stP
  split <;> omega
theorem wP_in {H T : Int} (kind : Nat) (h0 : 0 ≤ H) (t0 : 0 ≤ T) (G : Nat) : ∀ n q, 0 ≤ wP H T kind G n q ∧ wP H T kind G n q ≤ (H + T) ^ n
  | 0, q => by unfold wP; split <;> simp
  | n + 1, q => by
    have := wiG_in kind h0 t0 (wP_in kind h0 t0 G n) G (G + 1) q
    unfold wP
    rw [Int.pow_succ, Int.mul_comm ((H + T) ^ n)]
    exact this
theorem pmS_le {H T O : Int} {F F' : Nat → Int} (h0 : 0 ≤ H) (t0 : 0 ≤ T) (o0 : 0 ≤ O) (h : ∀ i, F i * O ≤ F' i) (q l : Nat) : ∀ s, pmS H T F q l s * O ≤ pmS H T F' q l s
  | 0 => by simp [pmS]
  | s + 1 => by
    have a := pmS_le h0 t0 o0 h q l s
    have b : ptI H T F q (l + s) * O ≤ ptI H T F' q (l + s) := by
      unfold ptI
      have c := Int.mul_le_mul_of_nonneg_left (h (q + (l + s))) h0
      have d := Int.mul_le_mul_of_nonneg_left (h (q - (l + s))) t0
      rw [Int.add_mul, Int.mul_assoc, Int.mul_assoc]
      omega
    unfold pmS
    rcases Int.le_total (pmS H T F q l s) (ptI H T F q (l + s)) with e | e
    · rw [Int.max_eq_right e]; omega
    · rw [Int.max_eq_left e]; omega
theorem pmS_one {H T : Int} {F : Nat → Int} (q l : Nat) (h : 0 ≤ ptI H T F q l) : pmS H T F q l 1 = ptI H T F q l := by
  show max 0 (ptI H T F q (l + 0)) = _
  rw [Nat.add_zero, Int.max_eq_right h]
theorem ptI_none (H T : Int) (F : Nat → Int) (q : Nat) : ptI H T F q 0 = F q * (H + T) := by
  unfold ptI
  rw [Nat.add_zero, Nat.sub_zero, ← Int.add_mul, Int.mul_comm]
theorem bdN_end (G : Nat) : bdN G G = 0 := by unfold bdN; omega
theorem stP_none {H T : Int} {F : Nat → Int} (kind G q : Nat) (h0 : 0 ≤ H) (t0 : 0 ≤ T) (hF : 0 ≤ F q) (hb : bdN q G = 0) : stP H T kind F G q = F q * (H + T) := by
  have e1 : loN kind q G = 0 := by unfold loN; rw [hb]; split <;> rfl
  have e2 : hiN kind q G = 0 := by unfold hiN; rw [hb]; split <;> rfl
  have e3 := ptI_none H T F q
  have e4 : 0 ≤ F q * (H + T) := Int.mul_nonneg hF (by omega)
  unfold stP
  rw [e1, e2, pmS_one q 0 (by rw [e3]; exact e4), e3]
/-- More plays are no worse. -/
theorem wP_more {H T : Int} (kind G : Nat) (h0 : 0 ≤ H) (t0 : 0 ≤ T) : ∀ n q, wP H T kind G n q * (H + T) ≤ wP H T kind G (n + 1) q
  | 0, q => by
    have hz := wP_in kind h0 t0 G 0
    show wP H T kind G 0 q * (H + T) ≤ wiG H T kind (wP H T kind G 0) G (G + 1) q
    by_cases e : q = G
    · subst e
      unfold wiG
      rw [if_pos (by omega), stP_none kind q q h0 t0 (hz q).1 (bdN_end q)]
      exact Int.le_refl _
    · rw [show wP H T kind G 0 q = 0 from by unfold wP; rw [if_neg e], Int.zero_mul]
      exact (wiG_in kind h0 t0 hz G (G + 1) q).1
  | n + 1, q => by
    have ih := wP_more kind G h0 t0 n
    show wiG H T kind (wP H T kind G n) G (G + 1) q * (H + T) ≤ wiG H T kind (wP H T kind G (n + 1)) G (G + 1) q
    unfold wiG
    split
    · exact pmS_le h0 t0 (by omega) ih q _ _
    · simp
theorem mdS_most {H T O : Int} {F : Nat → Int} (q b : Nat) : ∀ s, mdS H T O 2 F q b s = max (F q * O) (pmS H T F q 1 s) ∨ F q * O < 0
  | 0 => by
    rcases Int.lt_or_le (F q * O) 0 with a | a
    · exact .inr a
    · left
      show F q * O = max (F q * O) 0
      rw [Int.max_eq_left a]
  | s + 1 => by
    rcases mdS_most (H := H) (T := T) (O := O) (F := F) q b s with ih | ih
    · left
      unfold mdS pmS
      rw [ih, show 1 + s = s + 1 from by omega]
      split <;> omega
    · exact .inr ih
theorem mdS_low {H T O : Int} {F : Nat → Int} (q b : Nat) : ∀ s, mdS H T O 0 F q b (s + 1) = ptI H T F q 1
  | 0 => by unfold mdS; rw [if_pos (.inl (.inl ⟨rfl, rfl⟩))]
  | s + 1 => by
    have ih := mdS_low (H := H) (T := T) (O := O) (F := F) q b s
    rw [mdS, if_neg (by omega), ih]
theorem mdS_bold {H T O : Int} {F : Nat → Int} (q b : Nat) (hb : 1 ≤ b) : mdS H T O 1 F q b b = ptI H T F q b := by
  obtain ⟨c, rfl⟩ : ∃ c, b = c + 1 := ⟨b - 1, by omega⟩
  rw [mdS, if_pos (.inl (.inr ⟨rfl, rfl⟩))]
/-- The model's step is the program's. -/
theorem md_step {H T : Int} (kind G n q : Nat) (hk : kind ≤ 2) (h0 : 0 ≤ H) (t0 : 0 ≤ T) (hq : q ≤ G) :
    mdS H T (H + T) kind (wP H T kind G n) q (bdN q G) (bdN q G) = wP H T kind G (n + 1) q := by
  have hz := wP_in kind h0 t0 G n
  have hm := wP_more kind G h0 t0 n q
  have e1 : wP H T kind G (n + 1) q = stP H T kind (wP H T kind G n) G q := by
    show wiG H T kind (wP H T kind G n) G (G + 1) q = _
    unfold wiG
    rw [if_pos (by omega)]
  rw [e1] at hm ⊢
  generalize wP H T kind G n = F at *
  have hn := fun s => (ptI_in (B := (H + T) ^ n) h0 t0 hz q s).1
  by_cases hb : bdN q G = 0
  · rw [stP_none kind G q h0 t0 (hz q).1 hb, hb]
    rfl
  · unfold stP at hm ⊢
    match kind, hk with
    | 0, _ =>
      have a1 : loN 0 q G = 1 := by unfold loN; rw [if_neg (by omega)]; omega
      have a2 : hiN 0 q G = 1 := by unfold hiN; rw [if_pos rfl]; omega
      rw [a1, a2, pmS_one q 1 (hn 1)]
      obtain ⟨c, hc⟩ : ∃ c, bdN q G = c + 1 := ⟨bdN q G - 1, by omega⟩
      rw [hc]
      exact mdS_low q _ c
    | 1, _ =>
      have a1 : loN 1 q G = bdN q G := by unfold loN; rw [if_pos rfl]
      have a2 : hiN 1 q G = bdN q G := by unfold hiN; rw [if_neg (by omega)]
      rw [a1, a2, Nat.sub_self, pmS_one q _ (hn _)]
      exact mdS_bold q _ (by omega)
    | 2, _ =>
      have a1 : loN 2 q G = 1 := by unfold loN; rw [if_neg (by omega)]; omega
      have a2 : hiN 2 q G = bdN q G := by unfold hiN; rw [if_neg (by omega)]
      rw [a1, a2, show bdN q G - 1 + 1 = bdN q G from by omega] at hm ⊢
      rcases mdS_most (H := H) (T := T) (O := H + T) (F := F) q (bdN q G) (bdN q G) with e | e
      · rw [e, Int.max_eq_right hm]
      · have := Int.mul_nonneg (hz q).1 (show 0 ≤ H + T by omega)
        omega
end Go.Proofs.Ytfogipdhipipfaa
