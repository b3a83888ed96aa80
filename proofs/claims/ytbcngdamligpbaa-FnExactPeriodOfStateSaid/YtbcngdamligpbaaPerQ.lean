/- The period of a state: the two folds are one. Nothing of the code. -/
import Derived.Test.YtbcngdamligpbaaPerP
namespace Go.Proofs.Ytbcngdamligpbaa
set_option linter.unusedSimpArgs false
set_option linter.unusedVariables false

theorem psum_pos {f : Nat → Nat → Int} {h : Nat → Int} {j : Nat} (hf : ∀ i, 0 ≤ f i j) (hh : ∀ i, 0 ≤ h i) : ∀ n : Nat, 0 ≤ psum f h j n ∧ (0 < psum f h j n ↔ ∃ i, i < n ∧ 0 < h i ∧ 0 < f i j)
  | 0 => ⟨Int.le_refl 0, ⟨fun q => absurd q (by simp [psum]), fun ⟨i, q, _⟩ => absurd q (Nat.not_lt_zero i)⟩⟩
  | n + 1 => by
    obtain ⟨a, b⟩ := psum_pos hf hh n
    have p0 : 0 ≤ h n * f n j := Int.mul_nonneg (hh n) (hf n)
    have e : psum f h j (n + 1) = psum f h j n + h n * f n j := rfl
    rw [e]
    refine ⟨by omega, fun q => ?_, fun ⟨i, q1, q2, q3⟩ => ?_⟩
    · by_cases c : 0 < psum f h j n
      · obtain ⟨i, r1, r2⟩ := b.1 c
        exact ⟨i, by omega, r2⟩
      · have : 0 < h n * f n j := by omega
        refine ⟨n, by omega, ?_, ?_⟩
        · have h1 := hh n
          rcases Int.lt_or_eq_of_le h1 with r | r
          · exact r
          · rw [← r, Int.zero_mul] at this; omega
        · have h1 := hf n
          rcases Int.lt_or_eq_of_le h1 with r | r
          · exact r
          · rw [← r, Int.mul_zero] at this; omega
    · rcases Nat.lt_or_ge i n with r | r
      · have := b.2 ⟨i, r, q2, q3⟩
        omega
      · obtain rfl : i = n := by omega
        have := Int.mul_pos q2 q3
        omega
theorem way_pos {lim : Int} {m : List (List Int)} (hg : Good lim m) (i j : Nat) : 0 ≤ wayM true m i j ∧ (0 < wayM true m i j ↔ edgeB m i j = true) := by
  have hn := (hg.num i j).1
  unfold wayM sig edgeB
  simp only [if_true, decide_eq_true_iff]
  split <;> constructor <;> omega
theorem aft_pos {lim : Int} {m : List (List Int)} (hg : Good lim m) (s : Nat) : ∀ (L j : Nat), 0 ≤ aft (wayM true m) m.length s L j ∧ (0 < aft (wayM true m) m.length s L j ↔ Wlk (edgeB m) s j L)
  | 0, j => by
    unfold aft
    by_cases e : j = s
    · subst e
      rw [if_pos rfl]
      exact ⟨by omega, fun _ => Wlk.here, fun _ => by omega⟩
    · rw [if_neg e]
      refine ⟨by omega, fun q => by omega, fun q => ?_⟩
      exfalso
      generalize hl : ((0 : Nat) : Int) = l at q
      cases q with
      | here => exact e rfl
      | step h1 _ => have := h1.nonneg; omega
  | L + 1, j => by
    have ih := fun i => aft_pos hg s L i
    obtain ⟨a, b⟩ := psum_pos (f := wayM true m) (h := aft (wayM true m) m.length s L) (j := j) (fun i => (way_pos hg i j).1) (fun i => (ih i).1) m.length
    refine ⟨a, ?_⟩
    show 0 < psum (wayM true m) (aft (wayM true m) m.length s L) j m.length ↔ _
    rw [b]
    constructor
    · rintro ⟨i, hi, h1, h2⟩
      have := ((ih i).2.1 h1).step ((way_pos hg i j).2.1 h2)
      simpa using this
    · intro q
      generalize hl : ((L + 1 : Nat) : Int) = l at q
      cases q with
      | here => omega
      | @step i _ d h1 he =>
        have hd : d = (L : Int) := by omega
        subst hd
        exact ⟨i, (edge_in hg he).1, (ih i).2.2 h1, (way_pos hg i j).2.2 he⟩
/-- The common divisor of the lengths of the ways back of at most k steps. -/
def perA (m : List (List Int)) (s : Nat) : Nat → Nat
  | 0 => 0
  | k + 1 => if 0 < aft (wayM true m) m.length s (k + 1) s then Nat.gcd (perA m s k) (k + 1) else perA m s k
theorem dvd_perA {lim : Int} {m : List (List Int)} (hg : Good lim m) (s p : Nat) : ∀ k, p ∣ perA m s k ↔ dvA (edgeB m) s k p
  | 0 => ⟨fun _ L h1 h2 _ => by omega, fun _ => Nat.dvd_zero p⟩
  | k + 1 => by
    have ih := dvd_perA hg s p k
    have hw := (aft_pos hg s (k + 1) s).2
    unfold perA
    split
    · rename_i c
      rw [Nat.dvd_gcd_iff, ih]
      constructor
      · rintro ⟨a, b⟩ L h1 h2 h3
        rcases Nat.lt_or_ge k L with r | r
        · obtain rfl : L = k + 1 := by omega
          exact b
        · exact a L h1 r h3
      · intro a
        exact ⟨fun L h1 h2 h3 => a L h1 (by omega) h3, a (k + 1) (by omega) (Nat.le_refl _) (hw.1 c)⟩
    · rename_i c
      rw [ih]
      constructor
      · intro a L h1 h2 h3
        rcases Nat.lt_or_ge k L with r | r
        · obtain rfl : L = k + 1 := by omega
          exact absurd (hw.2 h3) c
        · exact a L h1 r h3
      · intro a L h1 h2 h3
        exact a L h1 (by omega) h3
/-- What one step tells. -/
def tellB (m : List (List Int)) (far : List Int) (i : Nat) (g : Nat) (k : Int) : Nat := if edgeB m i k.toNat then Nat.gcd g (far.getD i 0 + 1 - far.getD k.toNat 0).natAbs else g
def rowB2 (m : List (List Int)) (far : List Int) (xs : List Int) (g : Nat) (i : Int) : Nat := xs.foldl (tellB m far i.toNat) g
def perB (m : List (List Int)) (far : List Int) (xs : List Int) : Nat := xs.foldl (rowB2 m far xs) 0
theorem dvd_tell {m : List (List Int)} {far : List Int} {i p : Nat} : ∀ (l : List Int) (g : Nat), p ∣ l.foldl (tellB m far i) g ↔ p ∣ g ∧ ∀ k ∈ l, edgeB m i k.toNat = true → (p : Int) ∣ far.getD i 0 + 1 - far.getD k.toNat 0
  | [], g => by simp
  | k :: l, g => by
    rw [List.foldl_cons, dvd_tell l]
    have e : p ∣ tellB m far i g k ↔ p ∣ g ∧ (edgeB m i k.toNat = true → (p : Int) ∣ far.getD i 0 + 1 - far.getD k.toNat 0) := by
      unfold tellB
      split
      · rename_i c
        rw [Nat.dvd_gcd_iff, ← Int.ofNat_dvd_left]
        exact ⟨fun ⟨a, b⟩ => ⟨a, fun _ => b⟩, fun ⟨a, b⟩ => ⟨a, b c⟩⟩
      · rename_i c
        exact ⟨fun a => ⟨a, fun q => absurd q c⟩, fun a => a.1⟩
    rw [e]
    simp only [List.mem_cons, forall_eq_or_imp]
    exact ⟨fun ⟨⟨a, b⟩, c⟩ => ⟨a, b, c⟩, fun ⟨a, b, c⟩ => ⟨⟨a, b⟩, c⟩⟩
theorem dvd_row {m : List (List Int)} {far : List Int} {xs : List Int} {p : Nat} : ∀ (l : List Int) (g : Nat), p ∣ l.foldl (rowB2 m far xs) g ↔ p ∣ g ∧ ∀ i ∈ l, ∀ k ∈ xs, edgeB m i.toNat k.toNat = true → (p : Int) ∣ far.getD i.toNat 0 + 1 - far.getD k.toNat 0
  | [], g => by simp
  | i :: l, g => by
    rw [List.foldl_cons, dvd_row l]
    unfold rowB2
    rw [dvd_tell]
    simp only [List.mem_cons, forall_eq_or_imp]
    exact ⟨fun ⟨⟨a, b⟩, c⟩ => ⟨a, b, c⟩, fun ⟨a, b, c⟩ => ⟨⟨a, b⟩, c⟩⟩
theorem mem_selK {p : Nat → Bool} : ∀ {n : Nat} {x : Int}, x ∈ selK p n ↔ ∃ k : Nat, k < n ∧ p k = true ∧ x = (k : Int)
  | 0, x => by simp [selK]
  | n + 1, x => by
    cases h : p n with
    | true =>
      rw [selK_yes h, List.mem_append, mem_selK, List.mem_singleton]
      constructor
      · rintro (⟨k, a, b⟩ | e)
        · exact ⟨k, by omega, b⟩
        · exact ⟨n, by omega, h, e⟩
      · rintro ⟨k, a, b, c⟩
        rcases Nat.lt_or_ge k n with r | r
        · exact .inl ⟨k, r, b, c⟩
        · obtain rfl : k = n := by omega
          exact .inr c
    | false =>
      rw [selK_no h, mem_selK]
      constructor
      · rintro ⟨k, a, b⟩; exact ⟨k, by omega, b⟩
      · rintro ⟨k, a, b, c⟩
        rcases Nat.lt_or_ge k n with r | r
        · exact ⟨k, r, b, c⟩
        · obtain rfl : k = n := by omega
          rw [h] at b; cases b
/-- The two sides tell one period. -/
theorem per_one {lim : Int} {m : List (List Int)} (hg : Good lim m) {s : Nat} (hs : s < m.length) {far : List Int} (h1 : FarOf m s far) (h2 : FarW m s far) : perA m s (3 * m.length) = perB m far (selK (clsB m s) m.length) := by
  have hB : ∀ p, p ∣ perB m far (selK (clsB m s) m.length) ↔ dvB (edgeB m) (clsB m s) far p := by
    intro p
    unfold perB
    rw [dvd_row]
    constructor
    · rintro ⟨_, a⟩ i k ci ck he
      obtain ⟨hi, hk⟩ := edge_in hg he
      have := a (i : Int) (mem_selK.2 ⟨i, hi, ci, rfl⟩) (k : Int) (mem_selK.2 ⟨k, hk, ck, rfl⟩)
      simpa [he] using this
    · intro a
      refine ⟨Nat.dvd_zero p, fun i hi k hk he => ?_⟩
      obtain ⟨i', _, ci, rfl⟩ := mem_selK.1 hi
      obtain ⟨k', _, ck, rfl⟩ := mem_selK.1 hk
      simp only [Int.toNat_natCast] at he ⊢
      exact a i' k' ci ck he
  refine Nat.dvd_antisymm ((hB _).2 (dvA_dvB hg hs h1 h2 ((dvd_perA hg s _ _).1 (Nat.dvd_refl _)))) ((dvd_perA hg s _ _).2 (dvB_dvA hg h2 ((hB _).1 (Nat.dvd_refl _)) _))
end Go.Proofs.Ytbcngdamligpbaa
