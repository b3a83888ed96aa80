/- The chances of all days: the contract of the program. -/
import Derived.Test.YtjfcpbedmdnjcabDoorHdC
import Derived.Test.YtjfcpbedmdnjcabDoorHdM
import Derived.Test.YtjfcpbedmdnjcabDoorHdR
namespace Go.Proofs.YtjfcpbedmdnjcabDoor
set_option linter.unusedSimpArgs false
open Go.ChangeShapes Go.WideShapes Go.ChangeAt Go.RowKit
set_option linter.unusedVariables false

def allV (a b c p q r : Int) (s : ByteArray) : List Int := (List.range (2 ^ s.size)).map (vS a b c p q r s)
/-- The first k of them, then zeros. -/
def preV (f : Nat → Int) (n k : Nat) : List Int := (List.range n).map (fun j => if j < k then f j else 0)
theorem preV_zero (f : Nat → Int) (n : Nat) : preV f n 0 = List.replicate n 0 := by
  unfold preV
  apply List.ext_getElem
  · simp
  · intro j h1 h2; simp
theorem preV_len (f : Nat → Int) (n k : Nat) : (preV f n k).length = n := by simp [preV]
theorem preV_set (f : Nat → Int) (n k : Nat) : (preV f n k).set k (f k) = preV f n (k + 1) := by
  unfold preV
  apply List.ext_getElem
  · simp
  · intro j h1 h2
    simp only [List.getElem_set, List.getElem_map, List.getElem_range]
    by_cases e : k = j
    · subst e; simp
    · rw [if_neg e]
      by_cases g : j < k
      · rw [if_pos g, if_pos (by omega)]
      · rw [if_neg g, if_neg (by omega)]
theorem preV_full (f : Nat → Int) (n : Nat) : preV f n n = (List.range n).map f := by
  unfold preV
  apply List.ext_getElem
  · simp
  · intro j h1 h2
    simp at h1 ⊢
    omega

theorem h6_set {w W : World} {a b c p q r : Int} (h : Hk6 w W w.heap.size a b c p q r) (j : Nat) (v : Value) : Hk6 w (W.setCell ⟨w.heap.size + 1, j, none⟩ v) w.heap.size a b c p q r := by
  obtain ⟨h0, h1, h2, h3, h4, h5, h6, h7⟩ := h
  refine ⟨?_, ?_, ?_, ?_, ?_, ?_, ?_, h7.setCell (p := ⟨w.heap.size + 1, j, none⟩) (by show w.heap.size ≤ w.heap.size + 1; omega) v⟩
  all_goals simp [go_sem, h0, h1, h2, h3, h4, h5, h6]
set_option maxRecDepth 100000 in
set_option maxHeartbeats 6400000 in
theorem allBoth_any (a b c p q r : Int) (s : ByteArray) (w : World) (hr : inR a b c) (hp : inR p q r) (hs : allG s = true) (h1 : 1 ≤ s.size) (h7 : s.size ≤ 7) :
    Calls Tryd.prog 45 #[hdn a b c p q r, .string s] w (RowOne (allV a b c p q r s) w) := by
  have hp8 := pow8 s.size (by omega)
  have hbth : Hid (∀ j : Nat, j < 2 ^ s.size → ∀ W : World, Calls Tryd.prog 67 #[hdn a b c p q r, .string (rkT 100 119 s.size j), .string s] W fun e w' => e = .returned (.int .i64 (vS a b c p q r s j)) ∧ Below W.heap.size W w') := Lib.hid (fun j hj W => by
    have hz := rkT_size 100 119 s.size j
    exact both_any a b c p q r _ s W hr hp (rkT_days _ _ hj) hs (by omega) (by omega) (by omega))
  have htx : Hid (∀ j : Nat, j < 2 ^ s.size → ∀ W : World, Calls Tryd.prog 68 #[.int .i64 j, .int .i64 s.size, .string ⟨#[100, 119]⟩] W fun e w' => e = .returned (.string (rkT 100 119 s.size j)) ∧ Below W.heap.size W w') := Lib.hid (fun j hj W => textOfRank_any 100 119 s.size j W (by omega) hj)
  have bx0 := Box6.new w a b c p q r 30
  obtain ⟨N, hN⟩ : ∃ N, N = 2 ^ s.size := ⟨_, rfl⟩
  have hwr : (2 : Int) ^ s.size = (N : Int) := by rw [hN]; simp
  rw [← hN] at hp8 hbth htx
  have hmk := mk_ints N (by omega)
  have hm0 := made_ints (w.alloc (.cells #[.int .i64 a, .int .i64 b, .int .i64 c, .int .i64 p, .int .i64 q, .int .i64 r] 30)) N (by omega)
  have bx1 := Lib.hid (bx0.keep (bel_alloc (Below.refl _ _) (.cells (Array.replicate N (.int .i64 0)) 3)))
  have HM := Lib.hid hm0
  clear hr hp hs hm0 bx0
  have hfin : Hid (preV (vS a b c p q r s) N N = allV a b c p q r s) := Lib.hid (by rw [preV_full, hN]; rfl)
  clear hN
  go_enter Tryd.func45, Tryd.ntmps45
  go_wp2_with fail
  go_loopw [6, 13] (fun _ i wr => ∃ k : Nat, k ≤ N ∧ i = .int .i64 k ∧ Hid (Box6 wr w.heap.size a b c p q r) ∧ Hid (IRow wr (w.heap.size + 1) (.slice (some ⟨w.heap.size + 1, 0, none⟩) N N) (preV (vS a b c p q r s) N k)) ∧ Below w.heap.size w wr) (fun _ i _ => N - (intOf i).toNat)
  case atStart => exact ⟨0, by omega, rfl, bx1, Lib.hid (by rw [preV_zero]; simpa using HM.out), bel_alloc (bel_alloc (Below.refl _ _) _) _⟩
  case round =>
    obtain ⟨k, hk, rfl, hbx, hrow, hbl⟩ := hrel
    obtain ⟨wa, rfl⟩ : ∃ wa : World, wa = wr := ⟨_, rfl⟩
    by_cases hlt : k < N
    · have hA := hbth.out k hlt
      have hB := htx.out k hlt
      have hki : (k : Int) < (N : Int) := by omega
      have hz := rkT_size 100 119 s.size k
      have keyR : ∀ W1 W2 : World, Below wa.drew.heap.size wa.drew W1 → Below W1.heap.size W1 W2 → W2.cell? ⟨w.heap.size + 1, k, none⟩ = some (.int .i64 ((preV (vS a b c p q r s) N k).getD k 0)) ∧ W2.frozen? ⟨w.heap.size + 1, k, none⟩ = false ∧ Hid (IRow (W2.setCell ⟨w.heap.size + 1, k, none⟩ (.int .i64 (vS a b c p q r s k))) (w.heap.size + 1) (.slice (some ⟨w.heap.size + 1, 0, none⟩) N N) (preV (vS a b c p q r s) N (k + 1))) := by
        intro W1 W2 h1 h2
        have hr0 := (IRow.below (w := wa.drew) hrow.out h1).below h2
        have hl := preV_len (vS a b c p q r s) N k
        have hr : IRow W2 (w.heap.size + 1) (.slice (some ⟨w.heap.size + 1, 0, none⟩) (preV (vS a b c p q r s) N k).length N) (preV (vS a b c p q r s) N k) := by rw [hl]; exact hr0
        refine ⟨hr.at_ k (by rw [hl]; exact hlt), World.ownsRow.frozenAt hr k, Lib.hid ?_⟩
        have := (hr.store k (vS a b c p q r s k)).1
        rw [preV_set, hl] at this
        exact this
      generalize rkT 100 119 s.size k = T at *
      generalize (preV (vS a b c p q r s) N k).getD k 0 = x0 at *
      obtain ⟨V, hV⟩ : ∃ V, V = vS a b c p q r s k := ⟨_, rfl⟩
      rw [← hV] at hA keyR
      clear hV
      have KR := Lib.hid keyR
      clear keyR
      go_wp2_with fail
      go_region_held3 (fun w' => w'.cell? ⟨w.heap.size, 0, none⟩ = some (.int .i64 a) ∧ w'.cell? ⟨w.heap.size, 1, none⟩ = some (.int .i64 b) ∧ w'.cell? ⟨w.heap.size, 2, none⟩ = some (.int .i64 c) ∧ w'.cell? ⟨w.heap.size, 3, none⟩ = some (.int .i64 p) ∧ w'.cell? ⟨w.heap.size, 4, none⟩ = some (.int .i64 q) ∧ w'.cell? ⟨w.heap.size, 5, none⟩ = some (.int .i64 r) ∧ w.heap.size < w'.heap.size ∧ Below w.heap.size w w')
        (first | exact h6_start hbx.out hbl | exact h6_keep (by assumption) hb2 | exact h6_keep (by assumption) hb3 | exact h6_drewN (by assumption) _ | exact h6_set (by assumption) _ _ | assumption | go_keep)
        (first | (go_at_call 68; refine (hB _).mono ?_; rintro e w2 ⟨rfl, hb2⟩) | (go_at_call 67; refine (hA _).mono ?_; rintro e w3 ⟨rfl, hb3⟩; obtain ⟨q0, q1, q2⟩ := KR.out _ _ hb2 hb3))
      all_goals
        obtain ⟨hbx1, hbl1⟩ := h6_below (by assumption)
        have Hbx1 := Lib.hid hbx1
        clear hbx1 q0 q1 hb2 hb3
        go_wp2
        exact ⟨⟨k + 1, by omega, by go_num, Hbx1, q2, hbl1⟩, by simp [intOf]; omega⟩
    · have hkN : k = N := by omega
      have HK := Lib.hid hkN
      clear hkN
      go_wp2_with fail
      go_ret
      have hr := hrow.out
      rw [HK.out, hfin.out] at hr
      exact ⟨_, rfl, hr.mono (by omega), hbl⟩
end Go.Proofs.YtjfcpbedmdnjcabDoor
