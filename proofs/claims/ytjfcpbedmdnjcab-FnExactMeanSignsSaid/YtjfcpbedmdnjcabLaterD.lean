/- Chances of days later: the contracts of the program and of its model. -/
import Derived.Test.YtjfcpbedmdnjcabFollowD
namespace Go.Proofs.Ytjfcpbedmdnjcab
set_option linter.unusedSimpArgs false
open Go.ChangeShapes Go.WideShapes Go.ChangeAt Go.RowKit
set_option linter.unusedVariables false

theorem mul_bd {x y A B : Int} (hx : 0 ≤ x) (hxA : x ≤ A) (hy : 0 ≤ y) (hyB : y ≤ B) : 0 ≤ x * y ∧ x * y ≤ A * B :=
  ⟨Int.mul_nonneg hx hy, Int.mul_le_mul hxA hyB hy (by omega)⟩
theorem mul_ge1 {x y : Int} (hx : 1 ≤ x) (hy : 1 ≤ y) : 1 ≤ x * y := by
  have : x * 1 ≤ x * y := Int.mul_le_mul_of_nonneg_left hy (by omega)
  omega
/-- The chances of a dry and of a wet day n days behind a day, in parts of c to the power n. -/
def ltr (a b c d : Int) : Nat → Int × Int
  | 0 => if d = 119 then (0, 1) else (1, 0)
  | n + 1 => ((ltr a b c d n).1 * (c - a) + (ltr a b c d n).2 * b, (ltr a b c d n).1 * a + (ltr a b c d n).2 * (c - b))
def sel (g : Int) (p : Int × Int) : Int := if g = 119 then p.2 else p.1
theorem ltr_in {a b c : Int} (h : inR a b c) (d : Int) : ∀ n, 0 ≤ (ltr a b c d n).1 ∧ 0 ≤ (ltr a b c d n).2 ∧ (ltr a b c d n).1 + (ltr a b c d n).2 = c ^ n
  | 0 => by unfold ltr; split <;> simp
  | n + 1 => by
    obtain ⟨x, y, z⟩ := ltr_in h d n
    unfold inR at h
    have e1 := Int.mul_nonneg x (show 0 ≤ c - a by omega)
    have e2 := Int.mul_nonneg y (show 0 ≤ b by omega)
    have e3 := Int.mul_nonneg x (show 0 ≤ a by omega)
    have e4 := Int.mul_nonneg y (show 0 ≤ c - b by omega)
    have e5 : (ltr a b c d n).1 * (c - a) = (ltr a b c d n).1 * c - (ltr a b c d n).1 * a := Int.mul_sub _ _ _
    have e6 : (ltr a b c d n).2 * (c - b) = (ltr a b c d n).2 * c - (ltr a b c d n).2 * b := Int.mul_sub _ _ _
    have e7 : ((ltr a b c d n).1 + (ltr a b c d n).2) * c = (ltr a b c d n).1 * c + (ltr a b c d n).2 * c := Int.add_mul _ _ _
    have s1 : (ltr a b c d (n + 1)).1 = (ltr a b c d n).1 * (c - a) + (ltr a b c d n).2 * b := rfl
    have s2 : (ltr a b c d (n + 1)).2 = (ltr a b c d n).1 * a + (ltr a b c d n).2 * (c - b) := rfl
    rw [Int.pow_succ, ← z, s1, s2, e7]
    exact ⟨by omega, by omega, by omega⟩
theorem ltr_le {a b c : Int} (h : inR a b c) (d : Int) (n : Nat) (hn : n ≤ 9) : 0 ≤ (ltr a b c d n).1 ∧ 0 ≤ (ltr a b c d n).2 ∧ (ltr a b c d n).1 ≤ 1000000000 ∧ (ltr a b c d n).2 ≤ 1000000000 := by
  obtain ⟨x, y, z⟩ := ltr_in h d n
  unfold inR at h
  obtain ⟨p, q⟩ := pow_le9 c (by omega) (by omega) n hn
  omega

set_option maxHeartbeats 800000 in
theorem cnLater_any (a b c d : Int) (n : Nat) (w : World) (hd : dayV d) (hr : inR a b c) (hn : n ≤ 9) :
    Calls Try.prog 23 #[chn a b c, .int .u8 d, .int .i64 n] w fun e w' => e = .returned (.tuple #[.int .i64 (ltr a b c d n).1, .int .i64 (ltr a b c d n).2, .int .i64 (c ^ n)]) ∧ Below w.heap.size w w' := by
  have r := hr
  unfold inR at r
  obtain ⟨r1, r2, r3, r4, r5, r6⟩ := r
  have HR := Lib.hid hr
  clear hr
  have h0 : ltr a b c d 0 = if d = 119 then (0, 1) else (1, 0) := rfl
  have bx := Box3.new w (.int .i64 a) (.int .i64 b) (.int .i64 c) 28
  have Bx := Lib.hid bx
  obtain ⟨c0, c1, c2, hk⟩ := bx
  rcases hd with rfl | rfl
  · go_enter Try.func23, Try.ntmps23
    go_wp2
    go_loop [2, 9, 10, 11] (fun m x y z => ∃ k : Nat, k ≤ n ∧ m = .int .i64 (n - k : Nat) ∧ x = .int .i64 (ltr a b c 100 k).1 ∧ y = .int .i64 (ltr a b c 100 k).2 ∧ z = .int .i64 (c ^ k)) (fun m _ _ _ => (intOf m).toNat)
    case atStart => exact ⟨0, by omega, by simp, rfl, rfl, by simp⟩
    case round =>
      obtain ⟨k, hk1, rfl, rfl, rfl, rfl⟩ := hrel
      obtain ⟨x0, y0, x1, y1⟩ := ltr_le HR.out 100 k (by omega)
      obtain ⟨p0, p1⟩ := pow_le9 c (by omega) r6 k (by omega)
      by_cases hlt : k < n
      · obtain ⟨u0, v0, u1, v1⟩ := ltr_le HR.out 100 (k + 1) (by omega)
        obtain ⟨q0, q1⟩ := pow_le9 c (by omega) r6 (k + 1) (by omega)
        have e1 : (ltr a b c 100 (k + 1)).1 = (ltr a b c 100 k).1 * (c - a) + (ltr a b c 100 k).2 * b := rfl
        have e2 : (ltr a b c 100 (k + 1)).2 = (ltr a b c 100 k).1 * a + (ltr a b c 100 k).2 * (c - b) := rfl
        have e3 := Int.pow_succ c k
        have E1 := Lib.hid e1
        have E2 := Lib.hid e2
        have E3 := Lib.hid e3
        rw [e1] at u0 u1
        rw [e2] at v0 v1
        rw [e3] at q0 q1
        clear e1 e2 e3
        obtain ⟨g1, g2⟩ := mul_bd x0 x1 (show 0 ≤ c - a by omega) (show c - a ≤ 10 by omega)
        obtain ⟨g3, g4⟩ := mul_bd y0 y1 (show 0 ≤ b by omega) (show b ≤ 10 by omega)
        obtain ⟨g5, g6⟩ := mul_bd x0 x1 (show 0 ≤ a by omega) (show a ≤ 10 by omega)
        obtain ⟨g7, g8⟩ := mul_bd y0 y1 (show 0 ≤ c - b by omega) (show c - b ≤ 10 by omega)
        have hm : (0 : Int) < ((n - k : Nat) : Int) := by omega
        generalize hX : (ltr a b c 100 k).1 = X at *
        generalize hY : (ltr a b c 100 k).2 = Y at *
        generalize hZ : c ^ k = Z at *
        clear hX hY hZ
        go_wp2
        exact ⟨⟨k + 1, by omega, by congr 1; omega, by rw [E1.out], by rw [E2.out], by rw [E3.out]⟩, by simp [intOf]; omega⟩
      · have hkn : k = n := by omega
        have Hkn := Lib.hid hkn
        have hm : ((n - k : Nat) : Int) = 0 := by omega
        clear hkn
        go_wp2
        go_ret3
        exact ⟨by rw [← Hkn.out]; rfl, bel_alloc (Below.refl _ _) _⟩
  · go_enter Try.func23, Try.ntmps23
    go_wp2
    go_loop [2, 9, 10, 11] (fun m x y z => ∃ k : Nat, k ≤ n ∧ m = .int .i64 (n - k : Nat) ∧ x = .int .i64 (ltr a b c 119 k).1 ∧ y = .int .i64 (ltr a b c 119 k).2 ∧ z = .int .i64 (c ^ k)) (fun m _ _ _ => (intOf m).toNat)
    case atStart => exact ⟨0, by omega, by simp, rfl, rfl, by simp⟩
    case round =>
      obtain ⟨k, hk1, rfl, rfl, rfl, rfl⟩ := hrel
      obtain ⟨x0, y0, x1, y1⟩ := ltr_le HR.out 119 k (by omega)
      obtain ⟨p0, p1⟩ := pow_le9 c (by omega) r6 k (by omega)
      by_cases hlt : k < n
      · obtain ⟨u0, v0, u1, v1⟩ := ltr_le HR.out 119 (k + 1) (by omega)
        obtain ⟨q0, q1⟩ := pow_le9 c (by omega) r6 (k + 1) (by omega)
        have e1 : (ltr a b c 119 (k + 1)).1 = (ltr a b c 119 k).1 * (c - a) + (ltr a b c 119 k).2 * b := rfl
        have e2 : (ltr a b c 119 (k + 1)).2 = (ltr a b c 119 k).1 * a + (ltr a b c 119 k).2 * (c - b) := rfl
        have e3 := Int.pow_succ c k
        have E1 := Lib.hid e1
        have E2 := Lib.hid e2
        have E3 := Lib.hid e3
        rw [e1] at u0 u1
        rw [e2] at v0 v1
        rw [e3] at q0 q1
        clear e1 e2 e3
        obtain ⟨g1, g2⟩ := mul_bd x0 x1 (show 0 ≤ c - a by omega) (show c - a ≤ 10 by omega)
        obtain ⟨g3, g4⟩ := mul_bd y0 y1 (show 0 ≤ b by omega) (show b ≤ 10 by omega)
        obtain ⟨g5, g6⟩ := mul_bd x0 x1 (show 0 ≤ a by omega) (show a ≤ 10 by omega)
        obtain ⟨g7, g8⟩ := mul_bd y0 y1 (show 0 ≤ c - b by omega) (show c - b ≤ 10 by omega)
        have hm : (0 : Int) < ((n - k : Nat) : Int) := by omega
        generalize hX : (ltr a b c 119 k).1 = X at *
        generalize hY : (ltr a b c 119 k).2 = Y at *
        generalize hZ : c ^ k = Z at *
        clear hX hY hZ
        go_wp2
        exact ⟨⟨k + 1, by omega, by congr 1; omega, by rw [E1.out], by rw [E2.out], by rw [E3.out]⟩, by simp [intOf]; omega⟩
      · have hkn : k = n := by omega
        have Hkn := Lib.hid hkn
        have hm : ((n - k : Nat) : Int) = 0 := by omega
        clear hkn
        go_wp2
        go_ret3
        exact ⟨by rw [← Hkn.out]; rfl, bel_alloc (Below.refl _ _) _⟩

end Go.Proofs.Ytjfcpbedmdnjcab
