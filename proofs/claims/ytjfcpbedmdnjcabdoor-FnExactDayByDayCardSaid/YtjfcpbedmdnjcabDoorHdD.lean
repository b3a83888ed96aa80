/- The chances of a dry and of a wet day in a list of all days: the contract of the program. -/
import Derived.Test.YtjfcpbedmdnjcabDoorHdQ
namespace Go.Proofs.YtjfcpbedmdnjcabDoor
set_option linter.unusedSimpArgs false
open Go.ChangeShapes Go.WideShapes Go.ChangeAt Go.RowKit
set_option linter.unusedVariables false

theorem cell_grown {w w' : World} {B g o : Nat} (h : w.grownBy w' (some B)) (hg : g < w.heap.size) (hne : g ≠ B) : w'.cell? ⟨g, o, none⟩ = w.cell? ⟨g, o, none⟩ := by
  have e := h.block g hg (by simpa using hne)
  unfold World.cell?
  simp only [e]
theorem sumF_in (f : Nat → Int) (k : Nat) (B : Int) : ∀ n, (∀ i, i < n → 0 ≤ f (k + i) ∧ f (k + i) ≤ B) → 0 ≤ sumF f k n ∧ sumF f k n ≤ n * B
  | 0, _ => by simp [sumF]
  | n + 1, h => by
    obtain ⟨x, y⟩ := sumF_in f k B n (fun i hi => h i (by omega))
    obtain ⟨u, v⟩ := h n (by omega)
    unfold sumF
    have : ((n + 1 : Nat) : Int) * B = n * B + B := by rw [Int.natCast_add, Int.add_mul]; simp
    rw [this]
    omega
theorem sumF_succ (f : Nat → Int) (k n : Nat) : sumF f k (n + 1) = sumF f k n + f (k + n) := rfl
theorem BoxW.one0 {w : World} {k : Nat} {x y : Value} (h : BoxW w k x y) (u : Value) : BoxW (w.setCell ⟨k, 0, none⟩ u) k u y ∧ w.grownBy (w.setCell ⟨k, 0, none⟩ u) (some k) := by
  obtain ⟨⟨h0, h1, h2⟩, h3, h4⟩ := h
  refine ⟨⟨⟨?_, ?_, ?_⟩, ?_, ?_⟩, grown_one w k 0 u⟩
  all_goals simp [go_sem, h0, h1, h2, h3, h4]
theorem BoxW.one1 {w : World} {k : Nat} {x y : Value} (h : BoxW w k x y) (u : Value) : BoxW (w.setCell ⟨k, 1, none⟩ u) k x u ∧ w.grownBy (w.setCell ⟨k, 1, none⟩ u) (some k) := by
  obtain ⟨⟨h0, h1, h2⟩, h3, h4⟩ := h
  refine ⟨⟨⟨?_, ?_, ?_⟩, ?_, ?_⟩, grown_one w k 1 u⟩
  all_goals simp [go_sem, h0, h1, h2, h3, h4]

set_option maxRecDepth 100000 in
set_option maxHeartbeats 3200000 in
theorem add0_any (g off L cap B : Nat) (x y : Int) (f : Nat → Int) (w : World) (hB : BoxW w B (.int .i64 x) (.int .i64 y)) (hne : g ≠ B) (hg : g < w.heap.size) (hc : ∀ i, i < L → w.cell? ⟨g, off + i, none⟩ = some (.int .i64 (f (off + i)))) (hf : ∀ i, i < L → 0 ≤ f (off + i) ∧ f (off + i) ≤ 100000000000000) (hL : L ≤ 128) (hx : 0 ≤ x) (hx2 : x ≤ 100000000000000000) :
    Calls Tryd.prog 47 #[.int .i64 0, .slice (some ⟨g, off, none⟩) L cap, .pointer (some ⟨B, 0, none⟩)] w fun e w' => e = .returned (.tuple #[]) ∧ BoxW w' B (.int .i64 (x + sumF f off L)) (.int .i64 y) ∧ w.grownBy w' (some B) := by
  have HB := Lib.hid hB
  have HC := Lib.hid hc
  have HF := Lib.hid hf
  clear hB hc hf
  go_enter Tryd.func47, Tryd.ntmps47
  go_wp2_with fail
  go_loopw [6, 9] (fun _ i wr => ∃ k : Nat, k ≤ L ∧ i = .int .i64 k ∧ Hid (BoxW wr B (.int .i64 (x + sumF f off k)) (.int .i64 y)) ∧ w.grownBy wr (some B)) (fun _ i _ => L - (intOf i).toNat)
  case atStart => exact ⟨0, by omega, rfl, by simpa [sumF] using HB, World.grownBy.refl _ _⟩
  case round =>
    obtain ⟨k, hk, rfl, hbx, hgr⟩ := hrel
    obtain ⟨wa, rfl⟩ : ∃ wa : World, wa = wr := ⟨_, rfl⟩
    by_cases hlt : k < L
    · have c0 := HC.out k hlt
      rw [← cell_grown hgr hg hne] at c0
      obtain ⟨f0, f1⟩ := HF.out k hlt
      obtain ⟨s0, s1⟩ := sumF_in f off 100000000000000 k (fun i hi => HF.out i (by omega))
      have hs2 := Lib.hid (sumF_succ f off k)
      have hst := hbx.out.one0 (.int .i64 (x + sumF f off k + f (off + k)))
      have Hst := Lib.hid hst.1
      have Hgs := Lib.hid hst.2
      obtain ⟨⟨d0, d1, d2⟩, d3, d4⟩ := hbx.out
      clear hst
      obtain ⟨u, hu⟩ : ∃ u, u = f (off + k) := ⟨_, rfl⟩
      rw [← hu] at c0 f0 f1 hs2 Hst Hgs
      clear hu
      have hki : (k : Int) < (L : Int) := by omega
      have hwx : IntKind.i64.wrap (x + sumF f off k + u) = x + sumF f off k + u := IntWalk.i64_in _ (by omega)
      go_wp2_with fail
      exact ⟨⟨k + 1, by omega, by go_num, by rw [hs2.out, ← Int.add_assoc]; exact Hst, hgr.trans Hgs.out⟩, by simp [intOf]; omega⟩
    · have hkL : k = L := by omega
      have HK := Lib.hid hkL
      clear hkL
      go_wp2_with fail
      go_end0
      exact ⟨rfl, by rw [← HK.out]; exact hbx.out, hgr⟩
set_option maxRecDepth 100000 in
set_option maxHeartbeats 3200000 in
theorem add1_any (g off L cap B : Nat) (x y : Int) (f : Nat → Int) (w : World) (hB : BoxW w B (.int .i64 x) (.int .i64 y)) (hne : g ≠ B) (hg : g < w.heap.size) (hc : ∀ i, i < L → w.cell? ⟨g, off + i, none⟩ = some (.int .i64 (f (off + i)))) (hf : ∀ i, i < L → 0 ≤ f (off + i) ∧ f (off + i) ≤ 100000000000000) (hL : L ≤ 128) (hx : 0 ≤ y) (hx2 : y ≤ 100000000000000000) :
    Calls Tryd.prog 47 #[.int .i64 1, .slice (some ⟨g, off, none⟩) L cap, .pointer (some ⟨B, 0, none⟩)] w fun e w' => e = .returned (.tuple #[]) ∧ BoxW w' B (.int .i64 x) (.int .i64 (y + sumF f off L)) ∧ w.grownBy w' (some B) := by
  have HB := Lib.hid hB
  have HC := Lib.hid hc
  have HF := Lib.hid hf
  clear hB hc hf
  go_enter Tryd.func47, Tryd.ntmps47
  go_wp2_with fail
  go_loopw [6, 9] (fun _ i wr => ∃ k : Nat, k ≤ L ∧ i = .int .i64 k ∧ Hid (BoxW wr B (.int .i64 x) (.int .i64 (y + sumF f off k))) ∧ w.grownBy wr (some B)) (fun _ i _ => L - (intOf i).toNat)
  case atStart => exact ⟨0, by omega, rfl, by simpa [sumF] using HB, World.grownBy.refl _ _⟩
  case round =>
    obtain ⟨k, hk, rfl, hbx, hgr⟩ := hrel
    obtain ⟨wa, rfl⟩ : ∃ wa : World, wa = wr := ⟨_, rfl⟩
    by_cases hlt : k < L
    · have c0 := HC.out k hlt
      rw [← cell_grown hgr hg hne] at c0
      obtain ⟨f0, f1⟩ := HF.out k hlt
      obtain ⟨s0, s1⟩ := sumF_in f off 100000000000000 k (fun i hi => HF.out i (by omega))
      have hs2 := Lib.hid (sumF_succ f off k)
      have hst := hbx.out.one1 (.int .i64 (y + sumF f off k + f (off + k)))
      have Hst := Lib.hid hst.1
      have Hgs := Lib.hid hst.2
      obtain ⟨⟨d0, d1, d2⟩, d3, d4⟩ := hbx.out
      clear hst
      obtain ⟨u, hu⟩ : ∃ u, u = f (off + k) := ⟨_, rfl⟩
      rw [← hu] at c0 f0 f1 hs2 Hst Hgs
      clear hu
      have hki : (k : Int) < (L : Int) := by omega
      have hwx : IntKind.i64.wrap (y + sumF f off k + u) = y + sumF f off k + u := IntWalk.i64_in _ (by omega)
      go_wp2_with fail
      exact ⟨⟨k + 1, by omega, by go_num, by rw [hs2.out, ← Int.add_assoc]; exact Hst, hgr.trans Hgs.out⟩, by simp [intOf]; omega⟩
    · have hkL : k = L := by omega
      have HK := Lib.hid hkL
      clear hkL
      go_wp2_with fail
      go_end0
      exact ⟨rfl, by rw [← HK.out]; exact hbx.out, hgr⟩

/-- What is laid of the list: its half has so many numbers. -/
theorem half_div (n k : Nat) (h : k < n) : (2 ^ n / 2 ^ (k + 1) : Nat) = 2 ^ (n - 1 - k) := by
  rw [Nat.pow_div (by omega) (by omega)]
  congr 1
  omega
theorem half_two (n k : Nat) (h : k < n) : 2 ^ n = 2 * 2 ^ k * 2 ^ (n - 1 - k) := by
  rw [Nat.mul_assoc, ← Nat.pow_add, Nat.mul_comm, ← Nat.pow_succ]
  congr 1
  omega
theorem next_le {K j L : Nat} (hL : 1 ≤ L) (h : 2 * j * L < 2 * K * L) : j + 1 ≤ K ∧ 2 * j * L + 2 * L ≤ 2 * K * L := by
  have h1 : 2 * j < 2 * K := by
    rcases Nat.lt_or_ge (2 * j) (2 * K) with a | a
    · exact a
    · have := Nat.mul_le_mul_right L a
      omega
  refine ⟨by omega, ?_⟩
  have : 2 * (j + 1) * L ≤ 2 * K * L := Nat.mul_le_mul_right L (by omega)
  have e : 2 * (j + 1) * L = 2 * j * L + 2 * L := by rw [Nat.mul_add, Nat.add_mul]
  omega

set_option maxRecDepth 100000 in
set_option maxHeartbeats 6400000 in
theorem daysAt_any (zs : List Int) (v : Value) (base n k : Nat) (w : World) (hR : IRow w base v zs) (hz : zs.length = 2 ^ n) (hn : n ≤ 7) (hk : k < n) (hf : ∀ i, 0 ≤ zs.getD i 0 ∧ zs.getD i 0 ≤ 100000000000000) :
    Calls Tryd.prog 24 #[v, .int .i64 k] w fun e w' => e = .returned (pr2 (sumU (bitF (fun i => zs.getD i 0) (2 ^ (n - 1 - k)) 0) (2 ^ n)) (sumU (bitF (fun i => zs.getD i 0) (2 ^ (n - 1 - k)) 1) (2 ^ n))) ∧ Below w.heap.size w w' := by
  have hp8 := pow8 n (by omega)
  have hpos := Nat.pow_pos (n := n) (show 0 < 2 by omega)
  have hLp := Nat.pow_pos (n := n - 1 - k) (show 0 < 2 by omega)
  have hN1 := half_two n k hk
  have hN2 := half_div n k hk
  rcases hR.form with ⟨hx, _⟩ | ⟨hx, g, cap, rfl, hbg, hgl, hlc, hcm⟩
  · rw [hx] at hz; simp at hz; omega
  obtain ⟨K, hK⟩ : ∃ K, K = 2 ^ k := ⟨_, rfl⟩
  obtain ⟨L, hL⟩ : ∃ L, L = 2 ^ (n - 1 - k) := ⟨_, rfl⟩
  obtain ⟨N, hN⟩ : ∃ N, N = 2 ^ n := ⟨_, rfl⟩
  rw [← hK, ← hL, ← hN] at hN1
  rw [← hL, ← hN] at hN2
  rw [← hL] at hLp
  rw [← hN] at hp8 hpos hz
  rw [← hL, ← hN]
  have hsh : (N : Int) / 2 ^ (k + 1) = (L : Int) := by rw [← hN2]; simp
  have hL128 : L ≤ 128 := by
    have : 1 ≤ K := by rw [hK]; exact Nat.pow_pos (by omega)
    have h2 : L ≤ K * L := Nat.le_mul_of_pos_left L this
    have h3 : 2 * K * L = 2 * (K * L) := Nat.mul_assoc _ _ _
    omega
  have hcell : ∀ i, i < N → w.cell? ⟨g, i, none⟩ = some (.int .i64 (zs.getD i 0)) := fun i hi => hR.at_ i (by omega)
  rw [hz] at hlc hx
  rw [hz] at hR
  have HC := Lib.hid hcell
  have HF := Lib.hid hf
  have hN1' := Lib.hid hN1
  have hcapN : N ≤ cap := hlc
  unfold maxLen at hcm
  have hsl : zs.length = N := hz
  have bA := BoxW.new (w.alloc (.cells #[.int .i64 0, .int .i64 0] 49)) (.int .i64 0) (.int .i64 0) 49
  have bR0 := BoxW.new w (.int .i64 0) (.int .i64 0) 49
  have bR1 := Lib.hid (bR0.keep (bel_alloc (Below.refl _ _) (.cells #[.int .i64 0, .int .i64 0] 49)))
  have bl0 := Lib.hid (bel_alloc (bel_alloc (Below.refl _ w) (.cells #[.int .i64 0, .int .i64 0] 49)) (.cells #[.int .i64 0, .int .i64 0] 49))
  rw [← size1] at bA
  have bA1 := Lib.hid bA
  have hmf : ∀ (fn : Fn) (first cap : Array Value) (w : World), (Instr.makeFunc fn first cap).run Tryd.prog w = .ok (.func fn first cap) w := fun _ _ _ _ => rfl
  clear bA bR0 hcell hf hR hlc hbg hK hL hN hN1 hN2 hcm
  generalize hfn : (fun i => zs.getD i 0) = f at *
  have HFn : Hid (∀ i, zs.getD i 0 = f i) := Lib.hid (fun i => by rw [← hfn])
  clear hfn
  go_enter Tryd.func24, Tryd.ntmps24
  rw [hsl]
  go_wp2_with fail
  go_loopw [8] (fun x wr => ∃ j F : Nat, Hid (F = 2 * j * L) ∧ F ≤ N ∧ x = .int .i64 F ∧ Hid (BoxW wr (w.heap.size + 1) (.int .i64 (sumU (bitF f L 0) F)) (.int .i64 (sumU (bitF f L 1) F))) ∧ Hid (BoxW wr w.heap.size (.int .i64 0) (.int .i64 0)) ∧ Hid (∀ i, i < N → wr.cell? ⟨g, i, none⟩ = some (.int .i64 (f i))) ∧ Below w.heap.size w wr) (fun x _ => N - (intOf x).toNat)
  case atStart =>
    refine ⟨0, 0, Lib.hid (by simp), by omega, rfl, bA1, bR1, Lib.hid (fun i hi => ?_), bl0.out⟩
    rw [bl0.out.cell (p := ⟨g, i, none⟩) hgl, HC.out i hi, HFn.out]
  case round =>
    obtain ⟨j, F, hFj, hFN, rfl, hA, hR, hC, hbl⟩ := hrel
    obtain ⟨wa, rfl⟩ : ∃ wa : World, wa = wr := ⟨_, rfl⟩
    have hsw := hbl.size
    by_cases hlt : F < N
    · obtain ⟨n1, n2⟩ := next_le (K := K) hLp (by rw [← hFj.out, ← hN1'.out]; exact hlt)
      rw [← hFj.out, ← hN1'.out] at n2
      have hki : (F : Int) < (N : Int) := by omega
      have hf0 : ∀ i, 0 ≤ f i ∧ f i ≤ 100000000000000 := fun i => by rw [← HFn.out]; exact HF.out i
      have hb0 := sumU_in (bitF f L 0) 100000000000000 F (bitF_in _ _ _ _ _ (by omega) (fun i _ => hf0 i))
      have hb1 := sumU_in (bitF f L 1) 100000000000000 F (bitF_in _ _ _ _ _ (by omega) (fun i _ => hf0 i))
      have hcall0 : Hid (∀ cap : Nat, Calls Tryd.prog 47 #[.int .i64 0, .slice (some ⟨g, F, none⟩) L cap, .pointer (some ⟨w.heap.size + 1, 0, none⟩)] wa fun e w' => e = .returned (.tuple #[]) ∧ BoxW w' (w.heap.size + 1) (.int .i64 (sumU (bitF f L 0) F + sumF f F L)) (.int .i64 (sumU (bitF f L 1) F)) ∧ wa.grownBy w' (some (w.heap.size + 1))) := Lib.hid (fun cap =>
        add0_any g F L cap (w.heap.size + 1) _ _ f wa hA.out (by omega) (by omega) (fun i hi => hC.out _ (by omega)) (fun i _ => hf0 _) hL128 (by omega) (by omega))
      have hcall1 : Hid (∀ (cap : Nat) (x : Int) (w3 : World), BoxW w3 (w.heap.size + 1) (.int .i64 x) (.int .i64 (sumU (bitF f L 1) F)) → wa.grownBy w3 (some (w.heap.size + 1)) → Calls Tryd.prog 47 #[.int .i64 1, .slice (some ⟨g, F + L, none⟩) L cap, .pointer (some ⟨w.heap.size + 1, 0, none⟩)] w3 fun e w' => e = .returned (.tuple #[]) ∧ BoxW w' (w.heap.size + 1) (.int .i64 x) (.int .i64 (sumU (bitF f L 1) F + sumF f (F + L) L)) ∧ w3.grownBy w' (some (w.heap.size + 1))) := Lib.hid (fun cap x w3 hbx hgr =>
        add1_any g (F + L) L cap (w.heap.size + 1) _ _ f w3 hbx (by omega) (Nat.lt_of_lt_of_le (show g < wa.heap.size by omega) hgr.size) (fun i hi => by rw [cell_grown hgr (by omega) (by omega)]; exact hC.out _ (by omega)) (fun i _ => hf0 _) hL128 (by omega) (by omega))
      clear hb0 hb1 hf0
      go_wp2_with fail
      refine (hcall0.out L).mono ?_
      rintro e w2 ⟨rfl, hbx2, hgr2⟩
      have HB2 := Lib.hid hbx2
      have HG2 := Lib.hid hgr2
      clear hbx2 hgr2 hcall0
      go_wp2_with fail
      rw [show F + 2 * L - (F + L) = L from by omega]
      refine (hcall1.out L _ w2 HB2.out HG2.out).mono ?_
      rintro e w3 ⟨rfl, hbx3, hgr3⟩
      have hg13 := HG2.out.trans hgr3
      have hnew : Hid (F + 2 * L = 2 * (j + 1) * L) := Lib.hid (by rw [hFj.out, Nat.mul_add, Nat.add_mul])
      have z0 := block_zero f L j
      have z1 := block_one f L j
      rw [← hnew.out, ← hFj.out] at z0 z1
      rw [← z0, ← z1] at hbx3
      have HB3 := Lib.hid hbx3
      have HR3 := Lib.hid (hR.out.grown hg13 (by omega))
      have HC3 : Hid (∀ i, i < N → w3.cell? ⟨g, i, none⟩ = some (.int .i64 (f i))) := Lib.hid (fun i hi => by rw [cell_grown hg13 (by omega) (by omega)]; exact hC.out i hi)
      have HL3 : Hid (Below w.heap.size w w3) := Lib.hid (hbl.grown hg13 hbl.size (fun k' hk' => by injection hk' with h; subst h; exact Nat.le_succ _))
      clear hbx3 hgr3 hg13 z0 z1 HB2 HG2 hcall1
      go_wp2_with fail
      exact ⟨⟨j + 1, F + 2 * L, hnew, n2, by go_num, HB3, HR3, HC3, HL3.out⟩, by simp [intOf]; omega⟩
    · have hFN2 : F = N := by omega
      have HK := Lib.hid hFN2
      clear hFN2
      obtain ⟨⟨d0, d1, d2⟩, d3, d4⟩ := hA.out
      obtain ⟨⟨e0, e1, e2⟩, e3, e4⟩ := hR.out
      go_wp2_with fail
      have hset := Lib.hid (hR.out.set (.int .i64 (sumU (bitF f L 0) F)) (.int .i64 (sumU (bitF f L 1) F)))
      obtain ⟨⟨n0, n1, n2⟩, n3, n4⟩ := hset.out
      refine bodyPost_ret (v := pr2 (sumU (bitF f L 0) F) (sumU (bitF f L 1) F)) (by simp [results, Tryd.results24, go_sem, n0, n1]) rfl ⟨by rw [← HK.out], ?_⟩
      exact (hbl.setCell (p := ⟨w.heap.size, 0, none⟩) (Nat.le_refl _) _).setCell (p := ⟨w.heap.size, 1, none⟩) (Nat.le_refl _) _
end Go.Proofs.YtjfcpbedmdnjcabDoor
