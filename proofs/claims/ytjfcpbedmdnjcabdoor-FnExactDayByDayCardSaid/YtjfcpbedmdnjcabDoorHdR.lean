/- Texts told by a rank: the contract of the program. -/
import Derived.Test.YtjfcpbedmdnjcabDoorHdP
import Derived.Test.YtjfcpbedmdnjcabDoorWb
namespace Go.Proofs.YtjfcpbedmdnjcabDoor
set_option linter.unusedSimpArgs false
open Go.ChangeShapes Go.WideShapes Go.ChangeAt Go.RowKit
set_option linter.unusedVariables false

theorem and_one (n : Int) : bits .and .i64 n 1 = n % 2 := by
  have h1 : (BitVec.ofInt 64 1).toNat = 2 ^ 1 - 1 := by decide
  have key : (BitVec.ofInt 64 n &&& BitVec.ofInt 64 1).toNat = (n % ((2 ^ 64 : Nat) : Int)).toNat % 2 ^ 1 := by
    rw [BitVec.toNat_and, BitVec.toNat_ofInt, h1, Nat.and_two_pow_sub_one_eq_mod]
  show IntKind.i64.wrap ((BitVec.ofInt 64 n &&& BitVec.ofInt 64 1).toNat : Nat) = n % 2
  rw [key, IntKind.wrap_i64]
  omega
theorem rk_bit (r m : Nat) : bits .and .i64 ((r : Int) / 2 ^ m) 1 = ((r / 2 ^ m % 2 : Nat) : Int) := by
  rw [and_one]
  simp
theorem getD_set (l : List UInt8) (k j : Nat) (c : UInt8) (hk : k < l.length) : (l.set k c).getD j 0 = if j = k then c else l.getD j 0 := by
  rw [List.getD_eq_getElem?_getD, List.getD_eq_getElem?_getD]
  by_cases e : j = k
  · subst e
    rw [List.getElem?_set_self hk, if_pos rfl]
    rfl
  · rw [List.getElem?_set_ne (fun h => e h.symm), if_neg e]
theorem rkT_at (x y : UInt8) (n r k : Nat) (h : k < n) : (rkT x y n r).data.toList.getD k 0 = if r / 2 ^ (n - 1 - k) % 2 = 0 then x else y := by
  have := rkT_sgn x y n r k h
  unfold sgn at this
  apply UInt8.toNat.inj
  omega
theorem list_same {l m : List UInt8} (h : l.length = m.length) (g : ∀ j, j < l.length → l.getD j 0 = m.getD j 0) : l = m := by
  apply List.ext_getElem h
  intro j h1 h2
  have := g j h1
  rw [List.getD_eq_getElem?_getD, List.getD_eq_getElem?_getD, List.getElem?_eq_getElem h1, List.getElem?_eq_getElem h2] at this
  exact this

set_option maxRecDepth 100000 in
set_option maxHeartbeats 3200000 in
theorem textOfRank_any (x y : UInt8) (n r : Nat) (w : World) (hn : n ≤ 8) (hr : r < 2 ^ n) :
    Calls Tryd.prog 68 #[.int .i64 r, .int .i64 n, .string ⟨#[x, y]⟩] w fun e w' => e = .returned (.string (rkT x y n r)) ∧ Below w.heap.size w w' := by
  have hp8 := pow8 n hn
  have hmk := mk_bytes n (by omega)
  have hW0 := Lib.hid (made_WB w n)
  have hb0 := bel_alloc (Below.refl _ w) (.cells (Array.replicate n (.int .u8 0)) 5)
  have hr8 : r < 256 := by omega
  clear hp8
  go_enter Tryd.func68, Tryd.ntmps68
  go_wp2_with fail
  go_loopw [8, 13] (fun _ i wr => ∃ (k : Nat) (l : List UInt8), k ≤ n ∧ i = .int .i64 k ∧ Hid (l.length = n) ∧ Hid (WB wr w.heap.size l) ∧ Hid (∀ j, j < k → l.getD j 0 = (rkT x y n r).data.toList.getD j 0) ∧ Below w.heap.size w wr) (fun _ i _ => n - (intOf i).toNat)
  case atStart => exact ⟨0, List.replicate n 0, by omega, rfl, Lib.hid (by simp), hW0, Lib.hid (fun _ h => by omega), hb0⟩
  case round =>
    obtain ⟨k, l, hk, rfl, hl, hWB, hpre, hbl⟩ := hrel
    obtain ⟨wa, rfl⟩ : ∃ wa : World, wa = wr := ⟨_, rfl⟩
    by_cases hlt : k < n
    · obtain ⟨d0, d1⟩ := hWB.out k (by rw [hl.out]; exact hlt)
      have hat := rkT_at x y n r k hlt
      have hki : (k : Int) < (n : Int) := by omega
      have hkl : k < l.length := by rw [hl.out]; exact hlt
      have key : ∀ c : UInt8, (rkT x y n r).data.toList.getD k 0 = c → Hid ((l.set k c).length = n) ∧ Hid (WB (wa.setCell ⟨w.heap.size, k, none⟩ (.int .u8 (c.toNat : Int))) w.heap.size (l.set k c)) ∧ Hid (∀ j, j < k + 1 → (l.set k c).getD j 0 = (rkT x y n r).data.toList.getD j 0) ∧ Below w.heap.size w (wa.setCell ⟨w.heap.size, k, none⟩ (.int .u8 (c.toNat : Int))) := by
        intro c hc
        refine ⟨Lib.hid (by rw [List.length_set]; exact hl.out), Lib.hid (hWB.out.store k c hkl), Lib.hid (fun j hj => ?_), hbl.setCell (p := ⟨w.heap.size, k, none⟩) (Nat.le_refl _) _⟩
        rw [getD_set l k j c hkl]
        by_cases e : j = k
        · subst e; rw [if_pos rfl, hc]
        · rw [if_neg e]; exact hpre.out j (by omega)
      clear hkl
      have hbit := rk_bit r (n - 1 - k)
      rcases Nat.mod_two_eq_zero_or_one (r / 2 ^ (n - 1 - k)) with e | e
      · rw [e] at hbit hat
        obtain ⟨k1, k2, k3, k4⟩ := key x (by rw [hat]; rfl)
        clear hat e key
        go_wp2_with fail
        exact ⟨⟨k + 1, l.set k x, by omega, by go_num, k1, k2, k3, k4⟩, by simp [intOf]; omega⟩
      · rw [e] at hbit hat
        obtain ⟨k1, k2, k3, k4⟩ := key y (by rw [hat]; rfl)
        clear hat e key
        go_wp2_with fail
        exact ⟨⟨k + 1, l.set k y, by omega, by go_num, k1, k2, k3, k4⟩, by simp [intOf]; omega⟩
    · obtain rfl : k = n := by omega
      have hll : l = (rkT x y k r).data.toList := list_same (by rw [hl.out]; have := rkT_size x y k r; simpa using this.symm) (fun j hj => hpre.out j (by rw [hl.out] at hj; exact hj))
      have hcb := run_convert_bytes_back (P := Tryd.prog) wa 90 9 5 ⟨w.heap.size, 0, none⟩ k l Tryd.underlying90 Tryd.underlying5 Tryd.underlying9 (fun j hj => by
        rw [Addr.add_lit, Nat.zero_add, (hWB.out j hj).1]
        rw [List.getD_eq_getElem?_getD, List.getElem?_eq_getElem hj]
        rfl)
      rw [hl.out] at hcb
      have hfin : Hid ((⟨l.toArray⟩ : ByteArray) = rkT x y k r) := Lib.hid (by rw [hll])
      generalize (⟨l.toArray⟩ : ByteArray) = T at *
      clear hll
      go_wp2_with fail
      go_ret
      exact ⟨by rw [← hfin.out]; rfl, hbl⟩
end Go.Proofs.YtjfcpbedmdnjcabDoor
