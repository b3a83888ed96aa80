/- Texts counted by letters: the contract of the model's woCount. -/
import Derived.Test.YtjfcpbedmdnjcabDoorCtG
import Derived.Laws.MakeOwn
namespace Go.Proofs.YtjfcpbedmdnjcabDoor
set_option linter.unusedSimpArgs false
open Go.ChangeShapes Go.WideShapes Go.ChangeAt Go.RowKit
set_option linter.unusedVariables false

theorem ct_info : (Tryd.prog.info? 3).map (fun i => (i.zero, i.size, i.bytes)) = some (some (.int .i64 0), 1, 8) := by kernel_rfl
theorem ct_madeOne (v : Value) (n : Nat) : madeCells #[v] n = Array.replicate n v := by
  apply Array.ext
  · simp [madeCells]
  · intro i h1 h2
    simp [madeCells, Nat.mod_one]
theorem ct_mk (n : Nat) (hn : n ≤ 1048576) (W : World) : (Instr.makeSlice 45 (.int .i64 n) (.int .i64 n)).run Tryd.prog W = .ok (.slice (some ⟨W.heap.size, 0, none⟩) n n) (W.alloc (.cells (Array.replicate n (.int .i64 0)) 3)) := by
  obtain ⟨i0, hi, hz0, hz1, hz2⟩ := info_parts ct_info
  have h := run_make (P := Tryd.prog) W 45 3 i0 _ Tryd.underlying45 hi hz0 .i64 .i64 n n (by omega) (by omega) (by rw [hz2]; omega) (by omega)
  rw [h, hz1]
  simp [Value.cells, ct_madeOne]
def ctF (m : Nat) (f : Nat → Int) : List Int := (List.range m).map f
theorem ctF_len (m : Nat) (f : Nat → Int) : (ctF m f).length = m := by simp [ctF]
theorem ctF_at (m : Nat) (f : Nat → Int) (k : Nat) (hk : k < m) : (ctF m f).getD k 0 = f k := by
  unfold ctF
  rw [List.getD_eq_getElem?_getD, List.getElem?_map, List.getElem?_range hk]
  rfl
theorem ctF_set (m : Nat) (f g : Nat → Int) (k : Nat) (x : Int) (hx : g k = x) (ho : ∀ i, i < m → i ≠ k → g i = f i) : (ctF m f).set k x = ctF m g := by
  apply List.ext_getElem
  · simp [ctF]
  · intro j h1 h2
    have hj : j < m := by simpa [ctF] using h2
    rw [List.getElem_set]
    by_cases e : k = j
    · subst e
      rw [if_pos rfl]
      simp [ctF, hx]
    · rw [if_neg e]
      simp [ctF, ho j hj (fun q => e q.symm)]
theorem ctF_congr (m : Nat) {f g : Nat → Int} (h : ∀ k, k < m → f k = g k) : ctF m f = ctF m g := by
  unfold ctF
  apply List.map_congr_left
  intro k hk
  exact h k (by simpa using hk)
theorem ctF_zero (m : Nat) : ctF m (fun _ => 0) = List.replicate m 0 := by
  unfold ctF
  simp [List.map_const']
theorem ctF_made (W : World) (n : Nat) (hn : n ≤ 1048576) : IRow (W.alloc (.cells (Array.replicate n (.int .i64 0)) 3)) W.heap.size (.slice (some ⟨W.heap.size, 0, none⟩) n n) (ctF n (fun _ => 0)) := by
  have h := World.ownsRow_lit (base := W.heap.size) (e := 3) (size := 1) W (Array.replicate n (.int .i64 0)) n (Nat.le_refl _) (by simp only [maxLen]; omega) (by simp)
  rw [ctF_zero]
  unfold IRow
  rw [List.length_replicate, List.map_replicate]
  simpa using h
theorem ctF_cell {w : World} {b g cap m : Nat} {f : Nat → Int} (h : IRow w b (.slice (some ⟨g, 0, none⟩) m cap) (ctF m f)) (k : Nat) (hk : k < m) :
    w.cell? ⟨g, k, none⟩ = some (.int .i64 (f k)) ∧ w.frozen? ⟨g, k, none⟩ = false := by
  have hl := ctF_len m f
  have h' : IRow w b (.slice (some ⟨g, 0, none⟩) (ctF m f).length cap) (ctF m f) := by rw [hl]; exact h
  have c := h'.at_ k (by omega)
  rw [ctF_at m f k hk] at c
  exact ⟨c, World.ownsRow.frozenAt h' k⟩
theorem ctF_store {w : World} {b g cap m : Nat} {f : Nat → Int} (h : IRow w b (.slice (some ⟨g, 0, none⟩) m cap) (ctF m f)) (k : Nat) (x : Int) (f' : Nat → Int) (hx : f' k = x) (ho : ∀ i, i < m → i ≠ k → f' i = f i) :
    IRow (w.setCell ⟨g, k, none⟩ (.int .i64 x)) b (.slice (some ⟨g, 0, none⟩) m cap) (ctF m f') ∧ w.grownBy (w.setCell ⟨g, k, none⟩ (.int .i64 x)) (some g) := by
  have hl := ctF_len m f
  have h' : IRow w b (.slice (some ⟨g, 0, none⟩) (ctF m f).length cap) (ctF m f) := by rw [hl]; exact h
  obtain ⟨a, c⟩ := h'.store k x
  rw [ctF_set m f f' k x hx ho, hl] at a
  exact ⟨a, c⟩
theorem least_any (a : Int) (w : World) :
    Calls Tryd.prog 60 #[.int .i64 a, .int .i64 1000000000000001] w fun e w' => e = .returned (.int .i64 (ctM a)) ∧ w = w' := l1Least_any a 1000000000000001 w

set_option maxRecDepth 100000 in
set_option maxHeartbeats 3200000 in
theorem woCount_any (n : Nat) (s : ByteArray) (L : Nat) (w : World) (n2 : n ≤ 26) (h1 : 1 ≤ s.size) (h8 : s.size ≤ 8) (hL : L ≤ 30) :
    Calls Tryd.prog 37 #[.int .i64 n, .string s, .int .i64 L] w fun e w' => e = .returned (.tuple #[.int .i64 (ctM (ctW (ctV s n L) s.size)), .int .i64 (ctV s n L s.size)]) ∧ Below w.heap.size w w' := by
  obtain ⟨m, hm⟩ : ∃ m, m = s.size := ⟨_, rfl⟩
  have hmk : ∀ W : World, (Instr.makeSlice 45 (.int .i64 (s.size : Int)) (.int .i64 (s.size : Int))).run Tryd.prog W = .ok (.slice (some ⟨W.heap.size, 0, none⟩) s.size s.size) (W.alloc (.cells (Array.replicate s.size (.int .i64 0)) 3)) := fun W => ct_mk s.size (by omega) W
  have hm0 := ctF_made w s.size (by omega)
  obtain ⟨e0, f0⟩ := ctF_cell hm0 0 (by omega)
  obtain ⟨hs1, hs2⟩ := ctF_store hm0 0 1 (ctV s n 0) rfl (fun i _ hi => by show (if i = 0 then (1 : Int) else 0) = 0; rw [if_neg hi])
  have heq : (w.alloc (.cells (Array.replicate s.size (.int .i64 0)) 3)).setCell ⟨w.heap.size, 0, none⟩ (.int .i64 1) = w.alloc (.cells ((Array.replicate s.size (.int .i64 0)).setIfInBounds 0 (.int .i64 1)) 3) := by simp [go_sem]
  have hbl0 : Below w.heap.size w ((w.alloc (.cells (Array.replicate s.size (.int .i64 0)) 3)).setCell ⟨w.heap.size, 0, none⟩ (.int .i64 1)) := (bel_alloc (Below.refl _ w) (.cells (Array.replicate s.size (.int .i64 0)) 3)).setCell (Nat.le_refl _) _
  rw [heq] at hs1 hbl0
  have Hs1 := Lib.hid hs1
  have Hbl0 := Lib.hid hbl0
  have hp0 : (0 : Int) < (s.size : Int) := by omega
  have hr0 : (Array.replicate s.size (Value.int .i64 0))[0]? = some (.int .i64 0) := by rw [Array.getElem?_replicate, if_pos (by omega)]
  have HV := Lib.hid (ctV_in s n)
  have HG := Lib.hid (fun (h k : Nat) (hh : h < s.size) (hk : k < 26) (W : World) => woGo_any s h k W hh h8 hk)
  have hz0 : Hid ((0 : Int) = ctV s n 0 s.size) := Lib.hid (by show (0 : Int) = if s.size = 0 then 1 else 0; rw [if_neg (by omega)])
  clear hm0 hs1 hs2 hbl0 heq
  clear e0 f0 hm m
  go_enter Tryd.func37, Tryd.ntmps37
  go_wp2_with fail
  generalize (Array.replicate s.size (Value.int .i64 0)).setIfInBounds 0 (.int .i64 1) = A0 at *
  go_loopw [2, 8, 9] (fun x v y wr => ∃ r : Nat, r ≤ L ∧ x = .int .i64 r ∧ y = .int .i64 (ctV s n (L - r) s.size) ∧ Hid (IRow wr w.heap.size v (ctF s.size (ctV s n (L - r)))) ∧ Below w.heap.size w wr) (fun x _ _ _ => (intOf x).toNat)
  case atStart => exact ⟨L, Nat.le_refl _, rfl, by rw [Nat.sub_self, ← hz0.out], by rw [Nat.sub_self]; exact Hs1, Hbl0.out⟩
  case round =>
    obtain ⟨r, hr, rfl, rfl, hI, hb⟩ := hrel
    obtain ⟨wa, rfl⟩ : ∃ wa : World, wa = wr := ⟨_, rfl⟩
    have hsa := hb.size
    rcases hI.out.form with ⟨hx, _⟩ | ⟨hx, g, cap, rfl, hbg, hgl, hlc, hcm⟩
    · have := ctF_len s.size (ctV s n (L - r))
      rw [hx] at this; simp at this; omega
    rw [ctF_len] at hI hlc hx ⊢
    unfold maxLen at hcm
    have hV := HV.out (L - r)
    cases r with
    | zero =>
      rw [Nat.sub_zero] at hI hV ⊢
      generalize hFe : ctV s n L = F at *
      have HFe := Lib.hid hFe
      have HF := Lib.hid hV
      clear hFe
      rw [show ((0 : Nat) : Int) = 0 from rfl]
      have t0 : Hid ((0 : Int) = ctM (ctW F 0)) := Lib.hid (by show (0 : Int) = ctM 0; unfold ctM ctX; simp)
      clear hV
      go_wp2_with fail
      go_loop [15, 74] (fun x i => ∃ k : Nat, k ≤ s.size ∧ i = .int .i64 k ∧ x = .int .i64 (ctM (ctW F k))) (fun _ i => s.size - (intOf i).toNat)
      case atStart => exact ⟨0, by omega, rfl, by rw [← t0.out]⟩
      case round =>
        obtain ⟨k, hk, rfl, rfl⟩ := hrel
        by_cases hlt : k < s.size
        · obtain ⟨c0, _⟩ := ctF_cell hI.out k hlt
          obtain ⟨d0, d1⟩ := HF.out k
          obtain ⟨d2, d3⟩ := ctM_in (ctW_in F HF.out k).1
          unfold ctX at d1 d3
          have hw : IntKind.i64.wrap (ctM (ctW F k) + F k) = ctM (ctW F k) + F k := IntWalk.i64_in _ (by omega)
          have hcp := Lib.hid (ctW_cap F (fun j => (HF.out j).1) k)
          generalize ctM (ctW F k) = X at *
          generalize F k = y at *
          go_wp2_with fail
          refine (least_any _ _).mono ?_
          rintro e w2 ⟨rfl, rfl⟩
          rw [hcp.out]
          go_wp2_with fail
          exact ⟨⟨k + 1, by omega, by go_num, rfl⟩, by simp [intOf]; omega⟩
        · obtain rfl : k = s.size := by omega
          go_wp2_with fail
          go_ret2
          exact ⟨by rw [HFe.out]; rfl, hb⟩
    | succ r =>
      have hnx : Hid (ctV s n (L - r) = fun j => ctP s n (ctV s n (L - (r + 1))) s.size j) := by
        refine Lib.hid ?_
        rw [show L - r = (L - (r + 1)) + 1 from by omega]
        rfl
      generalize ctV s n (L - (r + 1)) = F at *
      have HF := Lib.hid hV
      clear hV
      have hmade := Lib.hid (ctF_made wa s.size (by omega))
      have hba := Lib.hid (bel_alloc (Below.refl _ wa) (.cells (Array.replicate s.size (.int .i64 0)) 3))
      have t0 : Hid ((fun _ => 0) = ctP s n F 0) := rfl
      have t1 : Hid ((0 : Int) = ctP s n F 0 s.size) := rfl
      have hglt : w.heap.size ≤ wa.heap.size := hsa
      rw [show ((r + 1 : Nat) : Int) = (r : Int) + 1 from by omega]
      go_wp2_with fail
      go_loopw [9, 32] (fun y x wr => ∃ h : Nat, h ≤ s.size ∧ x = .int .i64 h ∧ y = .int .i64 (ctP s n F h s.size) ∧ Hid (IRow wr wa.heap.size (.slice (some ⟨wa.heap.size, 0, none⟩) s.size s.size) (ctF s.size (ctP s n F h))) ∧ Hid (Below wa.heap.size wa wr)) (fun _ x _ => s.size - (intOf x).toNat)
      case atStart => exact ⟨0, by omega, rfl, by rw [← t1.out], by rw [← t0.out]; exact hmade, hba⟩
      case round =>
        obtain ⟨h, hh, rfl, rfl, hrow, hbh⟩ := hrel
        obtain ⟨wb, rfl⟩ : ∃ wb : World, wb = wr := ⟨_, rfl⟩
        by_cases hlt : h < s.size
        · have hnow := hI.out.below hbh.out
          obtain ⟨c0, _⟩ := ctF_cell hnow h hlt
          obtain ⟨d0, d1⟩ := HF.out h
          have q0 := Lib.hid (fun j => ctR_zero s n F (fun j => (HF.out j).1) h j)
          clear hnow
          go_wp2_with fail
          go_loopw [9, 13] (fun y x wr => ∃ k : Nat, k ≤ n ∧ x = .int .i64 k ∧ y = .int .i64 (ctR s n F h k s.size) ∧ Hid (IRow wr wa.heap.size (.slice (some ⟨wa.heap.size, 0, none⟩) s.size s.size) (ctF s.size (ctR s n F h k))) ∧ Hid (Below wa.heap.size wa wr)) (fun _ x _ => n - (intOf x).toNat)
          case atStart => exact ⟨0, by omega, rfl, by rw [q0.out], by rw [show ctR s n F h 0 = ctP s n F h from funext q0.out]; exact hrow, hbh⟩
          case round =>
            obtain ⟨k, hk, rfl, rfl, hrw, hbk⟩ := hrel
            obtain ⟨wc, rfl⟩ : ∃ wc : World, wc = wr := ⟨_, rfl⟩
            by_cases hkn : k < n
            · by_cases hz : F h = 0
              · have e1 : Hid (ctR s n F h k = ctP s n F (h + 1)) := Lib.hid (funext fun j => by rw [← ctR_all, ctR_none s n F (fun j => (HF.out j).1) h k j hz, ctR_none s n F (fun j => (HF.out j).1) h n j hz])
                have hrw2 : Hid (IRow wc wa.heap.size (.slice (some ⟨wa.heap.size, 0, none⟩) s.size s.size) (ctF s.size (ctP s n F (h + 1)))) := Lib.hid (by rw [← e1.out]; exact hrw.out)
                rw [e1.out]
                go_wp2_with fail
                exact ⟨⟨h + 1, by omega, by go_num, rfl, hrw2, hbk⟩, by simp [intOf]; omega⟩
              · have hpos : 0 < F h := by omega
                have hgle := ctG_le s h k
                have hcall := Lib.hid (HG.out h k hlt (by omega))
                have hw8 : IntKind.u8.wrap (97 + (k : Int)) = 97 + (k : Int) := by rw [IntKind.wrap_u8]; omega
                obtain ⟨b0, b1⟩ := ctR_in s n F (fun j => (HF.out j).1) h k (ctG s h k)
                unfold ctX at b1 d1
                have hw : IntKind.i64.wrap (ctR s n F h k (ctG s h k) + F h) = ctR s n F h k (ctG s h k) + F h := IntWalk.i64_in _ (by omega)
                have hyes := Lib.hid (ctR_yes s n F h k (ctG s h k) (by omega) rfl)
                by_cases hG : ctG s h k = s.size
                · have hsame : Hid (ctF s.size (ctR s n F h k) = ctF s.size (ctR s n F h (k + 1))) := Lib.hid (ctF_congr _ fun j hj => (ctR_no s n F h k j (by omega)).symm)
                  have hcall2 : Hid (∀ W : World, Calls Tryd.prog 59 #[.string s, .int .i64 h, .int .u8 (97 + k)] W fun e w' => e = .returned (.int .i64 (s.size : Int)) ∧ ∃ q, w' = W.drewN q) := Lib.hid (by have := hcall.out; rw [hG] at this; exact this)
                  have hyes2 : Hid (ctR s n F h (k + 1) s.size = ctM (ctR s n F h k s.size + F h)) := Lib.hid (by have := hyes.out; rw [hG] at this; exact this)
                  have hw2 : IntKind.i64.wrap (ctR s n F h k s.size + F h) = ctR s n F h k s.size + F h := by rw [hG] at hw; exact hw
                  have hrw2 : Hid (IRow wc wa.heap.size (.slice (some ⟨wa.heap.size, 0, none⟩) s.size s.size) (ctF s.size (ctR s n F h (k + 1)))) := Lib.hid (by rw [← hsame.out]; exact hrw.out)
                  clear hyes hcall hw hsame hrw b0 b1 hgle hG
                  generalize ctR s n F h k s.size = X at *
                  go_wp2_with fail
                  refine (hcall2.out _).mono ?_
                  rintro e w2 ⟨rfl, nq, rfl⟩
                  go_wp2_with fail
                  refine (least_any _ _).mono ?_
                  rintro e w3 ⟨rfl, rfl⟩
                  rw [← hyes2.out]
                  go_wp2_with fail
                  exact ⟨⟨k + 1, by omega, by go_num, rfl, hrw2, Lib.hid ⟨hbk.out.os, hbk.out.tape, hbk.out.output, hbk.out.size, hbk.out.block⟩⟩, by simp [intOf]; omega⟩
                · have hty : Hid (ctR s n F h k s.size = ctR s n F h (k + 1) s.size) := Lib.hid (ctR_no s n F h k s.size hG).symm
                  obtain ⟨x0, x1⟩ := ctF_cell hrw.out (ctG s h k) (by omega)
                  obtain ⟨hs1, hs2⟩ := ctF_store hrw.out (ctG s h k) (ctM (ctR s n F h k (ctG s h k) + F h)) (ctR s n F h (k + 1)) hyes.out (fun j _ hj => ctR_no s n F h k j (fun e => hj e.symm))
                  have Hs1 := Lib.hid hs1
                  have Hbel : Hid (Below wa.heap.size wa (wc.setCell ⟨wa.heap.size, ctG s h k, none⟩ (.int .i64 (ctM (ctR s n F h k (ctG s h k) + F h))))) := hbk.out.setCell (Nat.le_refl _) _
                  have hGi : ¬ ((ctG s h k : Nat) : Int) = (s.size : Int) := by omega
                  have hGl : ((ctG s h k : Nat) : Int) < (s.size : Int) := by omega
                  rw [hty.out]
                  clear hs1 hs2 hyes hgle hbk hrw b0 b1
                  generalize ctG s h k = K at *
                  generalize ctR s n F h k K = X at *
                  go_wp2_with fail
                  refine (hcall.out _).mono ?_
                  rintro e w2 ⟨rfl, nq, rfl⟩
                  go_wp2_with fail
                  refine (least_any _ _).mono ?_
                  rintro e w3 ⟨rfl, rfl⟩
                  go_wp2_with fail
                  exact ⟨⟨k + 1, by omega, by go_num, rfl, Hs1.out, Lib.hid ⟨Hbel.out.os, Hbel.out.tape, Hbel.out.output, Hbel.out.size, Hbel.out.block⟩⟩, by simp [intOf]; omega⟩
            · obtain rfl : k = n := by omega
              go_wp2_with fail
              exact ⟨⟨h + 1, by omega, by go_num, rfl, hrw, hbk⟩, by simp [intOf]; omega⟩
        · obtain rfl : h = s.size := by omega
          go_wp2_with fail
          exact ⟨⟨r, by omega, by go_num, by rw [hnx.out], by rw [hnx.out]; exact hrow.out.mono hglt, bel_trans hb hbh.out⟩, by simp [intOf]⟩
end Go.Proofs.YtjfcpbedmdnjcabDoor
