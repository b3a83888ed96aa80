/- Days and signs together: the contract of the program. -/
import Derived.Test.YtjfcpbedmdnjcabDoorHdB
import Derived.Test.YtjfcpbedmdnjcabDoorHdS
namespace Go.Proofs.YtjfcpbedmdnjcabDoor
set_option linter.unusedSimpArgs false
open Go.ChangeShapes Go.WideShapes Go.ChangeAt Go.RowKit
set_option linter.unusedVariables false

theorem ixN (W : World) : Calls Tryd.prog 81 #[.string ⟨#[110, 117]⟩, .int .u8 110] W fun e w' => e = .returned (.int .i64 0) ∧ w' = W := Tryd.strings_IndexByte ⟨#[110, 117]⟩ 110 W
theorem at0 (x y : Int) (W : World) : (Instr.index 49 (pr2 x y) (.int .i64 0)).run Tryd.prog W = .ok (.int .i64 x) W := by
  have h := Tryd.underlying49
  have hc : Tryd.prog.cellsOf 3 = 1 := by kernel_rfl
  simp [Instr.index, run_underlying h, asIntOf, go_sem, hc]
theorem at1 (x y : Int) (W : World) : (Instr.index 49 (pr2 x y) (.int .i64 1)).run Tryd.prog W = .ok (.int .i64 y) W := by
  have h := Tryd.underlying49
  have hc : Tryd.prog.cellsOf 3 = 1 := by kernel_rfl
  simp [Instr.index, run_underlying h, asIntOf, go_sem, hc]
theorem ixU (W : World) : Calls Tryd.prog 81 #[.string ⟨#[110, 117]⟩, .int .u8 117] W fun e w' => e = .returned (.int .i64 1) ∧ w' = W := Tryd.strings_IndexByte ⟨#[110, 117]⟩ 117 W

set_option maxRecDepth 100000 in
set_option maxHeartbeats 6400000 in
theorem both_any (a b c p q r : Int) (d s : ByteArray) (w : World) (hr : inR a b c) (hp : inR p q r) (hd : allB d = true) (hs : allG s = true) (h1 : 1 ≤ d.size) (h7 : d.size ≤ 7) (he : s.size = d.size) :
    Calls Tryd.prog 67 #[hdn a b c p q r, .string d, .string s] w fun e w' => e = .returned (.int .i64 (bth a b c p q r d s)) ∧ Below w.heap.size w w' := by
  have bx := Lib.hid (Box6.new w a b c p q r 30)
  have HD := Lib.hid hd
  have HS := Lib.hid hs
  have HR := Lib.hid hr
  have HP := Lib.hid hp
  have hfin : Hid (bthK a b c p q r d s d.size = bth a b c p q r d s) := rfl
  have h0 : Hid (flw a b c d d.size = bthK a b c p q r d s 0) := rfl
  have hc1 : ∀ W : World, Calls Tryd.prog 79 #[chn a b c, .string d] W fun e w' => e = .returned (.int .i64 (bthK a b c p q r d s 0)) ∧ Below W.heap.size W w' := fun W => followed_any a b c d W hr hd h1 (by omega)
  have HE := Lib.hid he
  clear hr hp hd hs he
  go_enter Tryd.func67, Tryd.ntmps67
  go_wp2_with fail
  refine (hc1 _).mono ?_
  rintro e w1 ⟨rfl, hb1⟩
  have bx1 := Lib.hid (bx.out.keep hb1)
  have bl1 := bel_trans (bel_alloc (Below.refl _ w) _) hb1
  clear hb1 hc1
  go_wp2_with fail
  go_loopw [7, 15] (fun x i wr => ∃ k : Nat, k ≤ d.size ∧ i = .int .i64 k ∧ x = .int .i64 (bthK a b c p q r d s k) ∧ Hid (Box6 wr w.heap.size a b c p q r) ∧ Below w.heap.size w wr) (fun _ i _ => d.size - (intOf i).toNat)
  case atStart => exact ⟨0, by omega, rfl, rfl, bx1, bl1⟩
  case round =>
    obtain ⟨k, hk, rfl, rfl, hbx, hbl⟩ := hrel
    obtain ⟨b0, b1⟩ := bthK_le HR.out HP.out d s k (by omega) (by omega)
    by_cases hlt : k < d.size
    · obtain ⟨c0, c1⟩ := bthK_le HR.out HP.out d s (k + 1) (by omega) (by omega)
      have hlt2 : k < s.size := by rw [HE.out]; exact hlt
      have hdk := sgn_day d k hlt HD.out
      have hsk := sgn_sg s k hlt2 HS.out
      have e1 := sgn_at d k hlt
      rcases hsk with hg | hg
      · have hfs : bthK a b c p q r d s (k + 1) = bthK a b c p q r d s k * (r - tkn p q (sgn d k)) := by
          rw [bthK_succ, hg]; rfl
        rw [hfs] at c0 c1
        have Hfs := Lib.hid hfs
        have e2 := sgn_at s k hlt2
        rw [hg] at e2
        have hw2 : IntKind.i64.wrap (bthK a b c p q r d s k * (r - tkn p q (sgn d k))) = bthK a b c p q r d s k * (r - tkn p q (sgn d k)) := IntWalk.i64_in _ (by omega)
        have hx0 := at0 (r - tkn p q (sgn d k)) (tkn p q (sgn d k))
        have hx1 := at1 (r - tkn p q (sgn d k)) (tkn p q (sgn d k))
        clear hfs hg
        go_wp2_with fail
        go_region_held3 (fun w' => w'.cell? ⟨w.heap.size, 0, none⟩ = some (.int .i64 a) ∧ w'.cell? ⟨w.heap.size, 1, none⟩ = some (.int .i64 b) ∧ w'.cell? ⟨w.heap.size, 2, none⟩ = some (.int .i64 c) ∧ w'.cell? ⟨w.heap.size, 3, none⟩ = some (.int .i64 p) ∧ w'.cell? ⟨w.heap.size, 4, none⟩ = some (.int .i64 q) ∧ w'.cell? ⟨w.heap.size, 5, none⟩ = some (.int .i64 r) ∧ w.heap.size < w'.heap.size ∧ Below w.heap.size w w')
          (first | exact h6_start hbx.out hbl | exact h6_keep (by assumption) hb2 | exact h6_drewN (by assumption) _ | assumption | go_keep)
          (first | (go_at_call 80; refine (signsOn_any a b c p q r (sgn d k) _ hdk HP.out).mono ?_; rintro e w2 ⟨rfl, hb2⟩) | (go_at_call 81; refine (ixN _).mono ?_; rintro e w3 ⟨rfl, rfl⟩))
        all_goals
          obtain ⟨hbx1, hbl1⟩ := h6_below (by assumption)
          have Hbx1 := Lib.hid hbx1
          clear hbx1 e1 e2 hw2
          go_wp2
          exact ⟨⟨k + 1, by omega, by go_num, by rw [Hfs.out], Hbx1, hbl1⟩, by simp [intOf]; omega⟩
      · have hfs : bthK a b c p q r d s (k + 1) = bthK a b c p q r d s k * tkn p q (sgn d k) := by
          rw [bthK_succ, hg]; rfl
        rw [hfs] at c0 c1
        have Hfs := Lib.hid hfs
        have e2 := sgn_at s k hlt2
        rw [hg] at e2
        have hw2 : IntKind.i64.wrap (bthK a b c p q r d s k * tkn p q (sgn d k)) = bthK a b c p q r d s k * tkn p q (sgn d k) := IntWalk.i64_in _ (by omega)
        have hx0 := at0 (r - tkn p q (sgn d k)) (tkn p q (sgn d k))
        have hx1 := at1 (r - tkn p q (sgn d k)) (tkn p q (sgn d k))
        clear hfs hg
        go_wp2_with fail
        go_region_held3 (fun w' => w'.cell? ⟨w.heap.size, 0, none⟩ = some (.int .i64 a) ∧ w'.cell? ⟨w.heap.size, 1, none⟩ = some (.int .i64 b) ∧ w'.cell? ⟨w.heap.size, 2, none⟩ = some (.int .i64 c) ∧ w'.cell? ⟨w.heap.size, 3, none⟩ = some (.int .i64 p) ∧ w'.cell? ⟨w.heap.size, 4, none⟩ = some (.int .i64 q) ∧ w'.cell? ⟨w.heap.size, 5, none⟩ = some (.int .i64 r) ∧ w.heap.size < w'.heap.size ∧ Below w.heap.size w w')
          (first | exact h6_start hbx.out hbl | exact h6_keep (by assumption) hb2 | exact h6_drewN (by assumption) _ | assumption | go_keep)
          (first | (go_at_call 80; refine (signsOn_any a b c p q r (sgn d k) _ hdk HP.out).mono ?_; rintro e w2 ⟨rfl, hb2⟩) | (go_at_call 81; refine (ixU _).mono ?_; rintro e w3 ⟨rfl, rfl⟩))
        all_goals
          obtain ⟨hbx1, hbl1⟩ := h6_below (by assumption)
          have Hbx1 := Lib.hid hbx1
          clear hbx1 e1 e2 hw2
          go_wp2
          exact ⟨⟨k + 1, by omega, by go_num, by rw [Hfs.out], Hbx1, hbl1⟩, by simp [intOf]; omega⟩
    · have hks : k = d.size := by omega
      have Hks := Lib.hid hks
      clear hks
      go_wp2
      go_ret
      exact ⟨by rw [← hfin.out, ← Hks.out]; rfl, hbl⟩
end Go.Proofs.YtjfcpbedmdnjcabDoor
