/- Classes of states: the contract of the program's map of them. -/
import Derived.Test.YtbcngdamligpbaaClsP
namespace Go.Proofs.Ytbcngdamligpbaa
set_option linter.unusedSimpArgs false
open Go.ChangeShapes Go.WideShapes Go.ChangeAt Go.RowKit
set_option linter.unusedVariables false

abbrev lawI : Maps.Keyed Try.prog 3 := Maps.int_keyed Try.underlying3
def ClsAns (m : List (List Int)) (w : World) (e : Ending) (w' : World) : Prop :=
  ∃ (b base : Nat) (D : MDG), e = .returned (.map (some b)) ∧ w'.ownsGroups Try.prog 3 base 3 .i64 b m.length D ∧ CD D m m.length ∧ w.heap.size ≤ b ∧ b < base ∧ Below w.heap.size w w'
theorem datum_row {w : World} {base n : Nat} {v : Value} {zs : List Int} (h : w.ownsRow base 3 1 v (n + 1) (zs.map (Value.int .i64))) : (rowDatum .i64 v zs : MDG) = .slice (lits .i64 zs) [] := by
  rcases h.2 with ⟨_, h0⟩ | ⟨g, cap, cur, rfl, _⟩
  · omega
  · rfl

set_option maxRecDepth 100000 in
set_option maxHeartbeats 6400000 in
theorem classes_any (a : Int) (m : List (List Int)) (w : World) (hg : Good a m) :
    Calls Try.prog 43 #[.agg (mvC a m.length (gridM m))] w (ClsAns m w) := by
  have n5 := hg.five
  have g1 : (mvC a m.length (gridM m))[1]? = some (.int .i64 m.length) := rfl
  have Hg := Lib.hid hg
  clear hg
  have hbl := bel_alloc (Below.refl _ w) (.cells (mvC a m.length (gridM m)) 66)
  have hmk : ∀ W : World, (Instr.makeMap 73 none).run Try.prog W = .ok (.map (some W.heap.size)) (W.alloc (.map #[] 0)) := fun W => run_makeMap _ W
  go_enter Try.func43, Try.ntmps43
  go_wp2_with (first
    | (refine wpList_load_row rfl 66 (.tmp 1) rfl w.heap.size (by simp [Act.put, Act.eval]) _ (mvC a m.length (gridM m)) _ _ (heap_alloc_new _ _) Try.underlying66 rfl mv_info ?_))
  refine (reached_any a m _ n5).mono ?_
  rintro e w2 ⟨rfl, b2⟩
  have hK1 := Lib.hid (bel_block b2 (by rw [← size1]; omega) (heap_alloc_new w (.cells (mvC a m.length (gridM m)) 66)))
  have hlt1 : w.heap.size < w2.heap.size := by have := b2.size; rw [← size1] at this; omega
  have b3 := bel_alloc (bel_trans hbl b2) (.cells (marC (reachG m m.length m.length)) 90)
  have hlt2 : w2.heap.size < (w2.alloc (.cells (marC (reachG m m.length m.length)) 90)).heap.size := by rw [← size1]; omega
  have e1 := (cell_of_row ((w2.alloc (.cells (marC (reachG m m.length m.length)) 90)).alloc (.map #[] 0)) w.heap.size 1 _ _ _ ((heap_alloc_old _ _ (Nat.lt_trans hlt1 hlt2)).trans ((heap_alloc_old _ _ hlt1).trans hK1.out))).trans g1
  go_wp2_with (first
    | (refine wpList_alloc_row rfl 90 rfl (marC noB) (mar_zero _) ?_)
    | (refine wpList_store_new (k := w2.heap.size) (c' := marC (reachG m m.length m.length)) rfl 90 (.tmp 3) (.tmp 8) rfl rfl ?_ ?_ mar_info rfl (marC_one _) ?_; (· simp [Act.put, Act.eval]); (· simp [Act.put, Act.eval])))
  have hmade := World.ownsGroups_made (H := Unit) (w2.alloc (.cells (marC (reachG m m.length m.length)) 90)) Try.prog 3 3 .i64
  have hM0 := Lib.hid ((heap_alloc_new w2 (.cells (marC (reachG m m.length m.length)) 90)))
  obtain ⟨W2, hW2⟩ : ∃ W2, w2.alloc (.cells (marC (reachG m m.length m.length)) 90) = W2 := ⟨_, rfl⟩
  have hWs : W2.heap.size = w2.heap.size + 1 := by rw [← hW2, ← size1]
  rw [hW2] at hmade hlt2 b3 e1 hM0
  rw [hW2]
  have hb00 : Below (w2.heap.size + 1) W2 (W2.alloc (.map #[] 0)) := hWs ▸ bel_alloc (Below.refl _ W2) (.map #[] 0)
  have hs0 : w.heap.size ≤ w2.heap.size + 1 := hWs ▸ b3.size
  rw [hWs] at hmade hlt2
  have Hmade := Lib.hid hmade
  have HWs := Lib.hid hWs
  clear hmade e1 hW2 hWs
  go_loopw [12] (fun x wr => ∃ (k : Nat) (D : MDG), k ≤ m.length ∧ x = .int .i64 k ∧ Hid (CD D m k) ∧ Hid (wr.ownsGroups Try.prog 3 (w2.heap.size + 1 + 1) 3 .i64 (w2.heap.size + 1) k D) ∧ Below (w2.heap.size + 1) W2 wr) (fun x _ => m.length - (intOf x).toNat)
  case atStart => exact ⟨0, .map [], Nat.zero_le _, rfl, Lib.hid (CD.nil m), Hmade, hb00⟩
  case round =>
    obtain ⟨k, D, hk, rfl, hC, hO, hb⟩ := hrel
    obtain ⟨wa, rfl⟩ : ∃ wa : World, wa = wr := ⟨_, rfl⟩
    have hK := Lib.hid ((hb.block w2.heap.size hlt2).trans hM0.out)
    by_cases hlt : k < m.length
    · obtain ⟨hf1, hf2, hf3⟩ := frs_spec m k
      have Hf2 := Lib.hid hf2
      have Hf3 := Lib.hid hf3
      clear hf2 hf3
      go_wp2_with fail
      go_loop [6] (fun y => ∃ f : Nat, f ≤ frs m k ∧ y = .int .i64 f) (fun y => 5 - (intOf y).toNat)
      case atStart => exact ⟨0, Nat.zero_le _, rfl⟩
      case round =>
        obtain ⟨f, hf, rfl⟩ := hrel
        have k1 : (k : Int) < 5 := by omega
        have k2 : (f : Int) < 5 := by omega
        have e2 := (cell_of_row wa w2.heap.size (f * 5 + k) _ _ _ hK.out).trans (marC_get _ (f * 5 + k) (by omega))
        have e3 := (cell_of_row wa w2.heap.size (k * 5 + f) _ _ _ hK.out).trans (marC_get _ (k * 5 + f) (by omega))
        rw [reachG_at _ _ _ _ _ (by omega) hlt (by omega)] at e2
        rw [reachG_at _ _ _ _ _ hlt (by omega) (by omega)] at e3
        have e2' : wa.cell? ⟨w2.heap.size, f * 5 + k, none⟩ = some (.bool (rchB m f k)) := e2
        have e3' : wa.cell? ⟨w2.heap.size, k * 5 + f, none⟩ = some (.bool (rchB m k f)) := e3
        clear e2 e3
        have stepF : ∀ (h : clsB m f k = false), Hid (f + 1 ≤ frs m k) := fun h => Lib.hid (by
          rcases Nat.lt_or_ge f (frs m k) with q | q
          · exact q
          · have : f = frs m k := by omega
            have h2 := Hf2.out
            rw [← this, h] at h2
            cases h2)
        cases hr1 : rchB m f k with
        | false =>
          have hS := stepF (clsB_no1 hr1)
          rw [hr1] at e2'
          clear hr1 stepF
          go_wp2_with fail
          exact ⟨⟨f + 1, hS.out, by go_num⟩, by simp [intOf]; omega⟩
        | true =>
          cases hr2 : rchB m k f with
          | false =>
            have hS := stepF (clsB_no2 hr2)
            rw [hr1] at e2'
            rw [hr2] at e3'
            clear hr1 hr2 stepF
            go_wp2_with fail
            exact ⟨⟨f + 1, hS.out, by go_num⟩, by simp [intOf]; omega⟩
          | true =>
            have hfe : f = frs m k := by
              rcases Nat.lt_or_ge f (frs m k) with q | q
              · have := Hf3.out f q
                rw [clsB_yes hr1 hr2] at this
                cases this
              · omega
            have Hfe := Lib.hid hfe
            rw [hr1] at e2'
            rw [hr2] at e3'
            clear hr1 hr2 stepF hfe
            have hkey : keyOf Try.prog 3 (.int .i64 f) = some (kI f) := Maps.keyOf_int_mk Try.underlying3 (Go.WalkArith.wf_i64 (by omega))
            have Hkey := Lib.hid hkey
            have hwk : (Lit.int .i64 (k : Int)).wf = true := Go.WalkArith.wf_i64 (by omega)
            have Hwk := Lib.hid hwk
            obtain ⟨i0, hi, hz0, hz1, hz2⟩ := info_parts info_int
            have HI := Lib.hid (And.intro hi (And.intro hz0 (And.intro hz1 hz2)))
            have hsW := Lib.hid hb.size
            have HBa : Hid (w2.heap.size + 1 + 1 ≤ wa.heap.size + 1) := Lib.hid (by have := hsW.out; have := HWs.out; omega)
            clear hkey hwk hi hz0 hz1 hz2
            go_wp2_with (first
              | (at_lookup; refine wpList_lookup_groups _ rfl _ _ 73 rfl 3 25 3 .i64 lawI Try.underlying73 (Try.zeroValue25 _) (w2.heap.size + 1 + 1) (w2.heap.size + 1) k D rfl hO.out (by unfold maxLen; omega) _ (kI f) rfl Hkey.out ?_; intro v zs hat hoi hzl hback; have hzs := Lib.hid (grp_of hC.out hat hoi); have Hoi := Lib.hid hoi; have Hback := Lib.hid hback; clear hat hoi hback)
              | (at_builtin; refine wpList_append_own_at _ rfl (.tmp 35) (.tmp 37) 25 rfl (w2.heap.size + 1 + 1) 3 i0 (.int .i64 0) 1 8 Try.underlying25 HI.out.1 HI.out.2.1 HI.out.2.2.1 HI.out.2.2.2 rfl (by decide) v zs.length (zs.map (Value.int .i64)) rfl (Hoi.out.1.alloc _) ⟨wa.heap.size, 0, none⟩ 1 1 [.int .i64 k] rfl rfl (cell_one_new _ _ _) (by intro y hy; simp at hy; subst hy; rfl) (by unfold maxLen; omega) (by omega) (by rw [← size1]; exact HBa.out) ?_; intro v4 w4 hown4 hgrow4 _ hat4; have Hown4 := Lib.hid hown4; have Hgrow4 := Lib.hid hgrow4; have Hat4 := Lib.hid hat4; clear hown4 hgrow4 hat4)
              | (at_mapUpdate; refine wpList_mapUpdate_back _ rfl _ _ _ 73 rfl Hback.out rfl rfl rfl ((World.grownBy_alloc _ _ _).trans Hgrow4.out) (Hoi.out.appended Hown4.out Hwk.out) (by simp; omega) (Hat4.out.imp id (fun e => ⟨_, e, by rw [← size1]; omega⟩)) ?_; intro w5 hO5 hg5))
            have hd : (rowDatum .i64 v4 (zs ++ [(k : Int)]) : MDG) = .slice (lits .i64 (zs ++ [(k : Int)])) [] := datum_row (n := zs.length) (by simpa using Hown4.out)
            have hCD := hC.out.put Hg.out
            rw [← Hfe.out, ← hzs.out, ← hd] at hCD
            exact ⟨⟨k + 1, _, by omega, by go_num, Lib.hid hCD, Lib.hid hO5, RowKit.Below.groups hb Hoi.out ((World.grownBy_alloc _ _ _).trans Hgrow4.out) hg5 (by have := HBa.out; omega) (by omega) (Nat.le_refl _)⟩, by simp [intOf]; omega⟩
    · obtain rfl : m.length = k := by omega
      have hnk : ¬ ((m.length : Int) < (m.length : Int)) := by omega
      go_wp2_with fail
      go_ret
      exact ⟨_, _, D, rfl, hO.out, hC.out, hs0, by omega, bel_trans b3 (by rw [HWs.out]; exact hb)⟩
end Go.Proofs.Ytbcngdamligpbaa
