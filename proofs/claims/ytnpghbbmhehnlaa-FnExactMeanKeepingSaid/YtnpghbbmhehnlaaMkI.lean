/- MeanKeeping: the contract of the program. -/
import Derived.Test.YtnpghbbmhehnlaaMkP
import Derived.Maps.OwnSet
import Derived.Maps.OwnOps
import Derived.WalkMore
namespace Go.Proofs.Ytnpghbbmhehnlaa
open Go.ChangeShapes Go.WideShapes Go.ChangeAt Go.RowKit
set_option linter.unusedVariables false

abbrev MD := DataW Unit
def pairL : List Value → Option (MD × List MemPlace)
  | [.int q a, .int r b] => if q = .i64 ∧ r = .i64 then some (.agg [.lit (.int .i64 a), .lit (.int .i64 b)], []) else none
  | _ => none
def pairE (v : Value) : Option (MD × List MemPlace) :=
  match v with
  | .agg cs => pairL cs.toList
  | _ => none
theorem pairE_mk (a b : Int) : pairE (.agg #[.int .i64 a, .int .i64 b]) = some (.agg [.lit (.int .i64 a), .lit (.int .i64 b)], []) := rfl
theorem pairE_inv {v : Value} {z : MD × List MemPlace} (h : pairE v = some z) : ∃ a b, v = .agg #[.int .i64 a, .int .i64 b] ∧ z.1 = .agg [.lit (.int .i64 a), .lit (.int .i64 b)] := by
  cases v with
  | agg cs =>
    obtain ⟨l⟩ := cs
    change pairL l = some z at h
    unfold pairL at h
    split at h
    · split at h
      · rename_i hq
        obtain ⟨rfl, rfl⟩ := hq
        cases h
        exact ⟨_, _, rfl, rfl⟩
      · cases h
    · cases h
  | _ => cases h
abbrev pairD (a b : Int) : MD := .agg [.lit (.int .i64 a), .lit (.int .i64 b)]
theorem pairD_inj {a b c d : Int} (h : pairD a b = pairD c d) : a = c ∧ b = d := by
  injection h with h
  injection h with h1 h2
  injection h1 with h1
  injection h1 with _ h1
  injection h2 with h2 _
  injection h2 with h2
  injection h2 with _ h2
  exact ⟨h1, h2⟩
def kL (s j : Nat) : Lit := .int .i64 (lf s j)
theorem kL_inj {s i j : Nat} (h : kL s i = kL s j) : lf s i = lf s j := by
  injection h with _ h
  omega
/-- The map holds what all texts of fewer than i tosses have come to. -/
structure MK (D : MD) (s i : Nat) : Prop where
  map : Maps.IsMap D
  at_ : ∀ j, j < i → ∀ z, D.atKey (kL s j) z = pairD (tx j : Int) (rd s j)
  key : ∀ kl, Maps.has D kl = true → ∃ j, j < i ∧ kl = kL s j
  has : ∀ j, j < i → Maps.has D (kL s j) = true
theorem MK.put {D : MD} {s i : Nat} (h : MK D s i) (hne : ∀ j, j < i → lf s j ≠ lf s i) : MK (D.put (kL s i) (pairD (tx i : Int) (rd s i))) s (i + 1) := by
  have ho : ∀ j, j < i → kL s j ≠ kL s i := fun j hj e => hne j hj (kL_inj e)
  refine ⟨h.map.put _ _, fun j hj z => ?_, fun kl hh => ?_, fun j hj => ?_⟩
  · by_cases e : j = i
    · subst e; exact Maps.atKey_put_same h.map (show WideAt.IsKeyLit (kL s j) from trivial) _ _
    · rw [Maps.atKey_put_other (ho j (by omega))]; exact h.at_ j (by omega) z
  · by_cases e : kl = kL s i
    · exact ⟨i, by omega, e⟩
    · rw [Maps.has_put_other e] at hh
      obtain ⟨j, hj, e2⟩ := h.key kl hh
      exact ⟨j, by omega, e2⟩
  · by_cases e : j = i
    · subst e; exact Maps.has_put_same h.map (show WideAt.IsKeyLit (kL s j) from trivial) _
    · rw [Maps.has_put_other (ho j (by omega))]; exact h.has j (by omega)
theorem MK.no {D : MD} {s i : Nat} (h : MK D s i) (hne : ∀ j, j < i → lf s j ≠ lf s i) : Maps.has D (kL s i) = false := by
  cases hh : Maps.has D (kL s i)
  · rfl
  · obtain ⟨j, hj, e⟩ := h.key _ hh
    exact absurd (kL_inj e).symm (hne j hj)

theorem MK.nil (s : Nat) : MK (.map []) s 0 := ⟨Maps.isMap_empty, fun j hj => absurd hj (Nat.not_lt_zero j), fun kl hh => (by cases hh), fun j hj => absurd hj (Nat.not_lt_zero j)⟩
theorem mk_box (w : World) (t : TypeId) : Box2 (((w.alloc (.map #[] 0)).alloc (.cells #[.int .i64 1, .int .i64 0] t)).drew) (w.heap.size + 1) (.int .i64 1) (.int .i64 0) := by
  have h := Box2.new (w.alloc (.map #[] 0)) (.int .i64 1) (.int .i64 0) t
  have e : (w.alloc (.map #[] 0)).heap.size = w.heap.size + 1 := by show (w.heap.push _).size = _; simp
  rw [e] at h
  exact h
theorem pairE_val {v : Value} {d : MD} {ps : List MemPlace} {a b : Int} (h : pairE v = some (d, ps)) (hd : d = pairD a b) : v = .agg #[.int .i64 a, .int .i64 b] := by
  obtain ⟨x, y, rfl, e⟩ := pairE_inv h
  obtain ⟨rfl, rfl⟩ := pairD_inj (e.symm.trans hd)
  rfl
/-- A box that can be written. -/
def BoxW (w : World) (k : Nat) (x y : Value) : Prop := Box2 w k x y ∧ w.frozen? ⟨k, 0, none⟩ = false ∧ w.frozen? ⟨k, 1, none⟩ = false
theorem BoxW.grown {w w' : World} {k b : Nat} {x y : Value} (h : BoxW w k x y) (hg : w.grownBy w' (some b)) (hne : k ≠ b) : BoxW w' k x y := by
  have e := hg.block k h.1.2.2 (by simpa using hne)
  have ec : ∀ o, w'.cell? ⟨k, o, none⟩ = w.cell? ⟨k, o, none⟩ := fun o => by unfold World.cell?; simp only [e]
  have ef : ∀ o, w'.frozen? ⟨k, o, none⟩ = w.frozen? ⟨k, o, none⟩ := fun o => by unfold World.frozen?; simp only [e]
  exact ⟨⟨(ec 0).trans h.1.1, (ec 1).trans h.1.2.1, Nat.lt_of_lt_of_le h.1.2.2 hg.size⟩, (ef 0).trans h.2.1, (ef 1).trans h.2.2⟩
theorem BoxW.keep {w w1 : World} {k : Nat} {x y : Value} (h : BoxW w k x y) (hb : Below w.heap.size w w1) : BoxW w1 k x y :=
  ⟨h.1.keep hb, (hb.frozen (p := ⟨k, 0, none⟩) h.1.2.2).trans h.2.1, (hb.frozen (p := ⟨k, 1, none⟩) h.1.2.2).trans h.2.2⟩
theorem BoxW.set {w : World} {k : Nat} {x y : Value} (h : BoxW w k x y) (a b : Value) : BoxW ((w.setCell ⟨k, 0, none⟩ a).setCell ⟨k, 1, none⟩ b) k a b := by
  obtain ⟨⟨h0, h1, h2⟩, h3, h4⟩ := h
  refine ⟨⟨?_, ?_, ?_⟩, ?_, ?_⟩
  all_goals simp [go_sem, h0, h1, h2, h3, h4]
theorem grown_one (w : World) (k o : Nat) (v : Value) : w.grownBy (w.setCell ⟨k, o, none⟩ v) (some k) :=
  ⟨rfl, rfl, rfl, by simp [World.setCell], fun j _ hj => by
    have hne : k ≠ j := fun e => hj (by rw [e])
    simp [World.setCell, Array.getElem?_modify, hne]⟩
theorem grown_set {w : World} {k : Nat} (a b : Value) : w.grownBy ((w.setCell ⟨k, 0, none⟩ a).setCell ⟨k, 1, none⟩ b) (some k) :=
  (grown_one w k 0 a).trans (grown_one _ k 1 b)
theorem set_cell0 {w : World} {k : Nat} {x y : Value} (h : BoxW w k x y) (a b : Value) : ((w.setCell ⟨k, 0, none⟩ a).setCell ⟨k, 1, none⟩ b).cell? ⟨k, 0, none⟩ = some a := (h.set a b).1.1
theorem meas_lt {x y : Nat} (h : x < y) (hy : y ≤ 4096) : 5000 - (intOf (.int .i64 (y : Int))).toNat < 5000 - (intOf (.int .i64 (x : Int))).toNat := by
  simp only [intOf, Int.toNat_natCast]
  omega
theorem mk_boxW (w : World) (t : TypeId) : BoxW (((w.alloc (.map #[] 0)).alloc (.cells #[.int .i64 1, .int .i64 0] t)).drew) (w.heap.size + 1) (.int .i64 1) (.int .i64 0) :=
  ⟨mk_box w t, by have e : (w.alloc (.map #[] 0)).heap.size = w.heap.size + 1 := (by show (w.heap.push _).size = _; simp); rw [← e]; simp [go_sem], by have e : (w.alloc (.map #[] 0)).heap.size = w.heap.size + 1 := (by show (w.heap.push _).size = _; simp); rw [← e]; simp [go_sem]⟩
abbrev lawI : Maps.Keyed Try.prog 3 := Maps.int_keyed Try.underlying3
set_option maxHeartbeats 400000 in
theorem implMK_any (s : Int) (w : World) :
    Calls Try.prog 18 #[.int .i64 s] w fun e w' => e = .returned (ansMK s) ∧ Below w.heap.size w w' := by
  cases h1 : inB s 1 12
  · rw [show ansMK s = failV from by unfold ansMK; rw [h1]; rfl]
    unfold failV
    go_enter Try.func18, Try.ntmps18
    go_wp2_with fail
    refine (isDie_any s _).mono ?_
    rintro e w1 ⟨rfl, rfl⟩
    rw [h1]
    go_wp2_with fail
    go_ret3
    exact ⟨rfl, Below.refl _ _⟩
  · rw [show ansMK s = lowV (kN s.toNat) (kD s.toNat) from by unfold ansMK; rw [h1]; rfl]
    unfold lowV
    obtain ⟨s0, s1⟩ := (inB_iff _ _ _).1 h1
    obtain ⟨n, rfl⟩ := Int.eq_ofNat_of_zero_le (show 0 ≤ s by omega)
    rw [Int.toNat_natCast]
    have hn1 : 1 ≤ n := by omega
    have hn2 : n ≤ 12 := by omega
    go_enter Try.func18, Try.ntmps18
    go_wp2_with fail
    refine (isDie_any _ _).mono ?_
    rintro e w1 ⟨rfl, rfl⟩
    rw [h1]
    have hmk : ∀ W : World, (Instr.makeMap 42 none).run Try.prog W = .ok (.map (some W.heap.size)) (W.alloc (.map #[] 0)) := fun W => run_makeMap _ W
    have hr0 : (1 : Int).tmod (n : Int) = (lf n 0 : Nat) := by rw [Int.tmod_eq_emod_of_nonneg (by omega)]; unfold lf; simp
    have hr1 : (1 : Int) % (n : Int) = (lf n 0 : Nat) := by unfold lf; simp
    have hr2 : IntKind.i64.wrap ((lf n 0 : Nat) : Int) = (lf n 0 : Nat) := IntWalk.i64_in _ (by have := lf_lt n 0 hn1; omega)
    have hne : ¬ ((n : Int) = 0) := by omega
    go_wp2_with fail
    go_region
    go_wp2_with fail
    go_loopw [7] (fun l wr => ∃ (i : Nat) (D : MD), i ≤ stI n ∧ l = .int .i64 (lf n i) ∧ Hid (MK D n i) ∧ Hid (wr.ownsMap Try.prog 3 pairE w.heap.size i D) ∧ Hid (BoxW wr (w.heap.size + 1) (.int .i64 (tx i : Int)) (.int .i64 (rd n i))) ∧ Below w.heap.size w wr) (fun _ wr => 5000 - (match wr.cell? ⟨w.heap.size + 1, 0, none⟩ with | some v => (intOf v).toNat | none => 0))
    case atStart =>
      exact ⟨0, .map [], Nat.zero_le _, rfl, Lib.hid (MK.nil n), Lib.hid (((World.ownsMap_made (H := Unit) w Try.prog 3 pairE).alloc _).drew), Lib.hid (mk_boxW w _), bel_drewN (bel_alloc (bel_alloc (Below.refl _ _) _) _) 1⟩
    case round =>
      obtain ⟨i, D, hi, rfl, hM, hm, hB, hb⟩ := hrel
      have hl := lf_lt n i hn1
      have hkey : keyOf Try.prog 3 (.int .i64 (lf n i)) = some (kL n i) := Maps.keyOf_int_mk Try.underlying3 (Go.WalkArith.wf_i64 (by omega))
      have Hkey := Lib.hid hkey
      clear hkey
      obtain ⟨⟨b0, b1, b2⟩, b3, b4⟩ := hB.out
      by_cases he : i = stI n
      · obtain ⟨jl, jk⟩ := st_lt n hn2 hn1
        have hkl : kL n i = kL n (stJ n) := by unfold kL; rw [he, st_eq n hn2 hn1]
        have hhas : Maps.has D (kL n i) = true := by rw [hkl]; exact hM.out.has _ (by omega)
        have hat : D.atKey (kL n i) (pairD 0 0) = pairD (tx (stJ n) : Int) (rd n (stJ n)) := by rw [hkl]; exact hM.out.at_ _ (by omega) _
        have Hhas := Lib.hid hhas
        have Hat := Lib.hid hat
        obtain ⟨k0, k1, k2, k3⟩ := kN_in n hn2 hn1
        have e1 : (rd n i : Int) - (rd n (stJ n) : Int) = kN n := by rw [he]; rfl
        have e2 : (tx i : Int) - (tx (stJ n) : Int) = kD n := by rw [he]; rfl
        have hw1 : IntKind.i64.wrap ((rd n i : Int) - (rd n (stJ n) : Int)) = kN n := by rw [e1]; exact IntWalk.i64_in _ (by omega)
        have hw2 : IntKind.i64.wrap ((tx i : Int) - (tx (stJ n) : Int)) = kD n := by rw [e2]; exact IntWalk.i64_in _ (by omega)
        clear hhas hat hkl he e1 e2
        go_wp2_with (at_lookup; refine wpList_lookup_own_ok _ rfl _ _ 42 rfl 3 44 lawI Try.underlying42 pairE (Try.zeroValue44 _) (pairD 0 0) [] rfl w.heap.size i D rfl hm.out _ (kL n i) rfl Hkey.out ?_; intro v ps hv; rw [Hhas.out]; have ev := pairE_val hv Hat.out; rw [ev]; clear ev hv)
        refine (told_any (kN n) (kD n) _ k0 k2 (by omega) (by omega)).mono ?_
        rintro e w5 ⟨rfl, n5, rfl⟩
        go_wp2_with fail
        go_ret3
        exact ⟨rfl, bel_drewN (bel_alloc hb _) n5⟩
      · have hne : ∀ j, j < i → lf n j ≠ lf n i := fun j hj => st_ne n hn2 hn1 i j (by omega) hj
        have hhas := Lib.hid (hM.out.no hne)
        have hat := Lib.hid (Maps.atKey_of_not_has hhas.out (pairD 0 0))
        obtain ⟨_, il⟩ := st_lt n hn2 hn1
        have hi2 : i ≤ 10 := by omega
        have hi3 : i + 1 ≤ stI n := by omega
        have hMp := Lib.hid (hM.out.put hne)
        obtain ⟨t0, t1⟩ := tx_le i (by omega)
        have r0 := rd_le n i hn2 (by omega)
        have hs1 : tx (i + 1) = 2 * tx i := tx_succ i
        have hs2 : rd n (i + 1) = 2 * (rd n i + lf n i) := rfl
        have hs3 := lf_succ n i
        have Hs1 := Lib.hid hs1
        have Hs2 := Lib.hid hs2
        have Hs3 := Lib.hid hs3
        clear hne he hs1 hs2 hs3 hi
        go_wp2_with (first
          | (at_lookup; refine wpList_lookup_own_ok _ rfl _ _ 42 rfl 3 44 lawI Try.underlying42 pairE (Try.zeroValue44 _) (pairD 0 0) [] rfl w.heap.size i D rfl hm.out _ (kL n i) rfl Hkey.out ?_; intro v ps hv; rw [hhas.out]; have ev := pairE_val hv hat.out; rw [ev]; clear ev hv)
          | (at_mapUpdate; refine wpList_mapUpdate_own _ rfl _ _ _ 42 rfl 3 44 lawI Try.underlying42 pairE w.heap.size i D rfl (hm.out.alloc _) (by unfold maxLen; omega) _ _ (kL n i) rfl rfl Hkey.out _ _ (pairE_mk _ _) ?_; intro w4 hm4 hg4; have B4 := Lib.hid ((hB.out.keep (bel_alloc (Below.refl _ _) _)).grown hg4 (by omega)); have hm4' := Lib.hid hm4; have hg4' := Lib.hid hg4; clear hm4 hg4; obtain ⟨⟨x0, x1, x2⟩, x3, x4⟩ := B4.out))
        have eL : (2 * (lf n i : Int) % (n : Int)) = (lf n (i + 1) : Int) := by rw [Hs3.out]; rfl
        have eT : (2 * (tx i : Int)) = (tx (i + 1) : Int) := by rw [Hs1.out]; rfl
        have eR : (2 * ((rd n i : Int) + (lf n i : Int))) = (rd n (i + 1) : Int) := by rw [Hs2.out]; push_cast; rfl
        rw [eL, eT, eR, set_cell0 B4.out, b0]
        refine ⟨⟨i + 1, _, hi3, rfl, hMp, Lib.hid (hm4'.out.kept (grown_set _ _) (by simp)), Lib.hid (B4.out.set _ _), ?_⟩, ?_⟩
        · exact (Below.grown (bel_alloc hb _) hg4'.out (by have := hb.size; simp; omega) (fun k e => by cases e; exact Nat.le_refl _)).grown (grown_set _ _) (by have := hb.size; have := hg4'.out.size; simp at *; omega) (fun k e => by cases e; omega)
        · exact meas_lt (by rw [Hs1.out]; omega) (by rw [Hs1.out]; omega)
end Go.Proofs.Ytnpghbbmhehnlaa
