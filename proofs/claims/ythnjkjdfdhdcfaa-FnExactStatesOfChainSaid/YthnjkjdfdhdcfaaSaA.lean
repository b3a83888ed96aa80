/- The model's numerators behind so many steps, by chances or by ones. -/
import Derived.Test.YthnjkjdfdhdcfaaAfter
namespace Go.Proofs.Ythnjkjdfdhdcfaa
open Go.ChangeShapes Go.WideShapes Go.ChangeAt Go.RowKit
set_option linter.unusedVariables false

def rowL (h : Nat → Int) (n : Nat) : List Int := (List.range n).map h
theorem rowL_len (h : Nat → Int) (n : Nat) : (rowL h n).length = n := by simp [rowL]
theorem rowL_get (h : Nat → Int) {n k : Nat} (hk : k < n) : (rowL h n).getD k 0 = h k := getD_map_range h n k 0 hk
theorem rowL_set (h : Nat → Int) (n k : Nat) (x : Int) : (rowL h n).set k x = rowL (upd h k x) n := by
  apply List.ext_getElem
  · simp [rowL]
  · intro j h1 h2
    simp only [List.getElem_set, rowL, List.getElem_map, List.getElem_range, upd]
    by_cases e : k = j
    · subst e; simp
    · rw [if_neg e, if_neg (fun e' => e e'.symm)]
theorem rowL_zer (n : Nat) : rowL zer n = List.replicate n 0 := by
  apply List.ext_getElem
  · simp [rowL]
  · intro j h1 h2; simp [rowL, zer]
theorem rowL_congr {h h' : Nat → Int} {n : Nat} (e : ∀ q, q < n → h q = h' q) : rowL h n = rowL h' n := by
  unfold rowL
  apply List.map_congr_left
  intro q hq
  exact e q (List.mem_range.1 hq)

/-- The sign of a number. -/
def sig (x : Int) : Int := if 0 < x then 1 else if x < 0 then -1 else 0
theorem l1Sign_any (x : Int) (w : World) : Calls Try.prog 109 #[.int .i64 x] w fun e w' => e = .returned (.int .i64 (sig x)) ∧ w = w' := by
  by_cases h : 0 < x
  · rw [show sig x = 1 from by simp [sig, h]]
    go_enter Try.func109, Try.ntmps109
    go_wp2
    go_ret
    exact ⟨rfl, rfl⟩
  · by_cases h2 : x < 0
    · rw [show sig x = -1 from by simp [sig, h, h2]]
      go_enter Try.func109, Try.ntmps109
      go_wp2
      go_ret
      exact ⟨rfl, rfl⟩
    · rw [show sig x = 0 from by simp [sig, h, h2]]
      go_enter Try.func109, Try.ntmps109
      go_wp2
      go_ret
      exact ⟨rfl, rfl⟩
/-- The chances that are summed up: those of m, or ones. -/
def wayM (ways : Bool) (m : List (List Int)) (i j : Nat) : Int := if ways then sig (atM m i j) else atM m i j
theorem wayM_in {lim : Int} {m : List (List Int)} (h : Good lim m) (ways : Bool) (i j : Nat) : 0 ≤ wayM ways m i j ∧ wayM ways m i j ≤ 10 := by
  obtain ⟨a, b⟩ := h.num i j
  have := h.hi
  unfold wayM sig
  cases ways
  · exact ⟨a, by simp; omega⟩
  · simp
    split
    · omega
    · split <;> omega
theorem aftL0 (f : Nat → Nat → Int) (n frm : Nat) : (List.replicate n (0 : Int)).set frm 1 = rowL (aft f n frm 0) n := by
  rw [← rowL_zer, rowL_set]
  apply rowL_congr
  intro q _
  simp [upd, aft, zer]

set_option maxRecDepth 100000 in
set_option maxHeartbeats 6400000 in
theorem saAfter_any (lim : Int) (m : List (List Int)) (v : Value) (B : Nat) (frm K : Nat) (ways : Bool) (w : World) (h : RdM w B v m) (hB : B ≤ w.heap.size) (hg : Good lim m) (hf : frm < m.length) (hK : K ≤ 8) :
    Calls Try.prog 76 #[sts lim v, .int .i64 frm, .int .i64 K, .bool ways] w fun e w' => ∃ u, e = .returned u ∧ IRow w' w.heap.size u (rowL (aft (wayM ways m) m.length frm K) m.length) ∧ Below w.heap.size w w' := by
  obtain ⟨A, cap, rfl, l0, m0⟩ := h.form
  unfold maxLen at m0
  have hbl := bel_alloc (Below.refl _ w) (.cells #[.int .i64 lim, .slice A m.length cap] 27)
  have H := Lib.hid ((h.below hbl hB).more (Nat.le_trans hB hbl.size))
  have bx := Lib.hid (Box2.new w (.int .i64 lim) (.slice A m.length cap) 27)
  have n1 := hg.one
  have n5 := hg.five
  have HG := Lib.hid hg
  have hmk := mk_ints m.length (by omega)
  have hI0 := Lib.hid (IRow.made (w.alloc (.cells #[.int .i64 lim, .slice A m.length cap] 27)) m.length (by omega))
  have k1 : (frm : Int) < (m.length : Int) := by omega
  clear h hg
  generalize hN : m.length = N at *
  have HN := Lib.hid hN
  clear hN
  go_enter Try.func76, Try.ntmps76
  go_wp2_with fail
  have hI1 : Hid (∀ W' : World, W' = ((w.alloc (.cells #[.int .i64 lim, .slice A N cap] 27)).alloc (.cells ((Array.replicate N (.int .i64 0)).setIfInBounds frm (.int .i64 1)) 3)) → IRow W' (w.heap.size + 1) (.slice (some ⟨w.heap.size + 1, 0, none⟩) N N) (rowL (aft (wayM ways m) N frm 0) N)) := by
    rintro W' rfl
    have q := hI0.out
    have hl : (List.replicate N (0 : Int)).length = N := List.length_replicate
    rw [← size1] at q
    have q2 := (IRow.store (g := w.heap.size + 1) (cap := N) (by rw [hl]; exact q) frm 1).1
    rw [hl, aftL0 (wayM ways m), World.setCell_alloc_at _ _ _ _ _ (size1 _ _)] at q2
    exact q2
  go_loopw [2, 9] (fun x u wa => ∃ k r : Nat, k + r = K ∧ x = .int .i64 r ∧ Hid (IRow wa w.heap.size u (rowL (aft (wayM ways m) N frm k) N)) ∧ Hid (Box2 wa w.heap.size (.int .i64 lim) (.slice A N cap)) ∧ Below (w.alloc (.cells #[.int .i64 lim, .slice A N cap] 27)).heap.size (w.alloc (.cells #[.int .i64 lim, .slice A N cap] 27)) wa) (fun x _ _ => (intOf x).toNat)
  case atStart =>
    have b0 := bel_alloc (Below.refl _ (w.alloc (.cells #[.int .i64 lim, .slice A N cap] 27))) (.cells ((Array.replicate N (.int .i64 0)).setIfInBounds frm (.int .i64 1)) 3)
    exact ⟨0, K, by omega, rfl, (hI1.out _ rfl).mono (by omega), bx.out.keep b0, b0⟩
  case round =>
    obtain ⟨k, r, hkr, rfl, hI, hbx, hba⟩ := hrel
    obtain ⟨wa, rfl⟩ : ∃ wa : World, wa = wr := ⟨_, rfl⟩
    obtain ⟨c0, c1, c2⟩ := hbx.out
    obtain ⟨A2, cap2, rfl, l2, m2⟩ := hI.out.rd.form
    by_cases hr : r = 0
    · subst hr
      obtain rfl : k = K := by omega
      go_wp2_with fail
      go_ret
      exact ⟨_, rfl, hI.out, bel_trans hbl hba⟩
    · have hr0 : 0 < r := by omega
      clear hr
      rw [rowL_len] at l2
      rw [rowL_len]
      have hI2 := Lib.hid hI.out.rd
      have hN0 := Lib.hid (IRow.made wa N (by omega))
      have hS0 : Hid (List.replicate N (0 : Int) = rowL (partS (wayM ways m) (aft (wayM ways m) N frm k) 0 0) N) := by
        refine Lib.hid ?_
        rw [partS_zero, rowL_zer]
      have hb50 := aft_in (wayM ways m) N frm n5 (wayM_in HG.out ways) k
      have hfif := fifty k (by omega)
      have hH : Hid (∀ i, 0 ≤ aft (wayM ways m) N frm k i ∧ aft (wayM ways m) N frm k i ≤ 10000000000000000) := fun i => ⟨(hb50 i).1, Int.le_trans (hb50 i).2 (by omega)⟩
      have hAll := Lib.hid (partS_all (wayM ways m) (aft (wayM ways m) N frm k) N)
      have hAft : Hid ((fun q => psum (wayM ways m) (aft (wayM ways m) N frm k) q N) = aft (wayM ways m) N frm (k + 1)) := rfl
      clear hb50 hfif
      generalize hF : wayM ways m = F at *
      generalize hh : aft F N frm k = h at *
      have Hh := Lib.hid hh
      have HF := Lib.hid hF
      clear hh hF
      go_wp2_with fail
      go_loopw [32] (fun x wb => ∃ i : Nat, i ≤ N ∧ x = .int .i64 i ∧ Hid (IRow wb wa.heap.size (.slice (some ⟨wa.heap.size, 0, none⟩) N N) (rowL (partS F h i 0) N)) ∧ Below wa.heap.size wa wb) (fun x _ => N - (intOf x).toNat)
      case atStart => exact ⟨0, by omega, rfl, by rw [← hS0.out]; exact hN0.out, bel_alloc (Below.refl _ _) _⟩
      case round =>
        obtain ⟨i, hi, rfl, hJ, hbb⟩ := hrel
        obtain ⟨wb, rfl⟩ : ∃ wb : World, wb = wr := ⟨_, rfl⟩
        obtain ⟨d0, d1, d2⟩ := hbx.out.keep hbb
        by_cases hlt : i < N
        · obtain ⟨ad, rfl, _, e0⟩ := (hI2.out.below hbb (Nat.le_refl _)).at_ (k := i) (by rw [rowL_len]; exact hlt)
          rw [rowL_get _ hlt] at e0
          have hab := hba.trans (hbb.mono hba.size)
          obtain ⟨ae, A', cap', rfl, _, e1, r0, hl0, hm0⟩ := (H.out.below hab (Nat.le_refl _)).at_ (k := i) (by rw [HN.out]; exact hlt)
          have R0 := Lib.hid r0
          have hrow := Lib.hid (HG.out.row i (by rw [HN.out]; exact hlt))
          rw [hrow.out, HN.out] at e1 hl0 R0
          have hZr := Lib.hid (partS_row F h i N (fun q hq => by
            rw [← HF.out]
            have : atM m i q = 0 := by unfold atM; rw [getD_out _ q _ (by rw [hrow.out, HN.out]; exact hq)]
            unfold wayM sig
            rw [this]
            cases ways <;> simp))
          have hat := Lib.hid (fun j => show (m.getD i []).getD j 0 = atM m i j from rfl)
          generalize m.getD i [] = xs at *
          have hxl : xs.length = N := by rw [hrow.out]; exact HN.out
          have HXL := Lib.hid hxl
          obtain ⟨y0, y1⟩ := hH.out i
          clear r0 hxl hab
          generalize hy : h i = y at *
          have Hy := Lib.hid hy
          clear hy
          go_wp2_with fail
          go_loopw [43] (fun x wc => ∃ j : Nat, j ≤ N ∧ x = .int .i64 j ∧ Hid (IRow wc wa.heap.size (.slice (some ⟨wa.heap.size, 0, none⟩) N N) (rowL (partS F h i j) N)) ∧ Below wa.heap.size wa wc) (fun x _ => N - (intOf x).toNat)
          case atStart => exact ⟨0, by omega, rfl, hJ, hbb⟩
          case round =>
            obtain ⟨j, hj, rfl, hJ2, hbc⟩ := hrel
            obtain ⟨wc, rfl⟩ : ∃ wc : World, wc = wr := ⟨_, rfl⟩
            obtain ⟨f0, f1, f2⟩ := hbx.out.keep hbc
            by_cases hlj : j < N
            · have r1 := RdI.keep (w' := wc) R0.out fun p hp => (hbc.cell (Nat.lt_of_lt_of_le hp hba.size)).trans (hbb.cell (Nat.lt_of_lt_of_le hp hba.size)).symm
              rw [← HXL.out] at r1
              obtain ⟨af, rfl, _, e2⟩ := r1.at_ (k := j) (by rw [HXL.out]; exact hlj)
              have hjr : IRow wc wa.heap.size (.slice (some ⟨wa.heap.size, 0, none⟩) (rowL (partS F h i j) N).length N) (rowL (partS F h i j) N) := by rw [rowL_len]; exact hJ2.out
              have e3 := hjr.at_ (g := wa.heap.size) j (by rw [rowL_len]; exact hlj)
              have e4 := World.ownsRow.frozenAt hjr j
              rw [rowL_get _ hlj] at e3
              have hp : partS F h i j j = psum F h j i := by simp [partS]
              obtain ⟨q0, q1⟩ := psum_inB F h j 10000000000000000 (fun i => by rw [← HF.out]; exact wayM_in HG.out ways i j) hH.out i
              rw [← hp] at q0 q1
              have hz : 0 ≤ F i j ∧ F i j ≤ 10 := by rw [← HF.out]; exact wayM_in HG.out ways i j
              have t0 : 0 ≤ y * F i j := Int.mul_nonneg y0 hz.1
              have t1 : y * F i j ≤ 10000000000000000 * 10 := Int.mul_le_mul y1 hz.2 hz.1 (by omega)
              have hst := IRow.store hjr j (partS F h i j j + y * F i j)
              rw [rowL_set, rowL_len, show upd (partS F h i j) j (partS F h i j j + y * F i j) = partS F h i (j + 1) from by rw [← Hy.out]; exact partS_next F h i j] at hst
              obtain ⟨hs1, hs2⟩ := hst
              have Hs1 := Lib.hid hs1
              have hbc2 := hbc.grown hs2 hbc.size (fun q hq => by injection hq with hq; omega)
              have hFz : Hid (F i j = if ways then sig (xs.getD j 0) else xs.getD j 0) := by
                refine Lib.hid ?_
                rw [← HF.out, hat.out]; rfl
              have w1 : IntKind.i64.wrap (y * F i j) = y * F i j := IntWalk.i64_in _ (by omega)
              have w2 : IntKind.i64.wrap (partS F h i j j + y * F i j) = partS F h i j j + y * F i j := IntWalk.i64_in _ (by omega)
              clear hs1 hs2 hp
              generalize partS F h i j j = p at *
              generalize F i j = z at *
              generalize xs.getD j 0 = z2 at *
              cases ways with
              | false =>
                obtain rfl : z = z2 := by simpa using hFz.out
                clear hFz
                go_wp2_with fail
                exact ⟨⟨j + 1, by omega, by go_num, Hs1, hbc2⟩, by simp [intOf]; omega⟩
              | true =>
                obtain hzz : z = sig z2 := by simpa using hFz.out
                have Hz := Lib.hid hzz.symm
                clear hFz hzz
                go_wp2_with fail
                refine (l1Sign_any z2 _).mono ?_
                rintro e w' ⟨rfl, rfl⟩
                rw [Hz.out]
                go_wp2_with fail
                exact ⟨⟨j + 1, by omega, by go_num, Hs1, hbc2⟩, by simp [intOf]; omega⟩
            · obtain rfl : j = N := by omega
              go_wp2_with fail
              exact ⟨⟨i + 1, by omega, by go_num, by rw [← hZr.out]; exact hJ2, hbc⟩, by simp [intOf]; omega⟩
        · obtain rfl : i = N := by omega
          go_wp2_with fail
          refine ⟨⟨k + 1, r - 1, by omega, by rw [show ((r : Int) - 1) = ((r - 1 : Nat) : Int) from by omega], ?_, ?_, ?_⟩, by simp [intOf]; omega⟩
          · rw [hAll.out, hAft.out] at hJ
            exact hJ.out.mono (Nat.le_trans hbl.size hba.size)
          · exact hbx.out.keep hbb
          · exact hba.trans (hbb.mono hba.size)
end Go.Proofs.Ythnjkjdfdhdcfaa
