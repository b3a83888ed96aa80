/- The numbers of texts by how many signs of a pattern they end with, as the model tells them. -/
import Derived.Test.YtbfgieolehbedaaDoorSums
import Derived.Laws.MakeOwn
namespace Go.Proofs.YtbfgieolehbedaaDoor
set_option linter.unusedSimpArgs false
open Go.ChangeShapes Go.WideShapes Go.ChangeAt Go.RowKit
set_option linter.unusedVariables false

theorem madeOne (v : Value) (n : Nat) : madeCells #[v] n = Array.replicate n v := by
  apply Array.ext
  · simp [madeCells]
  · intro i h1 h2
    simp [madeCells, Nat.mod_one]
theorem mk_ints (n : Nat) (hn : n ≤ 1048576) (W : World) : (Instr.makeSlice 40 (.int .i64 n) (.int .i64 n)).run Tryd.prog W = .ok (.slice (some ⟨W.heap.size, 0, none⟩) n n) (W.alloc (.cells (Array.replicate n (.int .i64 0)) 3)) := by
  obtain ⟨i0, hi, hz0, hz1, hz2⟩ := info_parts info_int
  have h := run_make (P := Tryd.prog) W 40 3 i0 _ Tryd.underlying40 hi hz0 .i64 .i64 n n (by omega) (by omega) (by rw [hz2]; omega) (by omega)
  rw [h, hz1]
  simp [Value.cells, madeOne]
theorem IRow.made (W : World) (n : Nat) (hn : n ≤ 1048576) : IRow (W.alloc (.cells (Array.replicate n (.int .i64 0)) 3)) W.heap.size (.slice (some ⟨W.heap.size, 0, none⟩) n n) (List.replicate n 0) := by
  have h := World.ownsRow_lit (base := W.heap.size) (e := 3) (size := 1) W (Array.replicate n (.int .i64 0)) n (Nat.le_refl _) (by simp only [maxLen]; omega) (by simp)
  unfold IRow
  rw [List.length_replicate, List.map_replicate]
  simpa using h
theorem Box2.grown {w w' : World} {k : Nat} {x y : Value} {row : Option Nat} (h : Box2 w k x y) (hg : w.grownBy w' row) (hr : ∀ j, row = some j → k ≠ j) : Box2 w' k x y := by
  have e := hg.block k h.2.2 (fun e => hr k e.symm rfl)
  exact ⟨(World.cell?_of_block (w := w) (a := ⟨k, 0, none⟩) e).trans h.1, (World.cell?_of_block (w := w) (a := ⟨k, 1, none⟩) e).trans h.2.1, Nat.lt_of_lt_of_le h.2.2 hg.size⟩
theorem rowF_cell {w : World} {b g cap n : Nat} {f : Nat → Int} (h : IRow w b (.slice (some ⟨g, 0, none⟩) (n + 1) cap) (rowF n f)) (k : Nat) (hk : k ≤ n) :
    w.cell? ⟨g, k, none⟩ = some (.int .i64 (f k)) ∧ w.frozen? ⟨g, k, none⟩ = false := by
  have hl := rowF_len n f
  rw [← hl] at h
  have c := h.at_ k (by omega)
  rw [rowF_at n f k hk] at c
  exact ⟨c, World.ownsRow.frozenAt h k⟩
theorem rowF_store {w : World} {b g cap n : Nat} {f : Nat → Int} (h : IRow w b (.slice (some ⟨g, 0, none⟩) (n + 1) cap) (rowF n f)) (k : Nat) (x : Int) (f' : Nat → Int) (hx : f' k = x) (ho : ∀ i, i ≤ n → i ≠ k → f' i = f i) :
    IRow (w.setCell ⟨g, k, none⟩ (.int .i64 x)) b (.slice (some ⟨g, 0, none⟩) (n + 1) cap) (rowF n f') ∧ w.grownBy (w.setCell ⟨g, k, none⟩ (.int .i64 x)) (some g) := by
  have hl := rowF_len n f
  rw [← hl] at h
  obtain ⟨a, c⟩ := h.store k x
  rw [rowF_set n f f' k x hx ho, hl] at a
  exact ⟨a, c⟩
abbrev sH : ByteArray := ⟨#[104]⟩
abbrev sT : ByteArray := ⟨#[116]⟩
def gH (p : ByteArray) (j : Nat) : Nat := goN p j sH
def gT (p : ByteArray) (j : Nat) : Nat := goN p j sT
/-- The step of the model, in the midst of the j-th number. -/
def mid (p : ByteArray) (f : Nat → Int) (j : Nat) : Nat → Nat → Int
  | 0, k => stp (gH p) (gT p) 1 1 f j k
  | 1, k => stp (gH p) (gT p) 1 1 f j k + ind (gH p j) (1 * f j) k
  | _, k => stp (gH p) (gT p) 1 1 f (j + 1) k
theorem mid_two (p : ByteArray) (f : Nat → Int) (j k : Nat) : mid p f j 1 k + ind (gT p j) (1 * f j) k = mid p f j 2 k := by
  show stp (gH p) (gT p) 1 1 f j k + ind (gH p j) (1 * f j) k + ind (gT p j) (1 * f j) k = stp (gH p) (gT p) 1 1 f j k + con (gH p) (gT p) 1 1 f j k
  unfold con
  omega
theorem mid_in (p : ByteArray) (f : Nat → Int) (n j : Nat) (hj : j < n) (hf : ∀ i, i < n → 0 ≤ f i) (i k : Nat) : 0 ≤ mid p f j i k ∧ mid p f j i k ≤ 2 * sumJ f n := by
  have h0 := stp_nonneg (gH p) (gT p) (a := 1) (b := 1) (by omega) (by omega) j k (fun i hi => hf i (by omega))
  have h2 := stp_nonneg (gH p) (gT p) (a := 1) (b := 1) (by omega) (by omega) (j + 1) k (fun i hi => hf i (by omega))
  have l2 := stp_le (gH p) (gT p) (a := 1) (b := 1) (by omega) (by omega) (j + 1) k (fun i hi => hf i (by omega))
  have hs : ∀ m, m ≤ n → sumJ f m ≤ sumJ f n := by
    intro m hm
    induction n with
    | zero => obtain rfl : m = 0 := by omega
              exact Int.le_refl _
    | succ n ih =>
      by_cases e : m = n + 1
      · subst e; exact Int.le_refl _
      · by_cases hjn : j < n
        · have := ih hjn (fun i hi => hf i (by omega)) (by omega)
          have := hf n (by omega)
          show sumJ f m ≤ sumJ f n + f n
          omega
        · have hmn : m ≤ n := by omega
          clear ih
          have : ∀ q, m ≤ q → q ≤ n → sumJ f m ≤ sumJ f q := by
            intro q
            induction q with
            | zero => intro h1 _; obtain rfl : m = 0 := by omega
                      exact Int.le_refl _
            | succ q ihq =>
              intro h1 h2
              by_cases e2 : m = q + 1
              · subst e2; exact Int.le_refl _
              · have := ihq (by omega) (by omega)
                have := hf q (by omega)
                show sumJ f m ≤ sumJ f q + f q
                omega
          have := this n hmn (Nat.le_refl _)
          have := hf n (by omega)
          show sumJ f m ≤ sumJ f n + f n
          omega
  have hs1 := hs (j + 1) (by omega)
  have i0 := ind_in (gH p j) (show 0 ≤ 1 * f j by have := hf j hj; omega) k
  have i1 := ind_in (gT p j) (show 0 ≤ 1 * f j by have := hf j hj; omega) k
  have ht := mid_two p f j k
  match i with
  | 0 =>
    show 0 ≤ stp (gH p) (gT p) 1 1 f j k ∧ stp (gH p) (gT p) 1 1 f j k ≤ _
    have e : mid p f j 1 k = stp (gH p) (gT p) 1 1 f j k + ind (gH p j) (1 * f j) k := rfl
    have e2 : mid p f j 2 k = stp (gH p) (gT p) 1 1 f (j + 1) k := rfl
    omega
  | 1 =>
    have e : mid p f j 1 k = stp (gH p) (gT p) 1 1 f j k + ind (gH p j) (1 * f j) k := rfl
    have e2 : mid p f j 2 k = stp (gH p) (gT p) 1 1 f (j + 1) k := rfl
    omega
  | i + 2 =>
    show 0 ≤ stp (gH p) (gT p) 1 1 f (j + 1) k ∧ stp (gH p) (gT p) 1 1 f (j + 1) k ≤ _
    omega

theorem sumJ_ge {f : Nat → Int} : ∀ m, (∀ i, i < m → 0 ≤ f i) → ∀ i, i < m → f i ≤ sumJ f m
  | 0, _, i, hi => by omega
  | m + 1, h, i, hi => by
    have h0 := sumJ_nonneg m (fun j hj => h j (by omega))
    have hm := h m (by omega)
    show f i ≤ sumJ f m + f m
    by_cases e : i = m
    · subst e; omega
    · have := sumJ_ge m (fun j hj => h j (by omega)) i (by omega); omega

set_option maxRecDepth 100000 in
set_option maxHeartbeats 3200000 in
theorem ptStep_any (p : ByteArray) (f : Nat → Int) (v : Value) (b : Nat) (w : World) (h1 : 1 ≤ p.size) (h8 : p.size ≤ 8) (hI : IRow w b v (rowF p.size f)) (hf : ∀ i, i < p.size → 0 ≤ f i) (hM : sumJ f p.size ≤ 4000000000000) :
    Calls Tryd.prog 56 #[.string p, v] w (RowOne (rowF p.size (stp (gH p) (gT p) 1 1 f p.size)) w) := by
  have hmk : ∀ W : World, (Instr.makeSlice 40 (.int .i64 ((p.size : Int) + 1)) (.int .i64 ((p.size : Int) + 1))).run Tryd.prog W = .ok (.slice (some ⟨W.heap.size, 0, none⟩) (p.size + 1) (p.size + 1)) (W.alloc (.cells (Array.replicate (p.size + 1) (.int .i64 0)) 3)) := fun W => by
    have := mk_ints (p.size + 1) (by omega) W
    simpa using this
  rcases hI.form with ⟨hx, _⟩ | ⟨hx, g, cap, rfl, hbg, hgl, hlc, hcm⟩
  · have := rowF_len p.size f
    rw [hx] at this; simp at this
  · rw [rowF_len] at hx hlc ⊢
    unfold maxLen at hcm
    have hmade := Lib.hid (IRow.made w (p.size + 1) (by omega))
    have hbl0 := bel_alloc (Below.refl _ w) (.cells (Array.replicate (p.size + 1) (.int .i64 0)) 3)
    have HI := Lib.hid hI
    have HF := Lib.hid hf
    clear hI hf
    go_enter Tryd.func56, Tryd.ntmps56
    go_wp2_with fail
    go_loopw [19] (fun x wr => ∃ j : Nat, j ≤ p.size ∧ x = .int .i64 j ∧ Hid (IRow wr w.heap.size (.slice (some ⟨w.heap.size, 0, none⟩) (p.size + 1) (p.size + 1)) (rowF p.size (stp (gH p) (gT p) 1 1 f j))) ∧ Below w.heap.size w wr) (fun x _ => p.size - (intOf x).toNat)
    case atStart => exact ⟨0, by omega, rfl, by rw [show stp (gH p) (gT p) 1 1 f 0 = fun _ => 0 from rfl, rowF_zero]; exact hmade.out, hbl0⟩
    case round =>
      obtain ⟨j, hj, rfl, hrow, hb⟩ := hrel
      obtain ⟨wa, rfl⟩ : ∃ wa : World, wa = wr := ⟨_, rfl⟩
      have hsa := hb.size
      by_cases hlt : j < p.size
      · have hnow := HI.out.below hb
        have c0 := hnow.at_ j (by rw [rowF_len]; omega)
        rw [rowF_at _ _ _ (by omega)] at c0
        have bxn := Lib.hid (Box2.new wa (.string sH) (.string sT) 9)
        have hba := bel_alloc hb (.cells #[.string sH, .string sT] 9)
        have hrow2 := Lib.hid (hrow.out.below (bel_alloc (Below.refl _ wa) (.cells #[.string sH, .string sT] 9)))
        have hfj := HF.out j hlt
        have hfM : f j ≤ 4000000000000 := Int.le_trans (sumJ_ge p.size HF.out j hlt) hM
        have hglt : w.heap.size < wa.heap.size := (World.ownsRow.lt hrow.out w.heap.size rfl).2
        obtain ⟨gl, hgl2⟩ : ∃ n, n = wa.heap.size := ⟨_, rfl⟩
        have hgg : w.heap.size < gl := by omega
        rw [← hgl2] at bxn
        have Hgl := Lib.hid hgl2
        have Hglt := Lib.hid hglt
        clear hnow hrow hb hglt hgl2
        go_wp2_with fail
        rw [← Hgl.out]
        go_loopw [26] (fun x wr => ∃ i : Nat, i ≤ 2 ∧ x = .int .i64 i ∧ Hid (IRow wr w.heap.size (.slice (some ⟨w.heap.size, 0, none⟩) (p.size + 1) (p.size + 1)) (rowF p.size (mid p f j i))) ∧ Hid (Box2 wr gl (.string sH) (.string sT)) ∧ Below w.heap.size w wr) (fun x _ => 2 - (intOf x).toNat)
        case atStart => exact ⟨0, by omega, rfl, hrow2.out, bxn.out, hba⟩
        case round =>
          obtain ⟨i, hi, rfl, hrowi, hbx, hbi⟩ := hrel
          obtain ⟨wc, rfl⟩ : ∃ wc : World, wc = wr := ⟨_, rfl⟩
          obtain ⟨d0, d1, d2⟩ := hbx.out
          have hleH := goN_le p j sH
          have hleT := goN_le p j sT
          match i, hi with
          | 0, _ =>
            have hk : gH p j ≤ p.size := by show goN p j sH ≤ _; omega
            obtain ⟨e0, f0⟩ := rowF_cell hrowi.out (gH p j) hk
            obtain ⟨m0, m1⟩ := mid_in p f p.size j hlt HF.out 0 (gH p j)
            have hw1 : IntKind.i64.wrap (mid p f j 0 (gH p j) + f j) = mid p f j 0 (gH p j) + f j := IntWalk.i64_in _ (by omega)
            obtain ⟨hs1, hs2⟩ := rowF_store hrowi.out (gH p j) (mid p f j 0 (gH p j) + f j) (mid p f j 1) (by show _ + ind _ _ _ = _; unfold ind; rw [if_pos rfl, Int.one_mul]; rfl) (fun q _ hne => by show _ + ind _ _ _ = _; unfold ind; rw [if_neg (fun e => hne e.symm), Int.add_zero]; rfl)
            have Hs1 := Lib.hid hs1
            have Hbx2 := Lib.hid (hbx.out.grown hs2 (fun q e => by cases e; omega))
            have Hbel : Hid (Below w.heap.size w (wc.setCell ⟨w.heap.size, gH p j, none⟩ (.int .i64 (mid p f j 0 (gH p j) + f j)))) := hbi.setCell (Nat.le_refl _) _
            have hki : ((gH p j : Nat) : Int) < (p.size : Int) + 1 := by omega
            have hcall : ∀ W : World, Calls Tryd.prog 71 #[.string p, .int .i64 j, .string sH] W fun e w' => e = .returned (.int .i64 (gH p j)) ∧ ∃ n, w' = W.drewN n := fun W => ptGo_any p j sH W hlt h8 rfl
            have hk2 : gH p j < p.size + 1 := by omega
            clear hs1 hs2 hleH hleT hk hrowi hbi
            generalize gH p j = K at *
            generalize mid p f j 0 K = X at *
            go_wp2_with fail
            refine (hcall _).mono ?_
            rintro e w2 ⟨rfl, nq, rfl⟩
            go_wp2_with fail
            exact ⟨⟨1, by omega, rfl, Hs1.out, Hbx2.out, ⟨Hbel.out.os, Hbel.out.tape, Hbel.out.output, Hbel.out.size, Hbel.out.block⟩⟩, by simp [intOf]⟩
          | 1, _ =>
            have hk : gT p j ≤ p.size := by show goN p j sT ≤ _; omega
            obtain ⟨e0, f0⟩ := rowF_cell hrowi.out (gT p j) hk
            obtain ⟨m0, m1⟩ := mid_in p f p.size j hlt HF.out 1 (gT p j)
            have hw1 : IntKind.i64.wrap (mid p f j 1 (gT p j) + f j) = mid p f j 1 (gT p j) + f j := IntWalk.i64_in _ (by omega)
            obtain ⟨hs1, hs2⟩ := rowF_store hrowi.out (gT p j) (mid p f j 1 (gT p j) + f j) (mid p f j 2) (by rw [← mid_two]; unfold ind; rw [if_pos rfl, Int.one_mul]) (fun q _ hne => by rw [← mid_two]; unfold ind; rw [if_neg (fun e => hne e.symm), Int.add_zero])
            have Hs1 := Lib.hid hs1
            have Hbx2 := Lib.hid (hbx.out.grown hs2 (fun q e => by cases e; omega))
            have Hbel : Hid (Below w.heap.size w (wc.setCell ⟨w.heap.size, gT p j, none⟩ (.int .i64 (mid p f j 1 (gT p j) + f j)))) := hbi.setCell (Nat.le_refl _) _
            have hki : ((gT p j : Nat) : Int) < (p.size : Int) + 1 := by omega
            have hcall : ∀ W : World, Calls Tryd.prog 71 #[.string p, .int .i64 j, .string sT] W fun e w' => e = .returned (.int .i64 (gT p j)) ∧ ∃ n, w' = W.drewN n := fun W => ptGo_any p j sT W hlt h8 rfl
            have hk2 : gT p j < p.size + 1 := by omega
            clear hs1 hs2 hleH hleT hk hrowi hbi
            generalize gT p j = K at *
            generalize mid p f j 1 K = X at *
            go_wp2_with fail
            refine (hcall _).mono ?_
            rintro e w2 ⟨rfl, nq, rfl⟩
            go_wp2_with fail
            exact ⟨⟨2, by omega, rfl, Hs1.out, Hbx2.out, ⟨Hbel.out.os, Hbel.out.tape, Hbel.out.output, Hbel.out.size, Hbel.out.block⟩⟩, by simp [intOf]⟩
          | 2, _ =>
            have hfin : Hid (rowF p.size (mid p f j 2) = rowF p.size (stp (gH p) (gT p) 1 1 f (j + 1))) := rfl
            go_wp2_with fail
            exact ⟨⟨j + 1, by omega, by go_num, by rw [← hfin.out]; exact hrowi, hbi⟩, by simp [intOf]; omega⟩
      · obtain rfl : j = p.size := by omega
        go_wp2_with fail
        go_ret
        exact ⟨_, rfl, hrow.out, hb⟩

/-- The numbers behind so many tosses. -/
def cntS (p : ByteArray) (t : Nat) : Nat → Int := cnt (gH p) (gT p) 1 1 p.size t
theorem two_le (t : Nat) (ht : t ≤ 40) : ((1 : Int) + 1) ^ t ≤ 1099511627776 := by
  have h : ∀ k m : Nat, k ≤ m → ((1 : Int) + 1) ^ k ≤ (1 + 1) ^ m := by
    intro k m h
    induction m with
    | zero => obtain rfl : k = 0 := by omega
              exact Int.le_refl _
    | succ m ih =>
      by_cases e : k = m + 1
      · subst e; exact Int.le_refl _
      · have := ih (by omega)
        have h0 : (0 : Int) ≤ (1 + 1) ^ m := Int.pow_nonneg (by omega)
        rw [Int.pow_succ]
        omega
  exact Int.le_trans (h t 40 ht) (by decide)
theorem cntS_sum (p : ByteArray) (t : Nat) (ht : t ≤ 40) : sumJ (cntS p t) p.size ≤ 1099511627776 :=
  Int.le_trans (cnt_sum (gH p) (gT p) (a := 1) (b := 1) (by omega) (by omega) p.size t) (two_le t ht)
theorem cntS_nonneg (p : ByteArray) (t k : Nat) : 0 ≤ cntS p t k := cnt_nonneg (gH p) (gT p) (by omega) (by omega) p.size t k
theorem cntS_zero (p : ByteArray) : rowF p.size (cntS p 0) = (List.replicate (p.size + 1) 0).set 0 1 := by
  rw [← rowF_zero]
  exact (rowF_set p.size _ _ 0 1 rfl (fun i _ hi => by show (if i = 0 then (1 : Int) else 0) = 0; rw [if_neg hi])).symm

set_option maxRecDepth 100000 in
set_option maxHeartbeats 3200000 in
theorem ptCounts_any (p : ByteArray) (t : Nat) (w : World) (h1 : 1 ≤ p.size) (h8 : p.size ≤ 8) (ht : t ≤ 40) :
    Calls Tryd.prog 44 #[.string p, .int .i64 t] w (RowOne (rowF p.size (cntS p t)) w) := by
  have hmk : ∀ W : World, (Instr.makeSlice 40 (.int .i64 ((p.size : Int) + 1)) (.int .i64 ((p.size : Int) + 1))).run Tryd.prog W = .ok (.slice (some ⟨W.heap.size, 0, none⟩) (p.size + 1) (p.size + 1)) (W.alloc (.cells (Array.replicate (p.size + 1) (.int .i64 0)) 3)) := fun W => by
    have := mk_ints (p.size + 1) (by omega) W
    simpa using this
  have hm0 := IRow.made w (p.size + 1) (by omega)
  rw [← rowF_zero] at hm0
  obtain ⟨e0, f0⟩ := rowF_cell hm0 0 (by omega)
  obtain ⟨hs1, hs2⟩ := rowF_store hm0 0 1 (cntS p 0) rfl (fun i _ hi => by show (if i = 0 then (1 : Int) else 0) = 0; rw [if_neg hi])
  have heq : (w.alloc (.cells (Array.replicate (p.size + 1) (.int .i64 0)) 3)).setCell ⟨w.heap.size, 0, none⟩ (.int .i64 1) = w.alloc (.cells ((Array.replicate (p.size + 1) (.int .i64 0)).setIfInBounds 0 (.int .i64 1)) 3) := by simp [go_sem]
  have hbl0 : Below w.heap.size w ((w.alloc (.cells (Array.replicate (p.size + 1) (.int .i64 0)) 3)).setCell ⟨w.heap.size, 0, none⟩ (.int .i64 1)) := (bel_alloc (Below.refl _ w) (.cells (Array.replicate (p.size + 1) (.int .i64 0)) 3)).setCell (Nat.le_refl _) _
  rw [heq] at hs1 hbl0
  have Hs1 := Lib.hid hs1
  have Hbl0 := Lib.hid hbl0
  have hp0 : (0 : Int) < (p.size : Int) + 1 := by omega
  clear hm0 hs1 hs2 hbl0 heq
  go_enter Tryd.func44, Tryd.ntmps44
  go_wp2_with fail
  generalize (Array.replicate (p.size + 1) (Value.int .i64 0)).setIfInBounds 0 (.int .i64 1) = A0 at *
  go_loopw [1, 5] (fun x v wr => ∃ r : Nat, r ≤ t ∧ x = .int .i64 r ∧ Hid (IRow wr w.heap.size v (rowF p.size (cntS p (t - r)))) ∧ Below w.heap.size w wr) (fun x _ _ => (intOf x).toNat)
  case atStart => exact ⟨t, Nat.le_refl _, rfl, by rw [Nat.sub_self]; exact Hs1, Hbl0.out⟩
  case round =>
    obtain ⟨r, hr, rfl, hI, hb⟩ := hrel
    obtain ⟨wa, rfl⟩ : ∃ wa : World, wa = wr := ⟨_, rfl⟩
    have hsa := hb.size
    cases r with
    | zero =>
      go_wp2_with fail
      go_ret
      exact ⟨_, rfl, hI.out, hb⟩
    | succ m =>
      have hnx : Hid (stp (gH p) (gT p) 1 1 (cntS p (t - (m + 1))) p.size = cntS p (t - m)) := by
        refine Lib.hid ?_
        rw [show t - m = (t - (m + 1)) + 1 from by omega]
        rfl
      have hsum := cntS_sum p (t - (m + 1)) (by omega)
      have Hnn := Lib.hid (cntS_nonneg p (t - (m + 1)))
      go_wp2_with fail
      refine (ptStep_any p (cntS p (t - (m + 1))) _ _ _ h1 h8 hI.out (fun i _ => Hnn.out i) (by omega)).mono ?_
      rintro e w2 ⟨v2, rfl, r2, b2⟩
      rw [hnx.out] at r2
      have R2 := Lib.hid (r2.mono hsa)
      clear r2
      go_wp2_with fail
      exact ⟨⟨m, by omega, by go_num, R2, bel_trans hb b2⟩, by simp [intOf]⟩
end Go.Proofs.YtbfgieolehbedaaDoor
