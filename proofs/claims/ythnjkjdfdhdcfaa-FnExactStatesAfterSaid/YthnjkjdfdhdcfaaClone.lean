/- slices.Clone over integers; StatesAfter: the contracts of the program and of its model. -/
import Derived.Test.YthnjkjdfdhdcfaaRchd
import Derived.Deep.RegionHeld3
namespace Go.Proofs.Ythnjkjdfdhdcfaa
open Go.ChangeShapes Go.WideShapes Go.ChangeAt Go.RowKit
set_option linter.unusedVariables false

theorem pow_in (p : Int) (h0 : 0 ≤ p) (h1 : p ≤ 10) : ∀ k : Nat, 0 ≤ p ^ k ∧ p ^ k ≤ 10 ^ k
  | 0 => by simp
  | k + 1 => by
    obtain ⟨a, b⟩ := pow_in p h0 h1 k
    rw [Int.pow_succ, Int.pow_succ]
    exact ⟨Int.mul_nonneg a h0, Int.mul_le_mul b h1 h0 (by omega)⟩
theorem ten_le (k : Nat) (h : k ≤ 9) : (10 : Int) ^ k ≤ 1000000000 := by
  match k, h with
  | 0, _ | 1, _ | 2, _ | 3, _ | 4, _ | 5, _ | 6, _ | 7, _ | 8, _ | 9, _ => decide
theorem pow_le9 (p : Int) (h0 : 0 ≤ p) (h1 : p ≤ 10) (k : Nat) (hk : k ≤ 9) : 0 ≤ p ^ k ∧ p ^ k ≤ 1000000000 :=
  ⟨(pow_in p h0 h1 k).1, Int.le_trans (pow_in p h0 h1 k).2 (ten_le k hk)⟩

set_option maxHeartbeats 400000 in
theorem power_any (p : Int) (n : Nat) (w : World) (h0 : 0 ≤ p) (h1 : p ≤ 10) (hn : n ≤ 9) :
    Calls Try.prog 79 #[.int .i64 p, .int .i64 n] w fun e w' => e = .returned (.int .i64 (p ^ n)) ∧ w = w' := by
  go_enter Try.func79, Try.ntmps79
  go_wp2
  go_loop [5, 7] (fun x i => ∃ k : Nat, k ≤ n ∧ i = .int .i64 k ∧ x = .int .i64 (p ^ k)) (fun _ i => n - (intOf i).toNat)
  case atStart => exact ⟨0, by omega, rfl, by simp⟩
  case round =>
    obtain ⟨k, hk, rfl, rfl⟩ := hrel
    obtain ⟨b0, b1⟩ := pow_le9 p h0 h1 k (by omega)
    by_cases hlt : k < n
    · obtain ⟨c0, c1⟩ := pow_le9 p h0 h1 (k + 1) (by omega)
      rw [Int.pow_succ] at c0 c1
      have hs := Lib.hid (Int.pow_succ p k)
      generalize p ^ k = q at *
      go_wp2
      exact ⟨⟨k + 1, by omega, by go_num, by rw [hs.out]⟩, by simp [intOf]; omega⟩
    · obtain rfl : k = n := by omega
      go_wp2
      go_ret
      exact ⟨rfl, rfl⟩

set_option maxRecDepth 100000 in
set_option maxHeartbeats 800000 in
theorem clone_any (xs : List Int) (b off : Nat) (cap : Nat) (B : Nat) (w : World) (h : RdI w B (.slice (some ⟨b, off, none⟩) xs.length cap) xs) (hB : B ≤ w.heap.size) (hl : 0 < xs.length) (hm : xs.length ≤ 1000) :
    Calls Try.prog 78 #[.slice (some ⟨b, off, none⟩) xs.length cap] w (RowOne xs w) := by
  have q22 : ∀ (w : World) (a : Option Addr) (n c n' c' : Nat), (binOp .eql 34 (.slice a n c) (.slice none n' c')).run Try.prog w = .ok (.bool a.isNone) w := fun w a n c n' c' => Lib.run_eql_slice_nil w _ _ a n c n' c' Try.underlying34
  obtain ⟨i0, hi, hz0, hz1, hz2⟩ := info_parts info_int
  have hc : ∀ k, k < xs.length → w.cell? ((⟨b, off, none⟩ : Addr).add k) = some (.int .i64 (xs.getD k 0)) := fun k hk => by
    obtain ⟨ad, e, _, hc⟩ := h.at_ hk
    injection e with e
    subst e
    exact hc
  have HC := Lib.hid hc
  clear hc h
  go_enter Try.func78, Try.ntmps78
  go_wp2_with (at_builtin; refine wpList_append_own _ rfl (.tmp 5) (.tmp 6) 34 rfl w.heap.size 3 i0 (.int .i64 0) 1 8 Try.underlying34 hi hz0 hz1 hz2 rfl (by decide) _ _ _ rfl (World.ownsRow_made w #[] 0 (Nat.le_refl _) (Nat.zero_le _) rfl) ⟨b, off, none⟩ xs.length cap (xs.map (Value.int .i64)) rfl ?qc1 ?qc2 ?qc3 ?qc4 ?qc5 ?qc6 ?_)
  case qc1 => simp
  case qc2 =>
    intro j u hj
    have hjn : j < xs.length := by
      have := (List.getElem?_eq_some_iff.1 hj).1
      simpa using this
    refine Lib.cell?_alloc_some _ ?_
    rw [HC.out j hjn]
    have e : (xs.map (Value.int .i64))[j]? = some (Value.int .i64 (xs.getD j 0)) := by simp [List.getD, List.getElem?_eq_getElem hjn]
    rw [e] at hj
    exact hj
  case qc3 => intro u hu; obtain ⟨x, _, rfl⟩ := List.mem_map.1 hu; rfl
  case qc4 => unfold maxLen; omega
  case qc5 => omega
  case qc6 => rw [← size1]; omega
  intro v' w1 hown hgrow hnil
  have Hown : Hid (IRow w1 w.heap.size v' xs) := by
    refine Lib.hid ?_
    unfold IRow
    simpa using hown
  have hb := ((Below.refl _ w).alloc (Nat.le_refl _) (.cells #[] 3)).grown hgrow (by rw [← size1]; omega) (by intro k hk; simp [Value.ownBlock] at hk; omega)
  clear hown hgrow hnil
  go_wp2_with fail
  go_ret
  exact ⟨v', rfl, Hown.out, hb⟩

theorem clone_n (xs : List Int) (n : Nat) (hn : xs.length = n) (b off : Nat) (cap : Nat) (B : Nat) (w : World) (h : RdI w B (.slice (some ⟨b, off, none⟩) xs.length cap) xs) (hB : B ≤ w.heap.size) (hl : 0 < n) (hm : n ≤ 1000) :
    Calls Try.prog 78 #[.slice (some ⟨b, off, none⟩) n cap] w (RowOne xs w) := by
  subst hn
  exact clone_any xs b off cap B w h hB hl hm
def RowAns3 (xs : List Int) (d : Int) (ok : Bool) (w : World) (e : Ending) (w' : World) : Prop :=
  ∃ v, e = .returned (.tuple #[v, .int .i64 d, .bool ok]) ∧ IRow w' w.heap.size v xs ∧ Below w.heap.size w w'
def okAft (lim : Int) (m : List (List Int)) (f n : Int) : Bool := ask2 lim m f f && inB n 0 8
def ansAft (lim : Int) (m : List (List Int)) (f n : Int) : List Int := if okAft lim m f n then rowL (aft (wayM false m) m.length f.toNat n.toNat) m.length else []
def denAft (lim : Int) (m : List (List Int)) (f n : Int) : Int := if okAft lim m f n then lim ^ n.toNat else 0
theorem ansAft_len (lim : Int) (m : List (List Int)) (f n : Int) : (ansAft lim m f n).length ≤ 1000 := by
  unfold ansAft
  split
  · rename_i h
    rw [rowL_len]
    simp only [okAft, Bool.and_eq_true] at h
    have := (ask2_good h.1).1.five
    omega
  · simp
theorem ansAft_no {lim : Int} {m : List (List Int)} {f n : Int} (h : okAft lim m f n = false) : ansAft lim m f n = [] ∧ denAft lim m f n = 0 := by simp [ansAft, denAft, h]
theorem ansAft_yes {lim : Int} {m : List (List Int)} {f n : Int} (h : okAft lim m f n = true) : ansAft lim m f n = rowL (aft (wayM false m) m.length f.toNat n.toNat) m.length ∧ denAft lim m f n = lim ^ n.toNat := by simp [ansAft, denAft, h]

set_option maxRecDepth 100000 in
set_option maxHeartbeats 1600000 in
theorem specAft_any (lim : Int) (m : List (List Int)) (v : Value) (B : Nat) (f n : Int) (w : World) (h : RdM w B v m) (hB : B ≤ w.heap.size) :
    Calls Try.prog 27 #[sts lim v, .int .i64 f, .int .i64 n] w (RowAns3 (ansAft lim m f n) (denAft lim m f n) (okAft lim m f n) w) := by
  obtain ⟨A, cap, rfl, l0, m0⟩ := h.form
  have hbl := bel_alloc (Below.refl _ w) (.cells #[.int .i64 lim, .slice A m.length cap] 27)
  have H := Lib.hid (h.below hbl hB)
  have hBs := Nat.le_trans hB hbl.size
  have bx := Lib.hid (Box2.new w (.int .i64 lim) (.slice A m.length cap) 27)
  clear h
  cases h1 : ask2 lim m f f with
  | false =>
    have ho : okAft lim m f n = false := by simp [okAft, h1]
    rw [(ansAft_no ho).1, (ansAft_no ho).2, ho]
    have H1 := Lib.hid h1
    clear h1 ho
    go_enter Try.func27, Try.ntmps27
    go_wp2_with fail
    refine (saAsked_any lim m _ _ f f _ H.out hBs).mono ?_
    rw [H1.out]
    rintro e w1 ⟨rfl, b1⟩
    go_wp2_with fail
    go_ret3
    exact ⟨_, rfl, IRow.nil _ _, bel_trans hbl b1⟩
  | true =>
    cases h2 : inB n 0 8 with
    | false =>
      have ho : okAft lim m f n = false := by simp [okAft, h2]
      rw [(ansAft_no ho).1, (ansAft_no ho).2, ho]
      have H1 := Lib.hid h1
      have H2 := Lib.hid h2
      clear h1 h2 ho
      go_enter Try.func27, Try.ntmps27
      go_wp2_with fail
      refine (saAsked_any lim m _ _ f f _ H.out hBs).mono ?_
      rw [H1.out]
      rintro e w1 ⟨rfl, b1⟩
      go_wp2_with fail
      refine (l1In_any _ _ _ _).mono ?_
      rw [H2.out]
      rintro e w' ⟨rfl, rfl⟩
      go_wp2_with fail
      go_ret3
      exact ⟨_, rfl, IRow.nil _ _, bel_trans hbl b1⟩
    | true =>
      have ho : okAft lim m f n = true := by simp [okAft, h1, h2]
      rw [(ansAft_yes ho).1, (ansAft_yes ho).2, ho]
      have H1 := Lib.hid h1
      have H2 := Lib.hid h2
      obtain ⟨hg, i, j, rfl, hij, hi, hj⟩ := ask2_good h1
      obtain ⟨n0, n8⟩ := (inB_iff _ _ _).1 h2
      obtain ⟨K, rfl⟩ := Int.eq_ofNat_of_zero_le n0
      have hK : K ≤ 8 := by omega
      have HG := Lib.hid hg
      have q0 := hg.lo
      have q1 := hg.hi
      clear h1 h2 hg n0 n8 ho hij hj j
      rw [show (i : Int).toNat = i from rfl, show (K : Int).toNat = K from rfl]
      go_enter Try.func27, Try.ntmps27
      go_wp2_with fail
      refine (saAsked_any lim m _ _ i i _ H.out hBs).mono ?_
      rw [H1.out]
      rintro e w1 ⟨rfl, b1⟩
      obtain ⟨c0, c1, c2⟩ := bx.out.keep b1
      go_wp2_with fail
      refine (l1In_any _ _ _ _).mono ?_
      rw [H2.out]
      rintro e w' ⟨rfl, rfl⟩
      go_wp2_with fail
      go_loop [9, 10] (fun y x => ∃ k : Nat, k ≤ K ∧ x = .int .i64 k ∧ y = .int .i64 (lim ^ k)) (fun _ x => K - (intOf x).toNat)
      case atStart => exact ⟨0, by omega, rfl, by simp⟩
      case round =>
        obtain ⟨k, hk, rfl, rfl⟩ := hrel
        obtain ⟨p0, p1⟩ := pow_le9 lim (by omega) q1 k (by omega)
        by_cases hlt : k < K
        · obtain ⟨r0, r1⟩ := pow_le9 lim (by omega) q1 (k + 1) (by omega)
          rw [Int.pow_succ] at r0 r1
          have hs := Lib.hid (Int.pow_succ lim k)
          generalize lim ^ k = q at *
          go_wp2_with fail
          exact ⟨⟨k + 1, by omega, by go_num, by rw [hs.out]⟩, by simp [intOf]; omega⟩
        · obtain rfl : k = K := by omega
          go_wp2_with fail
          refine (saAfter_any lim m _ _ i k false _ (H.out.below b1 hBs) (Nat.le_trans hBs b1.size) HG.out hi hK).mono ?_
          rintro e w2 ⟨u, rfl, hr, b2⟩
          have Hr := Lib.hid hr
          clear hr
          go_wp2_with fail
          go_ret3
          exact ⟨_, rfl, Hr.out.mono (bel_trans hbl b1).size, bel_trans (bel_trans hbl b1) b2⟩

theorem held2_start {W0 : World} {k : Nat} {x y : Value} (h : Box2 W0 k x y) : let V := W0.drew
    V.cell? ⟨k, 0, none⟩ = some x ∧ V.cell? ⟨k, 1, none⟩ = some y ∧ k < V.heap.size ∧ Below W0.heap.size W0 V :=
  ⟨h.1, h.2.1, h.2.2, (Below.refl _ W0).drew⟩
theorem held2_keep {W0 W w1 : World} {k : Nat} {x y : Value} (h : W.cell? ⟨k, 0, none⟩ = some x ∧ W.cell? ⟨k, 1, none⟩ = some y ∧ k < W.heap.size ∧ Below W0.heap.size W0 W) (hb : Below W.heap.size W w1) :
    w1.cell? ⟨k, 0, none⟩ = some x ∧ w1.cell? ⟨k, 1, none⟩ = some y ∧ k < w1.heap.size ∧ Below W0.heap.size W0 w1 := by
  obtain ⟨a, b, c, g⟩ := h
  have b1 : Box2 w1 k x y := Box2.keep ⟨a, b, c⟩ hb
  exact ⟨b1.1, b1.2.1, b1.2.2, bel_trans g hb⟩
theorem held2_below {W0 W : World} {k : Nat} {x y : Value} (h : W.cell? ⟨k, 0, none⟩ = some x ∧ W.cell? ⟨k, 1, none⟩ = some y ∧ k < W.heap.size ∧ Below W0.heap.size W0 W) : Below W0.heap.size W0 W := h.2.2.2
theorem rdI_row (W : World) (h : Nat → Int) (n : Nat) (hn : n ≤ 5) (t : TypeId) : RdI (W.alloc (.cells (rowC h) t)) (W.heap.size + 1) (.slice (some ⟨W.heap.size, 0, none⟩) (rowL h n).length 5) (rowL h n) := by
  refine ⟨_, 5, rfl, by rw [rowL_len]; exact hn, by simp [maxLen], fun hl => ⟨_, rfl, by simp, fun k hk => ?_⟩⟩
  rw [rowL_len] at hk
  rw [Addr.add_lit, Nat.zero_add, rowL_get _ hk]
  exact (cell_of_row _ _ _ _ _ _ (heap_alloc_new _ _)).trans (rowC_get h k (by omega))

set_option maxRecDepth 100000 in
set_option maxHeartbeats 3200000 in
theorem implAft_any (lim : Int) (m : List (List Int)) (v : Value) (B : Nat) (f n : Int) (w : World) (h : RdM w B v m) (hB : B ≤ w.heap.size) :
    Calls Try.prog 28 #[sts lim v, .int .i64 f, .int .i64 n] w (RowAns3 (ansAft lim m f n) (denAft lim m f n) (okAft lim m f n) w) := by
  obtain ⟨A, cap, rfl, l0, m0⟩ := h.form
  have hbl := bel_alloc (bel_alloc (Below.refl _ w) (.cells #[.int .i64 lim, .slice A m.length cap] 27)) (.cells #[.int .i64 f] 3)
  have H := Lib.hid (h.below hbl hB)
  have hBs := Nat.le_trans hB hbl.size
  have hR := Lib.hid (rdI_one (w.alloc (.cells #[.int .i64 lim, .slice A m.length cap] 27)) f _ (size1 w _))
  have hq := Lib.hid (ask1_ask2 lim m f)
  obtain ⟨a, b, g, hm, hy⟩ := mvOf_form lim m
  have Hm := Lib.hid hm
  clear h hm
  have key : ∀ (c : Int), (c < 0 ∨ (0 ≤ c ∧ 8 < c)) ∨ (0 ≤ c ∧ c ≤ 8) := fun c => by omega
  cases h1 : ask2 lim m f f with
  | false =>
    have ho : okAft lim m f n = false := by simp [okAft, h1]
    rw [(ansAft_no ho).1, (ansAft_no ho).2, ho]
    have H1 := Lib.hid h1
    clear h1 hy key ho
    go_enter Try.func28, Try.ntmps28
    go_wp2_with fail
    refine (movesAt_any lim m _ _ [f] _ _ _ H.out hBs hR.out (Nat.le_refl _)).mono ?_
    unfold MvAtAns
    rw [hq.out, H1.out, Hm.out]
    rintro e w1 ⟨rfl, b1⟩
    go_wp2_with (first
      | (refine wpList_alloc_row rfl 72 rfl (mvC 0 0 zer) (mv_zero _) ?_)
      | (refine wpList_store_new (k := w1.heap.size) (c' := mvC a b g) rfl 72 (.tmp 9) (.tmp 17) rfl rfl ?_ ?_ mv_info rfl (mvC_one _ _ _) ?_; (· simp [Act.put, Act.eval]); (· simp [Act.put, Act.eval])))
    go_ret3
    exact ⟨_, rfl, IRow.nil _ _, bel_alloc (bel_trans hbl b1) _⟩
  | true =>
    rcases key n with (hn | ⟨hn, hn'⟩) | ⟨hn, hn'⟩
    · have ho : okAft lim m f n = false := by simp [okAft, inB]; omega
      rw [(ansAft_no ho).1, (ansAft_no ho).2, ho]
      have hd : decide (n < 0) = true := by simpa using hn
      have H1 := Lib.hid h1
      clear h1 hy key ho
      go_enter Try.func28, Try.ntmps28
      go_wp2_with fail
      refine (movesAt_any lim m _ _ [f] _ _ _ H.out hBs hR.out (Nat.le_refl _)).mono ?_
      unfold MvAtAns
      rw [hq.out, H1.out, Hm.out]
      rintro e w1 ⟨rfl, b1⟩
      go_wp2_with (first
        | (refine wpList_alloc_row rfl 72 rfl (mvC 0 0 zer) (mv_zero _) ?_)
        | (refine wpList_store_new (k := w1.heap.size) (c' := mvC a b g) rfl 72 (.tmp 9) (.tmp 17) rfl rfl ?_ ?_ mv_info rfl (mvC_one _ _ _) ?_; (· simp [Act.put, Act.eval]); (· simp [Act.put, Act.eval])))
      go_ret3
      exact ⟨_, rfl, IRow.nil _ _, bel_alloc (bel_trans hbl b1) _⟩
    · have ho : okAft lim m f n = false := by simp [okAft, inB]; omega
      rw [(ansAft_no ho).1, (ansAft_no ho).2, ho]
      have hd : decide (n < 0) = false := by simp; omega
      have hd2 : decide (8 < n) = true := by simp; omega
      have H1 := Lib.hid h1
      clear h1 hy key ho
      go_enter Try.func28, Try.ntmps28
      go_wp2_with fail
      refine (movesAt_any lim m _ _ [f] _ _ _ H.out hBs hR.out (Nat.le_refl _)).mono ?_
      unfold MvAtAns
      rw [hq.out, H1.out, Hm.out]
      rintro e w1 ⟨rfl, b1⟩
      go_wp2_with (first
        | (refine wpList_alloc_row rfl 72 rfl (mvC 0 0 zer) (mv_zero _) ?_)
        | (refine wpList_store_new (k := w1.heap.size) (c' := mvC a b g) rfl 72 (.tmp 9) (.tmp 17) rfl rfl ?_ ?_ mv_info rfl (mvC_one _ _ _) ?_; (· simp [Act.put, Act.eval]); (· simp [Act.put, Act.eval])))
      go_ret3
      exact ⟨_, rfl, IRow.nil _ _, bel_alloc (bel_trans hbl b1) _⟩
    · have ho : okAft lim m f n = true := by simp [okAft, inB, h1]; omega
      rw [(ansAft_yes ho).1, (ansAft_yes ho).2, ho]
      have H1 := Lib.hid h1
      have hs : saG lim m = true := by simp only [ask2, Bool.and_eq_true] at h1; exact h1.1
      obtain ⟨rfl, rfl, rfl⟩ := hy hs
      obtain ⟨hg, i, j, rfl, hij, hi, hj⟩ := ask2_good h1
      obtain ⟨K, rfl⟩ := Int.eq_ofNat_of_zero_le hn
      have hK : K ≤ 8 := by omega
      have hd : decide ((K : Int) < 0) = false := by simp
      have hd2 : decide ((8 : Int) < (K : Int)) = false := by simp; omega
      have HG := Lib.hid hg
      have n1 := hg.one
      have n5 := hg.five
      have q0 := hg.lo
      have q1 := hg.hi
      have hF := Lib.hid (rowF_grid hg)
      have g1 : (mvC a m.length (gridM m))[1]? = some (.int .i64 m.length) := rfl
      have g0 : (mvC a m.length (gridM m))[0]? = some (.int .i64 a) := rfl
      clear h1 hg hs hy key hn hn' ho hij hj j
      rw [show (i : Int).toNat = i from rfl, show (K : Int).toNat = K from rfl]
      go_enter Try.func28, Try.ntmps28
      go_wp2_with fail
      refine (movesAt_any a m _ _ [(i : Int)] _ _ _ H.out hBs hR.out (Nat.le_refl _)).mono ?_
      unfold MvAtAns
      rw [hq.out, H1.out, Hm.out]
      rintro e w1 ⟨rfl, b1⟩
      have hb1 := bel_alloc (bel_trans hbl b1) (.cells (mvC a m.length (gridM m)) 72)
      go_wp2_with (first
        | (refine wpList_alloc_row rfl 72 rfl (mvC 0 0 zer) (mv_zero _) ?_)
        | (refine wpList_store_new (k := w1.heap.size) (c' := mvC a m.length (gridM m)) rfl 72 (.tmp 9) (.tmp 17) rfl rfl ?_ ?_ mv_info rfl (mvC_one _ _ _) ?_; (· simp [Act.put, Act.eval]); (· simp [Act.put, Act.eval]))
        | (refine wpList_load_row rfl 72 (.tmp 9) rfl w1.heap.size (by simp [Act.put, Act.eval]) _ (mvC a m.length (gridM m)) _ _ (heap_alloc_new _ _) Try.underlying72 rfl mv_info ?_))
      refine (after_any a m.length (gridM m) i K _ n5 (by rw [hF.out]; exact wayM_in HG.out false) (by rw [hF.out]; exact way_out HG.out false) hi (by omega) (by rw [hF.out]; exact way_aft HG.out false i K hK)).mono ?_
      rw [hF.out]
      rintro e w2 ⟨rfl, b2⟩
      have hb2 := bel_trans hb1 b2
      have hK1 := Lib.hid (bel_block b2 (by rw [← size1]; omega) (heap_alloc_new w1 (.cells (mvC a m.length (gridM m)) 72)))
      have hlt1 : w1.heap.size < w2.heap.size := by have := b2.size; rw [← size1] at this; omega
      generalize hh : aft (wayM false m) m.length i K = hA at *
      have Hh := Lib.hid hh
      clear hh
      have hb3 := bel_alloc hb2 (.cells (rowC hA) 68)
      have hbx : Hid (Box2 (w2.alloc (.cells (rowC hA) 68)) w1.heap.size (.int .i64 a) (.int .i64 m.length)) := by
        have q := (heap_alloc_old w2 (.cells (rowC hA) 68) hlt1).trans hK1.out
        exact ⟨(cell_of_row _ _ _ _ _ _ q).trans g0, (cell_of_row _ _ _ _ _ _ q).trans g1, by rw [← size1]; omega⟩
      have hrr := Lib.hid (rdI_row w2 hA m.length n5 68)
      have hsw := size1 w2 (.cells (rowC hA) 68)
      have HSW := Lib.hid hsw
      clear hsw
      have hrl := rowL_len hA m.length
      have HRL := Lib.hid hrl
      clear hrl
      go_wp2_with (first
        | (refine wpList_alloc_row rfl 68 rfl (rowC zer) (row_zero _) ?_)
        | (refine wpList_store_new (k := w2.heap.size) (c' := rowC hA) rfl 68 (.tmp 11) (.tmp 32) rfl rfl ?_ ?_ row_info rfl (rowC_one _) ?_; (· simp [Act.put, Act.eval]); (· simp [Act.put, Act.eval])))
      have hs0 : (0 : Int) ≤ (m.length : Int) := by omega
      have hs5 : (m.length : Int) ≤ 5 := by omega
      go_region_held3 (fun w' => w'.cell? ⟨w1.heap.size, 0, none⟩ = some (.int .i64 a) ∧ w'.cell? ⟨w1.heap.size, 1, none⟩ = some (.int .i64 m.length) ∧ w1.heap.size < w'.heap.size ∧ Below (w2.alloc (.cells (rowC hA) 68)).heap.size (w2.alloc (.cells (rowC hA) 68)) w')
        (first | exact held2_start hbx.out | exact held2_keep (by assumption) hbq | assumption | go_keep)
        (first | (go_at_call 78; refine (clone_n (rowL hA m.length) m.length HRL.out w2.heap.size 0 5 (w2.heap.size + 1) _ (hrr.out.below (held2_below (by assumption)) (by rw [HSW.out]; exact Nat.le_refl _)) (by rw [HSW.out]; exact (held2_below (by assumption)).size) (by omega) (by omega)).mono ?_; rintro e w7 ⟨u7, rfl, hr7, hbq⟩) | (go_at_call 79; refine (power_any a K _ (by omega) q1 (by omega)).mono ?_; rintro e w8 ⟨rfl, rfl⟩))
      have hend := bel_trans hb3 (held2_below (by assumption))
      have Hr7 : Hid (IRow w7 w.heap.size u7 (rowL hA m.length)) := hr7.mono hb3.size
      clear hr7
      go_wp2_with fail
      go_ret3
      exact ⟨_, rfl, Hr7.out, hend⟩
end Go.Proofs.Ythnjkjdfdhdcfaa
