/- slices.Clone over integers; StatesAfter: the contracts of the program and of its model. -/
import Derived.Test.YthmdkbeccohjkaaRchd
import Derived.Deep.RegionHeld3
namespace Go.Proofs.Ythmdkbeccohjkaa
set_option linter.unusedSimpArgs false
open Go.ChangeShapes Go.WideShapes Go.ChangeAt Go.RowKit
set_option linter.unusedVariables false

theorem pow_in (p : Int) (h0 : 0 ≤ p) (h1 : p ≤ 10) : ∀ k : Nat, 0 ≤ p ^ k ∧ p ^ k ≤ 10 ^ k
  | 0 => by simp
  | k + 1 => by
    obtain ⟨a, b⟩ := pow_in p h0 h1 k
    rw [Int.pow_succ, Int.pow_succ]
    exact ⟨Int.mul_nonneg a h0, Int.mul_le_mul b h1 h0 (by omega)⟩
theorem ten_le (k : Nat) (h : k ≤ 9) : (10 : Int) ^ k ≤ 1000000000 := by
  match k, h with
  | 0, _ | 1, _ | 2, _ | 3, _ | 4, _ | 5, _ | 6, _ | 7, _ | 8, _ | 9, _ => decide
theorem pow_le9 (p : Int) (h0 : 0 ≤ p) (h1 : p ≤ 10) (k : Nat) (hk : k ≤ 9) : 0 ≤ p ^ k ∧ p ^ k ≤ 1000000000 :=
  ⟨(pow_in p h0 h1 k).1, Int.le_trans (pow_in p h0 h1 k).2 (ten_le k hk)⟩

set_option maxRecDepth 100000 in
set_option maxHeartbeats 800000 in
theorem clone_any (xs : List Int) (b off : Nat) (cap : Nat) (B : Nat) (w : World) (h : RdI w B (.slice (some ⟨b, off, none⟩) xs.length cap) xs) (hB : B ≤ w.heap.size) (hl : 0 < xs.length) (hm : xs.length ≤ 1000) :
    Calls Try.prog 26 #[.slice (some ⟨b, off, none⟩) xs.length cap] w (RowOne xs w) := by
  have q22 : ∀ (w : World) (a : Option Addr) (n c n' c' : Nat), (binOp .eql 26 (.slice a n c) (.slice none n' c')).run Try.prog w = .ok (.bool a.isNone) w := fun w a n c n' c' => Lib.run_eql_slice_nil w _ _ a n c n' c' Try.underlying26
  obtain ⟨i0, hi, hz0, hz1, hz2⟩ := info_parts info_int
  have hc : ∀ k, k < xs.length → w.cell? ((⟨b, off, none⟩ : Addr).add k) = some (.int .i64 (xs.getD k 0)) := fun k hk => by
    obtain ⟨ad, e, _, hc⟩ := h.at_ hk
    injection e with e
    subst e
    exact hc
  have HC := Lib.hid hc
  clear hc h
  go_enter Try.func26, Try.ntmps26
  go_wp2_with (at_builtin; refine wpList_append_own _ rfl (.tmp 5) (.tmp 6) 26 rfl w.heap.size 3 i0 (.int .i64 0) 1 8 Try.underlying26 hi hz0 hz1 hz2 rfl (by decide) _ _ _ rfl (World.ownsRow_made w #[] 0 (Nat.le_refl _) (Nat.zero_le _) rfl) ⟨b, off, none⟩ xs.length cap (xs.map (Value.int .i64)) rfl ?qc1 ?qc2 ?qc3 ?qc4 ?qc5 ?qc6 ?_)
  case qc1 => simp
  case qc2 =>
    intro j u hj
    have hjn : j < xs.length := by
      have := (List.getElem?_eq_some_iff.1 hj).1
      simpa using this
    refine Lib.cell?_alloc_some _ ?_
    rw [HC.out j hjn]
    have e : (xs.map (Value.int .i64))[j]? = some (Value.int .i64 (xs.getD j 0)) := by simp [List.getD, List.getElem?_eq_getElem hjn]
    rw [e] at hj
    exact hj
  case qc3 => intro u hu; obtain ⟨x, _, rfl⟩ := List.mem_map.1 hu; rfl
  case qc4 => unfold maxLen; omega
  case qc5 => omega
  case qc6 => rw [← size1]; omega
  intro v' w1 hown hgrow hnil
  have Hown : Hid (IRow w1 w.heap.size v' xs) := by
    refine Lib.hid ?_
    unfold IRow
    simpa using hown
  have hb := ((Below.refl _ w).alloc (Nat.le_refl _) (.cells #[] 3)).grown hgrow (by rw [← size1]; omega) (by intro k hk; simp [Value.ownBlock] at hk; omega)
  clear hown hgrow hnil
  go_wp2_with fail
  go_ret
  exact ⟨v', rfl, Hown.out, hb⟩

theorem clone_n (xs : List Int) (n : Nat) (hn : xs.length = n) (b off : Nat) (cap : Nat) (B : Nat) (w : World) (h : RdI w B (.slice (some ⟨b, off, none⟩) xs.length cap) xs) (hB : B ≤ w.heap.size) (hl : 0 < n) (hm : n ≤ 1000) :
    Calls Try.prog 26 #[.slice (some ⟨b, off, none⟩) n cap] w (RowOne xs w) := by
  subst hn
  exact clone_any xs b off cap B w h hB hl hm
def RowAns3 (xs : List Int) (d : Int) (ok : Bool) (w : World) (e : Ending) (w' : World) : Prop :=
  ∃ v, e = .returned (.tuple #[v, .int .i64 d, .bool ok]) ∧ IRow w' w.heap.size v xs ∧ Below w.heap.size w w'
def okAft (lim : Int) (m : List (List Int)) (f n : Int) : Bool := ask2 lim m f f && inB n 0 8
def ansAft (lim : Int) (m : List (List Int)) (f n : Int) : List Int := if okAft lim m f n then rowL (aft (wayM false m) m.length f.toNat n.toNat) m.length else []
def denAft (lim : Int) (m : List (List Int)) (f n : Int) : Int := if okAft lim m f n then lim ^ n.toNat else 0
theorem ansAft_len (lim : Int) (m : List (List Int)) (f n : Int) : (ansAft lim m f n).length ≤ 1000 := by
  unfold ansAft
  split
  · rename_i h
    rw [rowL_len]
    simp only [okAft, Bool.and_eq_true] at h
    have := (ask2_good h.1).1.five
    omega
  · simp
theorem ansAft_no {lim : Int} {m : List (List Int)} {f n : Int} (h : okAft lim m f n = false) : ansAft lim m f n = [] ∧ denAft lim m f n = 0 := by simp [ansAft, denAft, h]
theorem ansAft_yes {lim : Int} {m : List (List Int)} {f n : Int} (h : okAft lim m f n = true) : ansAft lim m f n = rowL (aft (wayM false m) m.length f.toNat n.toNat) m.length ∧ denAft lim m f n = lim ^ n.toNat := by simp [ansAft, denAft, h]

theorem held2_start {W0 : World} {k : Nat} {x y : Value} (h : Box2 W0 k x y) : let V := W0.drew
    V.cell? ⟨k, 0, none⟩ = some x ∧ V.cell? ⟨k, 1, none⟩ = some y ∧ k < V.heap.size ∧ Below W0.heap.size W0 V :=
  ⟨h.1, h.2.1, h.2.2, (Below.refl _ W0).drew⟩
theorem held2_keep {W0 W w1 : World} {k : Nat} {x y : Value} (h : W.cell? ⟨k, 0, none⟩ = some x ∧ W.cell? ⟨k, 1, none⟩ = some y ∧ k < W.heap.size ∧ Below W0.heap.size W0 W) (hb : Below W.heap.size W w1) :
    w1.cell? ⟨k, 0, none⟩ = some x ∧ w1.cell? ⟨k, 1, none⟩ = some y ∧ k < w1.heap.size ∧ Below W0.heap.size W0 w1 := by
  obtain ⟨a, b, c, g⟩ := h
  have b1 : Box2 w1 k x y := Box2.keep ⟨a, b, c⟩ hb
  exact ⟨b1.1, b1.2.1, b1.2.2, bel_trans g hb⟩
theorem held2_below {W0 W : World} {k : Nat} {x y : Value} (h : W.cell? ⟨k, 0, none⟩ = some x ∧ W.cell? ⟨k, 1, none⟩ = some y ∧ k < W.heap.size ∧ Below W0.heap.size W0 W) : Below W0.heap.size W0 W := h.2.2.2
theorem rdI_row (W : World) (h : Nat → Int) (n : Nat) (hn : n ≤ 5) (t : TypeId) : RdI (W.alloc (.cells (rowC h) t)) (W.heap.size + 1) (.slice (some ⟨W.heap.size, 0, none⟩) (rowL h n).length 5) (rowL h n) := by
  refine ⟨_, 5, rfl, by rw [rowL_len]; exact hn, by simp [maxLen], fun hl => ⟨_, rfl, by simp, fun k hk => ?_⟩⟩
  rw [rowL_len] at hk
  rw [Addr.add_lit, Nat.zero_add, rowL_get _ hk]
  exact (cell_of_row _ _ _ _ _ _ (heap_alloc_new _ _)).trans (rowC_get h k (by omega))

end Go.Proofs.Ythmdkbeccohjkaa
