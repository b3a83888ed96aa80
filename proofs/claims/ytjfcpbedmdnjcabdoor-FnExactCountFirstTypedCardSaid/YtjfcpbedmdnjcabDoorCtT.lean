/- Texts counted by letters: the contract of the program's textsTyped. -/
import Derived.Test.YtjfcpbedmdnjcabDoorCtL
namespace Go.Proofs.YtjfcpbedmdnjcabDoor
set_option linter.unusedSimpArgs false
open Go.ChangeShapes Go.WideShapes Go.ChangeAt Go.RowKit
set_option linter.unusedVariables false

/-- What the first h numbers of letters lead on to, and of the next one for the ends before jj. -/
def txG (s : ByteArray) (n : Nat) (f : Nat → Int) (h jj : Nat) (j : Nat) : Int := if j < jj then ctP s n f (h + 1) j else ctP s n f h j
theorem txG_zero (s : ByteArray) (n : Nat) (f : Nat → Int) (h : Nat) : txG s n f h 0 = ctP s n f h := by
  funext j
  unfold txG
  rw [if_neg (by omega)]
theorem txG_at (s : ByteArray) (n : Nat) (f : Nat → Int) (h jj : Nat) : txG s n f h jj jj = ctP s n f h jj := by
  unfold txG
  rw [if_neg (Nat.lt_irrefl _)]
theorem txG_new (s : ByteArray) (n : Nat) (f : Nat → Int) (h jj : Nat) : txG s n f h (jj + 1) jj = ctM (ctP s n f h jj + ctC s h jj n * f h) := by
  unfold txG
  rw [if_pos (by omega)]
  rfl
theorem txG_old (s : ByteArray) (n : Nat) (f : Nat → Int) (h jj i : Nat) (hi : i ≠ jj) : txG s n f h (jj + 1) i = txG s n f h jj i := by
  unfold txG
  by_cases a : i < jj
  · rw [if_pos a, if_pos (by omega)]
  · rw [if_neg a, if_neg (by omega)]
theorem txG_all (s : ByteArray) (n : Nat) (f : Nat → Int) (h : Nat) : iN 9 (txG s n f h 9) = iN 9 (ctP s n f (h + 1)) := iN_congr 9 fun q hq => by
  unfold txG
  rw [if_pos hq]
/-- The blocks of the call: its answer, what leads on, here. -/
structure TxS (w : World) (L : Nat → Int) (F : Nat → Int) (B : Nat) (wr : World) : Prop where
  res : wr.heap[w.heap.size]? = some (.cells (iN 9 noI) 67)
  led : wr.heap[B]? = some (.cells (iN 72 L) 84)
  here : wr.heap[B + 1]? = some (.cells (iN 9 F) 67)
  low : w.heap.size < B
  big : B + 1 < wr.heap.size
  bel : Below w.heap.size w wr
theorem TxS.keep {w : World} {L F : Nat → Int} {B : Nat} {wr wv : World} {C : Nat} (h : TxS w L F B wr) (hb : Below C wr wv) (hC : B + 1 < C) : TxS w L F B wv := by
  have h1 := h.low
  have h2 := h.big
  exact ⟨(hb.block w.heap.size (by omega)).trans h.res, (hb.block B (by omega)).trans h.led, (hb.block (B + 1) hC).trans h.here, h1, Nat.lt_of_lt_of_le h2 hb.size, h.bel.trans (hb.mono (by omega))⟩
/-- And the next ends, in a block made since. -/
def TxN (wa : World) (G : Nat → Int) (wr : World) : Prop := wr.heap[wa.heap.size]? = some (.cells (iN 9 G) 67) ∧ Below wa.heap.size wa wr
theorem TxN.start (wa : World) : TxN wa noI (wa.alloc (.cells (iN 9 noI) 67)) := ⟨heap_alloc_new wa _, bel_alloc (Below.refl _ wa) _⟩
theorem TxN.set {wa wr : World} {G G' : Nat → Int} (h : TxN wa G wr) (q : Nat) (hq : q < 9) (x : Int) (hx : G' q = x) (ho : ∀ i, i < 9 → i ≠ q → G' i = G i) : TxN wa G' (wr.setCell ⟨wa.heap.size, q, none⟩ (.int .i64 x)) :=
  ⟨by rw [set_heap h.1, iN_set 9 G G' x q hq hx ho], h.2.setCell (Nat.le_refl _) _⟩

theorem cases9 {p : Nat → Prop} (h0 : p 0) (h1 : p 1) (h2 : p 2) (h3 : p 3) (h4 : p 4) (h5 : p 5) (h6 : p 6) (h7 : p 7) (h8 : p 8) : ∀ q, q < 9 → p q
  | 0, _ => h0 | 1, _ => h1 | 2, _ => h2 | 3, _ => h3 | 4, _ => h4 | 5, _ => h5 | 6, _ => h6 | 7, _ => h7 | 8, _ => h8
  | n + 9, h => absurd h (by omega)
theorem TxS.setHere {w : World} {L F F' : Nat → Int} {B : Nat} {wr : World} (h : TxS w L F B wr) : TxS w L F' B (wr.setRow (B + 1) (iN 9 F')) := by
  have h1 := h.low
  have h2 := h.big
  exact ⟨(setRow_other _ _ _ _ (by omega)).trans h.res, (setRow_other _ _ _ _ (by omega)).trans h.led, setRow_heap _ _ _ _ _ _ h.here, h1, by simpa [World.setRow] using h2, bel_setRow h.bel (by omega) _⟩
theorem idx_end (h : Nat → Int) (w : World) : ∀ i : Nat, i < 9 → (Instr.index 67 (.agg (iN 9 h)) (.int .i64 (i : Int))).run Tryd.prog w = .ok (.int .i64 (h i)) w := by
  apply cases9 <;> kernel_rfl
theorem ld_row (s : ByteArray) (n h : Nat) (hh : h < s.size) (h8 : s.size ≤ 8) {wr : World} {B : Nat} (hb : wr.heap[B]? = some (.cells (iN 72 (ldG s n s.size 0)) 84)) :
    World.rangeAt wr B (h * 9) ((List.range 9).map fun j => Value.int .i64 (ctC s h j n)) := by
  intro j v hv
  have hj : j < 9 := by
    have := (List.getElem?_eq_some_iff.1 hv).1
    simpa using this
  rw [List.getElem?_map, List.getElem?_range hj] at hv
  rw [cell_heap hb (iN_get 72 _ (h * 9 + j) (by omega)), ldG_all s n h j hh hj]
  exact hv

set_option maxRecDepth 100000 in
set_option maxHeartbeats 3200000 in
theorem textsTyped_any (n : Nat) (s : ByteArray) (L : Nat) (w : World) (n2 : n ≤ 26) (h1 : 1 ≤ s.size) (h8 : s.size ≤ 8) (hL : L ≤ 30) :
    Calls Tryd.prog 39 #[.int .i64 n, .string s, .int .i64 L] w fun e w' => e = .returned (.agg (iN 9 (ctV s n L))) ∧ Below w.heap.size w w' := by
  have hV := Lib.hid (ctV_in s n)
  go_enter Tryd.func39, Tryd.ntmps39
  go_wp2_with (first
    | (refine wpList_alloc_row rfl 67 rfl (iN 9 noI) (end_zero _) ?_))
  refine (leadingOn_any n s _ n2 h1 h8).mono ?_
  rintro e w1 ⟨rfl, hb1⟩
  have hbl1 := Lib.hid (bel_trans (bel_alloc (Below.refl _ w) (.cells (iN 9 noI) 67)) hb1)
  have hR := Lib.hid ((hb1.block w.heap.size (by rw [← size1]; omega)).trans (heap_alloc_new w _))
  have hsz := hb1.size
  rw [← size1] at hsz
  clear hb1
  generalize hLd : ldG s n s.size 0 = Ld at *
  have HLd := Lib.hid hLd
  clear hLd
  go_wp2_with (first
    | (refine wpList_alloc_row rfl 84 rfl (iN 72 noI) (led_zero _) ?_)
    | (refine wpList_alloc_row rfl 67 rfl (iN 9 noI) (end_zero _) ?_)
    | (refine wpList_store_new (k := w1.heap.size) (c' := iN 72 Ld) rfl 84 (.tmp 7) (.tmp 16) rfl rfl ?_ ?_ (by rw [iN_size]; exact led_info) (by rw [iN_size, iN_size]) (iN_one _ _) ?_; (· simp [Act.put, Act.eval]); (· simp [Act.put, Act.eval]))
    | (refine wpList_store_new (k := w1.heap.size + 1) (c' := #[.int .i64 1, .int .i64 0, .int .i64 0, .int .i64 0, .int .i64 0, .int .i64 0, .int .i64 0, .int .i64 0, .int .i64 0]) rfl 67 (.tmp 8) (.tmp 17) rfl (by simp) ?_ ?_ end_info (by rw [iN_size]; rfl) (by simp [Value.oneCell']) ?_; (· simp [Act.put, Act.eval]); (· simp [Act.put, Act.eval])))
  have h0 : (#[.int .i64 1, .int .i64 0, .int .i64 0, .int .i64 0, .int .i64 0, .int .i64 0, .int .i64 0, .int .i64 0, .int .i64 0] : Array Value) = iN 9 (ctV s n 0) := rfl
  rw [h0]
  clear h0
  have hst : Hid (TxS w Ld (ctV s n 0) w1.heap.size ((w1.alloc (.cells (iN 72 Ld) 84)).alloc (.cells (iN 9 (ctV s n 0)) 67))) := by
    refine Lib.hid ⟨?_, ?_, heap_alloc2_new w1 _ _, by omega, by show _ < ((w1.heap.push _).push _).size; simp, bel_alloc (bel_alloc hbl1.out _) _⟩
    · rw [heap_alloc_old _ _ (by rw [← size1]; omega), heap_alloc_old _ _ (by omega)]
      exact hR.out
    · rw [heap_alloc_old _ _ (by rw [← size1]; omega)]
      exact heap_alloc_new w1 _
  generalize w1.heap.size = B at *
  generalize (w1.alloc (.cells (iN 72 Ld) 84)).alloc (.cells (iN 9 (ctV s n 0)) 67) = w2 at *
  go_loopw [19] (fun x wr => ∃ i : Nat, i ≤ L ∧ x = .int .i64 i ∧ Hid (TxS w Ld (ctV s n i) B wr)) (fun x _ => L - (intOf x).toNat)
  case atStart => exact ⟨0, by omega, rfl, hst⟩
  case round =>
    obtain ⟨i, hi, rfl, hS⟩ := hrel
    obtain ⟨wa, rfl⟩ : ∃ wa : World, wa = wr := ⟨_, rfl⟩
    by_cases hlt : i < L
    · have HF := Lib.hid (hV.out i)
      have hnx : Hid (iN 9 (ctP s n (ctV s n i) s.size) = iN 9 (ctV s n (i + 1))) := rfl
      generalize ctV s n i = F at *
      have hN0 := Lib.hid (TxN.start wa)
      have hbig := hS.out.big
      have hlow := hS.out.low
      have hse : (s.size : Int) ≤ 9 := by omega
      have hs0 : (0 : Int) ≤ (s.size : Int) := by omega
      go_wp2_with (first
        | (refine wpList_alloc_row rfl 67 rfl (iN 9 noI) (end_zero _) ?_))
      go_loopw [25] (fun x wr => ∃ h : Nat, h ≤ s.size ∧ x = .int .i64 h ∧ Hid (TxN wa (ctP s n F h) wr)) (fun x _ => s.size - (intOf x).toNat)
      case atStart => exact ⟨0, by omega, rfl, hN0⟩
      case round =>
        obtain ⟨h, hh, rfl, hN⟩ := hrel
        obtain ⟨wb, rfl⟩ : ∃ wb : World, wb = wr := ⟨_, rfl⟩
        have hSb := Lib.hid (hS.out.keep hN.out.2 hbig)
        by_cases hhl : h < s.size
        · have x0 : wb.cell? ⟨B + 1, h, none⟩ = some (.int .i64 (F h)) := cell_heap hSb.out.here (iN_get 9 F h (by omega))
          have hrg := Lib.hid (ld_row s n h hhl h8 (by rw [HLd.out]; exact hSb.out.led))
          have g1 : (h : Int) < 8 := by omega
          have HI := Lib.hid (fun (j : Nat) (hj : j < 9) (W : World) => idx_end (fun j => ctC s h j n) W j hj)
          have hlen : Hid ((Tryd.prog.info? 67).map (·.size) = some ((List.range 9).map fun j => Value.int .i64 (ctC s h j n)).length) := Lib.hid end_info
          have hA : Hid (((List.range 9).map fun j => Value.int .i64 (ctC s h j n)).toArray = iN 9 (fun j => ctC s h j n)) := rfl
          have HI2 : Hid (∀ (j : Nat), j < 9 → ∀ W : World, (Instr.index 67 (.agg ((List.range 9).map fun j => Value.int .i64 (ctC s h j n)).toArray) (.int .i64 (j : Int))).run Tryd.prog W = .ok (.int .i64 (ctC s h j n)) W) := HI
          clear HI hA
          generalize ((List.range 9).map fun j => Value.int .i64 (ctC s h j n)) = cs at *
          go_wp2_with (first
            | (refine wpList_load_mid rfl 67 (.tmp 31) rfl B (h * 9) (by simp [Act.put, Act.eval]) cs _ hrg.out Tryd.underlying67 rfl hlen.out ?_))
          generalize cs.toArray = A at *
          clear x0 hrg hlen
          have hz := Lib.hid (txG_zero s n F h)
          go_loopw [33] (fun x wr => ∃ j : Nat, j ≤ 9 ∧ x = .int .i64 j ∧ Hid (TxN wa (txG s n F h j) wr)) (fun x _ => 9 - (intOf x).toNat)
          case atStart => exact ⟨0, by omega, rfl, by rw [hz.out]; exact hN⟩
          case round =>
            obtain ⟨j, hj, rfl, hM⟩ := hrel
            obtain ⟨wc, rfl⟩ : ∃ wc : World, wc = wr := ⟨_, rfl⟩
            by_cases hjl : j < 9
            · have i2 := HI2.out j hjl
              have x0 : wc.cell? ⟨wa.heap.size, j, none⟩ = some (.int .i64 (txG s n F h j j)) := cell_heap hM.out.1 (iN_get 9 _ j hjl)
              have x1 : wc.frozen? ⟨wa.heap.size, j, none⟩ = false := froz_heap hM.out.1
              rw [txG_at] at x0
              obtain ⟨p0, p1⟩ := ctP_in s n F (fun q => (HF.out q).1) h j
              obtain ⟨q0, q1⟩ := ctC_in s h j n
              obtain ⟨f0, f1⟩ := HF.out h
              unfold ctX at p1 f1
              have m0 : 0 ≤ ctC s h j n * F h := Int.mul_nonneg q0 f0
              have m1 : ctC s h j n * F h ≤ 26 * 1000000000000001 := Int.mul_le_mul (by omega) f1 f0 (by omega)
              have w1' : IntKind.i64.wrap (ctC s h j n * F h) = ctC s h j n * F h := IntWalk.i64_in _ (by omega)
              have w2' : IntKind.i64.wrap (ctP s n F h j + ctC s h j n * F h) = ctP s n F h j + ctC s h j n * F h := IntWalk.i64_in _ (by omega)
              have hset : Hid (TxN wa (txG s n F h (j + 1)) (wc.setCell ⟨wa.heap.size, j, none⟩ (.int .i64 (ctM (ctP s n F h j + ctC s h j n * F h))))) := Lib.hid (hM.out.set j hjl _ (txG_new s n F h j) (fun q _ hq => txG_old s n F h j q hq))
              have g2 : (j : Int) < 9 := by omega
              have hmin : Hid (min (ctP s n F h j + ctC s h j n * F h) 1000000000000001 = ctM (ctP s n F h j + ctC s h j n * F h)) := Lib.hid (by unfold ctM ctX; split <;> omega)
              clear m0 m1 p0 p1 q0 q1 f0 f1
              generalize ctC s h j n = C at *
              generalize ctP s n F h j = X at *
              go_wp2_with fail
              rw [hmin.out]
              exact ⟨⟨j + 1, by omega, by go_num, hset⟩, by simp [intOf]; omega⟩
            · obtain rfl : j = 9 := by omega
              have hall := Lib.hid (txG_all s n F h)
              go_wp2_with fail
              exact ⟨⟨h + 1, by omega, by go_num, Lib.hid ⟨by rw [← hall.out]; exact hM.out.1, hM.out.2⟩⟩, by simp [intOf]; omega⟩
        · obtain rfl : h = s.size := by omega
          go_wp2_with (first
            | (refine wpList_load_row rfl 67 (.tmp 9) rfl wa.heap.size (by simp [Act.put, Act.eval]) _ (iN 9 (ctP s n F s.size)) _ _ hN.out.1 Tryd.underlying67 rfl (by rw [iN_size]; exact end_info) ?_)
            | (refine wpList_store_row rfl 67 (.tmp 8) (.tmp 49) rfl (B + 1) (iN 9 (ctP s n F s.size)) (by simp [Act.put, Act.eval]) (by simp [Act.put, Act.eval]) _ _ hSb.out.here (by rw [iN_size]; exact end_info) (by rw [iN_size, iN_size]) (iN_one _ _) ?_))
          rw [hnx.out]
          exact ⟨⟨i + 1, by omega, by go_num, Lib.hid hSb.out.setHere⟩, by simp [intOf]; omega⟩
    · obtain rfl : i = L := by omega
      go_wp2_with (first
        | (refine wpList_load_row rfl 67 (.tmp 8) rfl (B + 1) (by simp [Act.put, Act.eval]) _ (iN 9 (ctV s n i)) _ _ hS.out.here Tryd.underlying67 rfl (by rw [iN_size]; exact end_info) ?_)
        | (refine wpList_store_row rfl 67 (.tmp 6) (.tmp 51) rfl w.heap.size (iN 9 (ctV s n i)) (by simp [Act.put, Act.eval]) (by simp [Act.put, Act.eval]) _ _ hS.out.res (by rw [iN_size]; exact end_info) (by rw [iN_size, iN_size]) (iN_one _ _) ?_))
      refine bodyPost_ret (results_cell_row rfl _ _ w.heap.size _ (iN 9 (ctV s n i)) _ _ (by simp [Act.put, Act.eval]) (setRow_heap _ _ _ _ _ _ hS.out.res) Tryd.underlying67 rfl (by rw [iN_size]; exact end_info)) rfl ⟨rfl, ?_⟩
      exact bel_setRow hS.out.bel (Nat.le_refl _) _
end Go.Proofs.YtjfcpbedmdnjcabDoor
