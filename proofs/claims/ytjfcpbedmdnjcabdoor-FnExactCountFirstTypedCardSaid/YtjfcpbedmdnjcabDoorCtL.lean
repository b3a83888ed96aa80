/- The letters that lead on from so many letters of a word to so many: the contract of leadingOn. -/
import Derived.Test.YtjfcpbedmdnjcabDoorIar
import Derived.Test.YtjfcpbedmdnjcabDoorKeptG
import Derived.Test.YtjfcpbedmdnjcabDoorSPush
import Derived.Deep.RegionHeld3
import Derived.RegionTactic
import Derived.ChangeAlike
namespace Go.Proofs.YtjfcpbedmdnjcabDoor
set_option linter.unusedSimpArgs false
open Go.ChangeShapes Go.WideShapes Go.ChangeAt Go.RowKit
set_option linter.unusedVariables false

theorem ctK_size (s : ByteArray) (h k : Nat) (hh : h < s.size) (hk : k < 26) : (keptT [s] (s.extract 0 h ++ alpha.extract k (k + 1))).size = ctG s h k := by
  have hz := txtN_size s h (ctl k) (by omega) (ctl_size k)
  rw [ctl_alpha k hk]
  show (keptT [s] (txtN s h (ctl k))).size = goD s h (ctl k) (h + 1)
  unfold keptT
  rw [hz]
  refine goD_size s h (ctl k) hh (ctl_size k) (h + 1) (Nat.le_refl _) (fun q => Lib.hasPrefix s.data.toList ((txtN s h (ctl k)).extract (h + 1 - q) (h + 1)).data.toList) (fun q hq => rfl) (keptD [s] (txtN s h (ctl k))) ?_ ?_
  · show sufx _ 0 = _
    unfold sufx
    rw [hz]
    rfl
  · intro q hq
    rw [keptD]
    unfold preAny sufx
    rw [hz]
    simp
structure LdS (w : World) (G : Nat → Int) (wr : World) : Prop where
  res : wr.heap[w.heap.size]? = some (.cells (iN 72 noI) 84)
  now : wr.heap[w.heap.size + 1]? = some (.cells (iN 72 G) 84)
  big : w.heap.size + 1 < wr.heap.size
  bel : Below w.heap.size w wr
theorem LdS.keep {w : World} {G : Nat → Int} {wr wv : World} (h : LdS w G wr) (hb : Below wr.heap.size wr wv) : LdS w G wv :=
  ⟨(hb.block w.heap.size (by have := h.big; omega)).trans h.res, (hb.block (w.heap.size + 1) h.big).trans h.now, Nat.lt_of_lt_of_le h.big hb.size, bel_trans h.bel hb⟩
theorem LdS.drewN {w : World} {G : Nat → Int} {wr : World} (h : LdS w G wr) (q : Nat) : LdS w G (wr.drewN q) := ⟨h.res, h.now, h.big, bel_drewN h.bel q⟩
theorem LdS.start (w : World) : LdS w noI ((w.alloc (.cells (iN 72 noI) 84)).alloc (.cells (iN 72 noI) 84)) :=
  ⟨(heap_alloc_old _ _ (by rw [← size1]; omega)).trans (heap_alloc_new w _), heap_alloc2_new w _ _, by show _ < ((w.heap.push _).push _).size; simp, bel_alloc (bel_alloc (Below.refl _ w) _) _⟩
theorem LdS.cells {w : World} {G : Nat → Int} {wr : World} (h : LdS w G wr) (q : Nat) (hq : q < 72) : wr.cell? ⟨w.heap.size + 1, q, none⟩ = some (.int .i64 (G q)) ∧ wr.frozen? ⟨w.heap.size + 1, q, none⟩ = false :=
  ⟨cell_heap h.now (iN_get 72 G q hq), froz_heap h.now⟩
theorem LdS.set {w : World} {G G' : Nat → Int} {wr : World} (h : LdS w G wr) (q : Nat) (hq : q < 72) (x : Int) (hx : G' q = x) (ho : ∀ i, i < 72 → i ≠ q → G' i = G i) : LdS w G' (wr.setCell ⟨w.heap.size + 1, q, none⟩ (.int .i64 x)) := by
  refine ⟨?_, ?_, by simpa using h.big, h.bel.setCell (by show w.heap.size ≤ w.heap.size + 1; omega) _⟩
  · have := h.res
    simp only [World.setCell, Array.getElem?_modify]
    rw [if_neg (by omega)]
    exact this
  · rw [set_heap h.now, iN_set 72 G G' x q hq hx ho]
theorem SRow.lit1d (w : World) (a : ByteArray) : SRow (w.alloc (.cells #[.string a] 9)).drew w.heap.size (.slice (some ⟨w.heap.size, 0, none⟩) 1 1) [a] := SRow.lit1 w a
set_option maxRecDepth 100000 in
set_option maxHeartbeats 3200000 in
theorem leadingOn_any (n : Nat) (s : ByteArray) (w : World) (n2 : n ≤ 26) (h1 : 1 ≤ s.size) (h8 : s.size ≤ 8) :
    Calls Tryd.prog 62 #[.int .i64 n, .string s] w fun e w' => e = .returned (.agg (iN 72 (ldG s n s.size 0))) ∧ Below w.heap.size w w' := by
  have hst := Lib.hid (LdS.start w)
  go_enter Tryd.func62, Tryd.ntmps62
  go_wp2_with (first
    | (refine wpList_alloc_row rfl 84 rfl (iN 72 noI) (led_zero _) ?_))
  go_loopw [11] (fun x wr => ∃ h : Nat, h ≤ s.size ∧ x = .int .i64 h ∧ Hid (LdS w (ldG s n h 0) wr)) (fun x _ => s.size - (intOf x).toNat)
  case atStart => exact ⟨0, by omega, rfl, by rw [ldG_zero]; exact hst⟩
  case round =>
    obtain ⟨h, hh, rfl, hS⟩ := hrel
    obtain ⟨wa, rfl⟩ : ∃ wa : World, wa = wr := ⟨_, rfl⟩
    by_cases hlt : h < s.size
    · go_wp2_with fail
      go_loopw [15] (fun x wr => ∃ k : Nat, k ≤ n ∧ x = .int .i64 k ∧ Hid (LdS w (ldG s n h k) wr)) (fun x _ => n - (intOf x).toNat)
      case atStart => exact ⟨0, by omega, rfl, hS⟩
      case round =>
        obtain ⟨k, hk, rfl, hT⟩ := hrel
        obtain ⟨wb, rfl⟩ : ∃ wb : World, wb = wr := ⟨_, rfl⟩
        by_cases hkn : k < n
        · have hgle := ctG_le s h k
          have hK := ctK_size s h k hlt (by omega)
          have hsz : (s.extract 0 h ++ alpha.extract k (k + 1)).size ≤ 100 := by
            rw [ctl_alpha k (by omega), ByteArray.size_append, ctl_size, ext_size s 0 h (by omega)]
            omega
          have hj1 : (s.extract 0 h).size = h := by rw [ext_size s 0 h (by omega)]; omega
          have hj2 : (alpha.extract k (k + 1)).size = 1 := by rw [ctl_alpha k (by omega), ctl_size]
          unfold alpha at hK hsz hj2
          have t1 : ¬ 9223372036854775807 < (s.extract 0 h).size + (ByteArray.extract (⟨#[97, 98, 99, 100, 101, 102, 103, 104, 105, 106, 107, 108, 109, 110, 111, 112, 113, 114, 115, 116, 117, 118, 119, 120, 121, 122]⟩ : ByteArray) k (k + 1)).size := by rw [hj1, hj2]; omega
          have t2 : ¬ 9223372036854775807 < h + 1 := by omega
          have t3 : ¬ 9223372036854775807 < (s.extract 0 h).size + 1 := by omega
          have t4 : ¬ 9223372036854775807 < h + (ByteArray.extract (⟨#[97, 98, 99, 100, 101, 102, 103, 104, 105, 106, 107, 108, 109, 110, 111, 112, 113, 114, 115, 116, 117, 118, 119, 120, 121, 122]⟩ : ByteArray) k (k + 1)).size := by rw [hj2]; omega
          have HK := Lib.hid hK
          have Hsz := Lib.hid hsz
          have c1 : (0 : Int) ≤ (k : Int) + 1 := by omega
          have c2 : (k : Int) ≤ (k : Int) + 1 := by omega
          have c3 : (k : Int) + 1 ≤ 26 := by omega
          have c4 : IntKind.i64.wrap ((k : Int) + 1) = (k : Int) + 1 := IntWalk.i64_in _ (by omega)
          have c5 : (h : Int) ≤ (s.size : Int) := by omega
          clear hK hsz
          go_wp2_with fail
          go_region_held3 (fun w' => Below wb.heap.size wb w')
            (first | exact (Below.refl _ _).drew | exact bel_trans (by assumption) hbq | assumption | exact bel_alloc2 (by assumption) (Nat.le_refl _) _ | exact bel_alloc2 ((Below.refl _ _).drew) (Nat.le_refl _) _ | exact (bel_alloc2 (by assumption) (Nat.le_refl _) _).drew | exact (bel_alloc2 (Below.refl _ _) (Nat.le_refl _) _).drew | go_keep)
            (first | (go_at_call 76; refine (keptG_any [s] _ _ _ _ (by first | exact SRow.lit1 _ s | exact SRow.lit1d _ s) (by simp) Hsz.out).mono ?_; rintro e wk ⟨rfl, hbq⟩))
          have hS2 := (by assumption : Below wb.heap.size wb wk)
          have hT2 := hT.out.keep hS2
          obtain ⟨x0, x1⟩ := hT2.cells (h * 9 + ctG s h k) (by omega)
          rw [ldG_at s n h k _ (by omega)] at x0
          obtain ⟨y0, y1⟩ := ctC_in s h (ctG s h k) k
          have hw : IntKind.i64.wrap (ctC s h (ctG s h k) k + 1) = ctC s h (ctG s h k) k + 1 := IntWalk.i64_in _ (by omega)
          have hT3 := Lib.hid (hT2.set (h * 9 + ctG s h k) (by omega) (ctC s h (ctG s h k) k + 1) (G' := ldG s n h (k + 1)) (by rw [ldG_at s n h (k + 1) _ (by omega), ctC_yes rfl]) (fun i _ hi => ldG_next s n h k (by omega) i hi))
          have g1 : (h : Int) < 8 := by omega
          have g2 : ((ctG s h k : Nat) : Int) < 9 := by omega
          have HTs := HK.out
          generalize keptT [s] _ = T at *
          generalize ctG s h k = K at *
          generalize ctC s h K k = C at *
          clear hT2 y0 y1 hS2 hgle Hsz hj1 hj2 t1 t2 t3 t4
          go_wp2_with fail
          go_region
          go_wp2_with fail
          exact ⟨⟨k + 1, by omega, by go_num, Lib.hid (hT3.out.drewN 1)⟩, by simp [intOf]; omega⟩
        · obtain rfl : k = n := by omega
          have hrw := Lib.hid (ldG_row s k h)
          go_wp2_with fail
          exact ⟨⟨h + 1, by omega, by go_num, by rw [← hrw.out]; exact hT⟩, by simp [intOf]; omega⟩
    · obtain rfl : h = s.size := by omega
      go_wp2_with (first
        | (refine wpList_load_row rfl 84 (.tmp 5) rfl (w.heap.size + 1) (by simp [Act.put, Act.eval]) _ (iN 72 (ldG s n s.size 0)) _ _ hS.out.now Tryd.underlying84 rfl (by rw [iN_size]; exact led_info) ?_)
        | (refine wpList_store_row rfl 84 (.tmp 4) (.tmp 40) rfl w.heap.size (iN 72 (ldG s n s.size 0)) (by simp [Act.put, Act.eval]) (by simp [Act.put, Act.eval]) _ _ hS.out.res (by rw [iN_size]; exact led_info) (by rw [iN_size, iN_size]) (iN_one _ _) ?_))
      refine bodyPost_ret (results_cell_row rfl _ _ w.heap.size _ (iN 72 (ldG s n s.size 0)) _ _ (by simp [Act.put, Act.eval]) (setRow_heap _ _ _ _ _ _ hS.out.res) Tryd.underlying84 rfl (by rw [iN_size]; exact led_info)) rfl ⟨rfl, ?_⟩
      exact bel_setRow hS.out.bel (Nat.le_refl _) _
end Go.Proofs.YtjfcpbedmdnjcabDoor
