/- Slices of texts that are handed in, read as lists: contracts of the law's own helpers over them. -/
import Derived.Test.YtjckmnbpfmcadacDoorAllT
import Derived.Laws.MakeOwn
import Derived.SliceStrings
namespace Go.Proofs.YtjckmnbpfmcadacDoor
set_option linter.unusedSimpArgs false
open Go.ChangeShapes Go.WideShapes Go.ChangeAt Go.RowKit
set_option linter.unusedVariables false

theorem block_of_addS (a : Addr) (n : Nat) : (a.add n).block = a.block := by unfold Addr.add; split <;> rfl
/-- The slice v reads as the texts xs; its cells lie below block B. -/
def RdS (w : World) (B : Nat) (v : Value) (xs : List ByteArray) : Prop :=
  ∃ A cap, v = .slice A xs.length cap ∧ xs.length ≤ cap ∧ cap ≤ maxLen ∧
    (0 < xs.length → ∃ ad : Addr, A = some ad ∧ ad.block < B ∧ ∀ k, k < xs.length → w.cell? (ad.add k) = some (.string (xs.getD k ByteArray.empty))) ∧ ∀ x ∈ xs, x.size ≤ maxLen
theorem RdS.keep {w w' : World} {B : Nat} {v : Value} {xs : List ByteArray} (h : RdS w B v xs) (hk : ∀ p : Addr, p.block < B → w'.cell? p = w.cell? p) : RdS w' B v xs := by
  obtain ⟨A, cap, e, h1, h2, h3, h4⟩ := h
  refine ⟨A, cap, e, h1, h2, fun hl => ?_, h4⟩
  obtain ⟨ad, e1, e2, e3⟩ := h3 hl
  exact ⟨ad, e1, e2, fun k hkk => (hk _ (by rw [block_of_addS]; exact e2)).trans (e3 k hkk)⟩
theorem RdS.below {w w' : World} {B C : Nat} {v : Value} {xs : List ByteArray} (h : RdS w B v xs) (hb : Below C w w') (hB : B ≤ C) : RdS w' B v xs :=
  h.keep fun _ hp => hb.cell (Nat.lt_of_lt_of_le hp hB)
theorem RdS.drewN {w : World} {B : Nat} {v : Value} {xs : List ByteArray} (h : RdS w B v xs) (n : Nat) : RdS (w.drewN n) B v xs := h
theorem RdS.at_ {w : World} {B n cap : Nat} {A : Option Addr} {xs : List ByteArray} (h : RdS w B (.slice A n cap) xs) {k : Nat} (hk : k < xs.length) :
    ∃ ad : Addr, A = some ad ∧ ad.block < B ∧ w.cell? (ad.add k) = some (.string (xs.getD k ByteArray.empty)) := by
  obtain ⟨A', cap', e, h1, h2, h3, h4⟩ := h
  injection e with e1 e2 e3
  subst e1
  obtain ⟨ad, e1, e2, e3⟩ := h3 (by omega)
  exact ⟨ad, e1, e2, e3 k hk⟩
theorem RdS.form {w : World} {B : Nat} {v : Value} {xs : List ByteArray} (h : RdS w B v xs) : ∃ A cap, v = .slice A xs.length cap ∧ xs.length ≤ cap ∧ cap ≤ maxLen := by
  obtain ⟨A', cap', e, h1, h2, h3, h4⟩ := h
  exact ⟨A', cap', e, h1, h2⟩
theorem RdS.sz {w : World} {B : Nat} {v : Value} {xs : List ByteArray} (h : RdS w B v xs) : ∀ x ∈ xs, x.size ≤ maxLen := by
  obtain ⟨A', cap', e, h1, h2, h3, h4⟩ := h
  exact h4
/-- An argument of the type []string reads as a list. -/
theorem rdS_open {H : Type} {enc : TypeId × Value → H} {P : Program} {w : World} {held : Bool} {t q : TypeId} {v : Value} {d : DataW H} {p : List MemPlace} (ht : P.underlying t = some (.slice q)) (hq : P.underlying q = some .string) (cq : P.cellsOf q = 1)
    (h : ∃ fuel, DataW.trod enc P w 0 (fun _ => true) held fuel t [v] = some (d, p)) : ∃ xs : List ByteArray, RdS w w.heap.size v xs := by
  obtain ⟨fuel, h⟩ := h
  rcases open_strings ht hq cq h with ⟨h0, _⟩ | ⟨a, len, cap, zs, h0, _, h1, h2, h3, _, h4, h5⟩
  · simp at h0
    subst h0
    exact ⟨[], none, 0, rfl, Nat.le_refl _, by simp [maxLen], fun h => by simp at h, fun x hx => by simp at hx⟩
  · simp at h0
    subst h0
    simp at h3
    refine ⟨zs.take len, some a, cap, by simp [h3, h1], by simp [h3, h1], h2, fun hl => ⟨a, rfl, ?_, fun k hk => ?_⟩, fun x hx => h5 x (List.mem_of_mem_take hx)⟩
    · simp [h3] at hl
      have := World.block_lt_of_cell? w _ (h4 0 (by omega))
      rwa [block_of_addS] at this
    · have hk' : k < len := by rw [List.length_take] at hk; omega
      rw [h4 k (by omega)]
      simp [List.getD_eq_getElem?_getD, hk']

/-- The call returns a number; it is negative or the list is short. -/
def SzS (xs : List ByteArray) (w : World) (e : Ending) (w' : World) : Prop := ∃ z : Int, e = .returned (.int .i64 z) ∧ (z < 0 ∨ xs.length ≤ 1048576) ∧ w = w'
set_option maxHeartbeats 1600000 in
theorem szStr_any (xs : List ByteArray) (v : Value) (B : Nat) (w : World) (h : RdS w B v xs) :
    Calls Tryd.prog 23 #[v, .int .i64 1048576] w (SzS xs w) := by
  obtain ⟨A, cap, rfl, hc1, hc2⟩ := h.form
  have hsz := Lib.hid h.sz
  have HR := Lib.hid h
  clear h
  unfold maxLen at hc2
  have hw1 : IntKind.i64.wrap (1048576 - (xs.length : Int)) = 1048576 - (xs.length : Int) := IntWalk.i64_in _ (by omega)
  by_cases hn : xs.length ≤ 1048576
  · generalize hN : xs.length = N at *
    have HN := Lib.hid hN
    clear hN
    have hn0 : ¬ (1048576 : Int) - (N : Int) < 0 := by omega
    go_enter Tryd.func23, Tryd.ntmps23
    go_wp2_with fail
    go_loop [1, 5] (fun x i => ∃ (k : Nat) (z : Int), k ≤ N ∧ i = .int .i64 k ∧ x = .int .i64 z ∧ 0 ≤ z ∧ z ≤ 1048576) (fun _ i => N - (intOf i).toNat)
    case atStart => exact ⟨0, _, by omega, rfl, rfl, by omega, by omega⟩
    case round =>
      obtain ⟨k, z, hk, rfl, rfl, z0, z1⟩ := hrel
      by_cases hlt : k < N
      · obtain ⟨ad, rfl, had, c0⟩ := HR.out.at_ (k := k) (by rw [HN.out]; exact hlt)
        have hxs := hsz.out _ (show xs.getD k ByteArray.empty ∈ xs from by rw [List.getD_eq_getElem?_getD, List.getElem?_eq_getElem (by rw [HN.out]; exact hlt)]; exact List.getElem_mem _)
        unfold maxLen at hxs
        generalize xs.getD k ByteArray.empty = x at *
        have hw2 : IntKind.i64.wrap (z - (x.size : Int)) = z - (x.size : Int) := IntWalk.i64_in _ (by omega)
        by_cases hz : z - (x.size : Int) < 0
        · go_wp2_with fail
          go_ret
          exact ⟨-1, rfl, .inl (by omega), rfl⟩
        · go_wp2_with fail
          exact ⟨⟨k + 1, _, by omega, by go_num, rfl, by omega, by omega⟩, by simp [intOf]; omega⟩
      · go_wp2_with fail
        go_ret
        exact ⟨_, rfl, .inr (by rw [HN.out]; exact hn), rfl⟩
  · have hn0 : (1048576 : Int) - (xs.length : Int) < 0 := by omega
    clear HR hsz
    generalize xs.length = N at *
    go_enter Tryd.func23, Tryd.ntmps23
    go_wp2_with fail
    go_ret
    exact ⟨-1, rfl, .inl (by omega), rfl⟩
theorem madeOneS (v : Value) (n : Nat) : madeCells #[v] n = Array.replicate n v := by
  apply Array.ext
  · simp [madeCells]
  · intro i h1 h2
    simp [madeCells, Nat.mod_one]
theorem mk_strs (n : Nat) (hn : n ≤ 1048576) (W : World) : (Instr.makeSlice 34 (.int .i64 n) (.int .i64 n)).run Tryd.prog W = .ok (.slice (some ⟨W.heap.size, 0, none⟩) n n) (W.alloc (.cells (Array.replicate n (.string ByteArray.empty)) 9)) := by
  obtain ⟨i0, hi, hz0, hz1, hz2⟩ := info_parts info_str
  have h := run_make (P := Tryd.prog) W 34 9 i0 _ Tryd.underlying34 hi hz0 .i64 .i64 n n (by omega) (by omega) (by rw [hz2]; omega) (by omega)
  rw [h, hz1]
  simp [Value.cells, madeOneS]
theorem SRow.made (W : World) (n : Nat) (hn : n ≤ 1048576) : SRow (W.alloc (.cells (Array.replicate n (.string ByteArray.empty)) 9)) W.heap.size (.slice (some ⟨W.heap.size, 0, none⟩) n n) (List.replicate n ByteArray.empty) := by
  have h := World.ownsRow_lit (base := W.heap.size) (e := 9) (size := 1) W (Array.replicate n (.string ByteArray.empty)) n (Nat.le_refl _) (by simp only [maxLen]; omega) (by simp)
  unfold SRow
  rw [List.length_replicate, List.map_replicate]
  simpa using h
/-- The first k of xs, then empty texts. -/
def copyS (xs : List ByteArray) (k : Nat) : List ByteArray := xs.take k ++ List.replicate (xs.length - k) ByteArray.empty
theorem copyS_len (xs : List ByteArray) (k : Nat) (hk : k ≤ xs.length) : (copyS xs k).length = xs.length := by unfold copyS; simp; omega
theorem copyS_all (xs : List ByteArray) : copyS xs xs.length = xs := by unfold copyS; simp
theorem copyS_set (xs : List ByteArray) (k : Nat) (hk : k < xs.length) : (copyS xs k).set k (xs.getD k ByteArray.empty) = copyS xs (k + 1) := by
  unfold copyS
  rw [List.set_append_right _ _ (by simp; omega), List.take_succ_eq_append_getElem hk, List.append_assoc, List.length_take, Nat.min_eq_left (by omega), Nat.sub_self, show xs.length - k = (xs.length - (k + 1)) + 1 from by omega, List.replicate_succ, List.set_cons_zero, List.getD_eq_getElem?_getD, List.getElem?_eq_getElem hk]
  rfl

set_option maxRecDepth 100000 in
set_option maxHeartbeats 1600000 in
theorem toStr_any (xs : List ByteArray) (v : Value) (B : Nat) (w : World) (h : RdS w B v xs) (hB : B ≤ w.heap.size) (hn : xs.length ≤ 1048576) :
    Calls Tryd.prog 25 #[v] w (RowS xs w) := by
  obtain ⟨A, cap, rfl, hc1, hc2⟩ := h.form
  have hmk : ∀ W : World, (Instr.makeSlice 34 (.int .i64 (xs.length : Int)) (.int .i64 (xs.length : Int))).run Tryd.prog W = .ok (.slice (some ⟨W.heap.size, 0, none⟩) xs.length xs.length) (W.alloc (.cells (Array.replicate xs.length (.string ByteArray.empty)) 9)) := fun W => mk_strs xs.length hn W
  have hm0 := SRow.made w xs.length hn
  have hbl0 := bel_alloc (Below.refl _ w) (.cells (Array.replicate xs.length (.string ByteArray.empty)) 9)
  have h0 : List.replicate xs.length ByteArray.empty = copyS xs 0 := by unfold copyS; simp
  rw [h0] at hm0
  have Hm0 := Lib.hid hm0
  have HR := Lib.hid h
  have hset := Lib.hid (fun k hk => copyS_set xs k hk)
  have hcl := Lib.hid (fun k hk => copyS_len xs k hk)
  have hall := Lib.hid (copyS_all xs)
  clear hm0 h h0
  generalize hN : xs.length = N at *
  have HN := Lib.hid hN
  clear hN
  go_enter Tryd.func25, Tryd.ntmps25
  go_wp2_with fail
  go_loopw [4] (fun i wr => ∃ k : Nat, k ≤ N ∧ i = .int .i64 k ∧ Hid (SRow wr w.heap.size (.slice (some ⟨w.heap.size, 0, none⟩) N N) (copyS xs k)) ∧ Below w.heap.size w wr) (fun i _ => N - (intOf i).toNat)
  case atStart => exact ⟨0, by omega, rfl, Hm0.out, hbl0⟩
  case round =>
    obtain ⟨k, hk, rfl, hU, hb⟩ := hrel
    obtain ⟨wa, rfl⟩ : ∃ wa : World, wa = wr := ⟨_, rfl⟩
    by_cases hlt : k < N
    · obtain ⟨ad, rfl, had, c0⟩ := (HR.out.below hb hB).at_ (k := k) (by rw [HN.out]; exact hlt)
      have hr := hU.out
      rw [← hcl.out k hk] at hr
      have c1 := hr.at_ k (by rw [hcl.out k hk]; exact hlt)
      have f1 := World.ownsRow.frozenAt hr k
      obtain ⟨hs1, hs2⟩ := hr.store k (xs.getD k ByteArray.empty)
      rw [hset.out k hlt, hcl.out k hk] at hs1
      have Hs1 := Lib.hid hs1
      have hki : (k : Int) < (N : Int) := by omega
      have hbs : Below w.heap.size w (wa.setCell ⟨w.heap.size, k, none⟩ (.string (xs.getD k ByteArray.empty))) := hb.setCell (Nat.le_refl _) _
      clear hr hs1 hs2
      generalize xs.getD k ByteArray.empty = x at *
      generalize (copyS xs k).getD k ByteArray.empty = y at *
      go_wp2_with fail
      exact ⟨⟨k + 1, by omega, by go_num, Hs1, hbs⟩, by simp [intOf]; omega⟩
    · obtain rfl : k = N := by omega
      have hf := hU.out
      rw [hall.out] at hf
      have Hf := Lib.hid hf
      clear hf
      go_wp2_with fail
      go_ret
      exact ⟨_, rfl, Hf.out, hb⟩
end Go.Proofs.YtjckmnbpfmcadacDoor
