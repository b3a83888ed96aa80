/- States that are read row by row: what the loops keep. -/
import Derived.Test.YtbfgieolehbedaaDoorMlS
import Derived.Deep.RegionHeld3
namespace Go.Proofs.YtbfgieolehbedaaDoor
set_option linter.unusedSimpArgs false
open Go.ChangeShapes Go.WideShapes Go.ChangeAt Go.RowKit
set_option linter.unusedVariables false

/-- One number is appended that was just laid into a block of its own. -/
theorem wpList_pushI {ops : Array Oper} {rest : List Oper} {o : Oper} {a : Act} {Q : Exit → Act → World → Prop} {W : World} (hgd : o.guard = none) (s x : Operand)
    (ho : o.op = .call { callee := .builtin .append, args := #[s, x], argTypes := #[40, 40] }) (base : Nat) (v : Value) (xs : List Int) (hown : IRow W base v xs) (hlen : xs.length ≤ 2000000) (hbase : base ≤ W.heap.size) (u : Int)
    (hs : a.eval s = v) (hx : a.eval x = .slice (some ⟨W.heap.size, 0, none⟩) 1 1)
    (h : ∀ v' w', IRow w' base v' (xs ++ [u]) → Below base W w' → wpList Tryd.prog ops Q rest (a.put o.dst v') w') : wpList Tryd.prog ops Q (o :: rest) a (W.alloc (.cells #[.int .i64 u] 3)) := by
  obtain ⟨i0, hi, hz0, hz1, hz2⟩ := info_parts info_int
  refine wpList_append_own _ hgd s x 40 ho base 3 i0 (.int .i64 0) 1 8 Tryd.underlying40 hi hz0 hz1 hz2 rfl (by decide) v xs.length (xs.map (Value.int .i64)) hs (World.ownsRow.alloc hown _) ⟨W.heap.size, 0, none⟩ 1 1 [.int .i64 u] hx rfl ?_ ?_ ?_ ?_ ?_ ?_
  · intro j y hy
    cases j with
    | zero => simp at hy; subst hy; exact new_cell _ _ _
    | succ j => simp at hy
  · intro y hy; simp at hy; subst hy; rfl
  · unfold maxLen; omega
  · omega
  · rw [← size1]; omega
  · intro v' w' h1 h2 _
    refine h v' w' ?_ ?_
    · unfold IRow
      rw [List.map_append, List.length_append]
      exact h1
    · refine Below.grown (((Below.refl base W).alloc hbase _)) h2 (by rw [← size1]; omega) fun k hk => ?_
      exact (World.ownsRow.lt hown k hk).1

/-- A row that the call made is laid into a block of its own and appended to rows that the call made. -/
theorem wpList_pushR {ops : Array Oper} {rest : List Oper} {o : Oper} {a : Act} {Q : Exit → Act → World → Prop} {W : World} (hgd : o.guard = none) (s x : Operand)
    (ho : o.op = .call { callee := .builtin .append, args := #[s, x], argTypes := #[22, 22] }) (lo hi : Nat) (v : Value) (m : List (List Int)) (hown : OwnM W lo hi v m) (hlo : lo ≤ hi) (hlen : m.length ≤ 2000000) (r : Value) (xs : List Int) (hr : IRow W hi r xs) (h1c : r.oneCell' = true)
    (hs : a.eval s = v) (hx : a.eval x = .slice (some ⟨W.heap.size, 0, none⟩) 1 1)
    (h : ∀ v' w', OwnM w' lo w'.heap.size v' (m ++ [xs]) → Below lo W w' → wpList Tryd.prog ops Q rest (a.put o.dst v') w') : wpList Tryd.prog ops Q (o :: rest) a (W.alloc (.cells #[r] 40)) := by
  have hhi : hi ≤ W.heap.size := hown.1
  have hB : Below hi W (W.alloc (.cells #[r] 40)) := (Below.refl hi W).alloc hhi _
  obtain ⟨vs, hms⟩ := (hown.below hB (Nat.le_refl _)).parts
  have hr2 : IRow (W.alloc (.cells #[r] 40)) hi r xs := World.ownsRow.alloc hr _
  obtain ⟨i0, hi0, hz0, hz1, hz2⟩ := info_parts info_ints
  refine wpList_append_own _ hgd s x 22 ho lo 40 i0 nilS 1 24 Tryd.underlying22 hi0 hz0 hz1 hz2 rfl (by decide) v m.length vs hs hms.2.1 ⟨W.heap.size, 0, none⟩ 1 1 [r] hx rfl ?_ ?_ ?_ ?_ ?_ ?_
  · intro j y hy
    cases j with
    | zero =>
      simp at hy
      subst hy
      simp [go_sem]
    | succ j => simp at hy
  · intro y hy; simp at hy; subst hy; exact h1c
  · unfold maxLen; omega
  · omega
  · rw [← size1]; omega
  · intro v' w' h1 h2 _
    have hv : ∀ k, v.ownBlock = some k → lo ≤ k ∧ k < hi := fun k hk => ⟨(World.ownsRow.lt hms.2.1 k hk).1, hms.2.2.1 k hk⟩
    refine h v' w' (OwnMs.snoc hms hr2 hlo h1 h2) ?_
    refine Below.grown ((Below.refl lo W).alloc (by omega) _) h2 (by rw [← size1]; omega) fun k hk => (hv k hk).1

/-- What the outer loop keeps: the box kx with the rows, all else of W3 as it was. -/
structure PsR (W3 : World) (kx : Nat) (lim : Int) (m : List (List Int)) (v : Value) (wr : World) : Prop where
  off : Off kx (kx + 1) W3 wr
  kl : kx < W3.heap.size
  c0 : wr.cell? ⟨kx, 0, none⟩ = some (.int .i64 lim)
  c1 : wr.cell? ⟨kx, 1, none⟩ = some v
  f0 : wr.frozen? ⟨kx, 0, none⟩ = false
  f1 : wr.frozen? ⟨kx, 1, none⟩ = false
  own : OwnM wr W3.heap.size wr.heap.size v m
theorem PsR.start {W : World} {kx : Nat} {lim : Int} (hk : kx < W.heap.size) (c0 : W.cell? ⟨kx, 0, none⟩ = some (.int .i64 lim)) (c1 : W.cell? ⟨kx, 1, none⟩ = some nilS) (f0 : W.frozen? ⟨kx, 0, none⟩ = false) (f1 : W.frozen? ⟨kx, 1, none⟩ = false) : PsR W kx lim [] nilS W :=
  ⟨Off.refl _ _ _, hk, c0, c1, f0, f1, OwnM.empty _ (Nat.le_refl _)⟩
theorem PsR.cell {W3 : World} {kx : Nat} {lim : Int} {m : List (List Int)} {v : Value} {wr : World} (h : PsR W3 kx lim m v wr) {p : Addr} {u : Value} (hp : W3.cell? p = some u) (hl : p.block < W3.heap.size) (hne : p.block ≠ kx) : wr.cell? p = some u :=
  (World.cell?_of_block (w := W3) (a := p) (h.off.block p.block hl (by omega))).trans hp
theorem PsR.bel {w W3 : World} {kx : Nat} {lim : Int} {m : List (List Int)} {v : Value} {wr : World} (h : PsR W3 kx lim m v wr) (hb : Below w.heap.size w W3) (hk : w.heap.size ≤ kx) : Below w.heap.size w wr := h.off.bel hb hk
/-- A row is read in a world behind; it is appended, and the rows are stored. -/
theorem PsR.step {W3 : World} {kx : Nat} {lim : Int} {m m2 : List (List Int)} {v v' : Value} {wr wi w' : World} (h : PsR W3 kx lim m v wr) (hb : Below wr.heap.size wr wi) (hb2 : Below W3.heap.size wi w') (ho : OwnM w' W3.heap.size w'.heap.size v' m2) :
    PsR W3 kx lim m2 v' (w'.setCell ⟨kx, 1, none⟩ v') := by
  obtain ⟨off, kl, c0, c1, f0, f1, own⟩ := h
  have s1 := off.size
  have s2 := hb.size
  have key : ∀ b, b < W3.heap.size → w'.heap[b]? = wr.heap[b]? := fun b hl => (hb2.block b hl).trans (hb.block b (by omega))
  have hkk := key kx kl
  have g0 : w'.cell? ⟨kx, 0, none⟩ = some (.int .i64 lim) := (World.cell?_of_block (w := wr) (a := ⟨kx, 0, none⟩) hkk).trans c0
  have g1 : w'.cell? ⟨kx, 1, none⟩ = some v := (World.cell?_of_block (w := wr) (a := ⟨kx, 1, none⟩) hkk).trans c1
  have fz : ∀ i, w'.frozen? ⟨kx, i, none⟩ = wr.frozen? ⟨kx, i, none⟩ := fun i => by simp only [World.frozen?, hkk]
  have h0 := fz 0
  have h1 := fz 1
  rw [f0] at h0
  rw [f1] at h1
  refine ⟨⟨?_, ?_, ?_, ?_, ?_⟩, kl, ?_, ?_, ?_, ?_, ?_⟩
  · show w'.os = W3.os
    rw [hb2.os, hb.os, off.os]
  · show w'.tape = W3.tape
    rw [hb2.tape, hb.tape, off.tape]
  · show w'.output = W3.output
    rw [hb2.output, hb.output, off.output]
  · have s3 := hb2.size
    show W3.heap.size ≤ (w'.setCell ⟨kx, 1, none⟩ v').heap.size
    simp [World.setCell]
    omega
  · intro b hl hc
    rw [Below.heap_setCell _ _ _ _ (by dsimp only; omega), key b hl]
    exact off.block b hl hc
  · simp [go_sem, g0, g1, h0, h1]
  · simp [go_sem, g0, g1, h0, h1]
  · simp [go_sem, g0, g1, h0, h1]
  · simp [go_sem, g0, g1, h0, h1]
  · have q := ho.set_ (p := ⟨kx, 1, none⟩) kl v'
    have e : (w'.setCell ⟨kx, 1, none⟩ v').heap.size = w'.heap.size := by simp [World.setCell]
    rw [e]
    exact q
theorem take_map {α β : Type} (f : α → β) (l : List α) (k : Nat) (hk : k < l.length) (d : α) : (l.map f).take (k + 1) = (l.map f).take k ++ [f (l.getD k d)] := by
  rw [List.take_succ_eq_append_getElem (by rw [List.length_map]; exact hk), List.getElem_map, List.getD_eq_getElem?_getD, List.getElem?_eq_getElem hk]
  rfl
theorem prt_cons (l : List UInt8) (b : UInt8) : ∃ p ps, prtL l b = p :: ps := by
  unfold prtL
  cases splL l b l.length with
  | nil => exact ⟨_, _, rfl⟩
  | cons p ps => exact ⟨_, _, rfl⟩
theorem splitK_cons (sep : List UInt8) (sv : Nat) (k : Nat) (l : List UInt8) : ∃ p ps, Lib.splitK sep sv k l = p :: ps := by
  cases k with
  | zero => exact ⟨_, _, rfl⟩
  | succ k =>
    unfold Lib.splitK
    split
    · exact ⟨_, _, rfl⟩
    · exact ⟨_, _, rfl⟩
theorem pcs_cons (l : List UInt8) (b : UInt8) : ∃ p ps, pcs l b = p :: ps := splitK_cons _ _ _ _
/-- A row of texts that is not empty, cell by cell. -/
theorem SRow.cells {w : World} {base : Nat} {v : Value} {Z : List (List UInt8)} (h : SRow w base v (Z.map baL)) (hz : 0 < Z.length) :
    ∃ g cap, v = .slice (some ⟨g, 0, none⟩) Z.length cap ∧ base ≤ g ∧ g < w.heap.size ∧ Z.length ≤ cap ∧ cap ≤ maxLen ∧ ∀ j, j < Z.length → w.cell? ⟨g, j, none⟩ = some (.string (baL (Z.getD j []))) := by
  have hn : (Z.map baL).length = Z.length := List.length_map ..
  rcases h.form with ⟨hx, _⟩ | ⟨hx, g, cap, rfl, hbg, hgl, hlc, hcm⟩
  · rw [hx] at hn
    simp at hn
    omega
  · rw [hn] at hlc ⊢
    refine ⟨g, cap, rfl, hbg, hgl, hlc, hcm, fun j hj => ?_⟩
    have q := h.at_ j (by rw [hn]; exact hj)
    rw [q, List.getD_eq_getElem?_getD, List.getElem?_eq_getElem (by rw [hn]; exact hj), List.getElem_map, List.getD_eq_getElem?_getD, List.getElem?_eq_getElem hj]
    rfl
theorem prtL_len (l : List UInt8) (b : UInt8) : (prtL l b).length ≤ l.length + 1 := by
  have := splL_len l b l.length
  unfold prtL
  simp
  omega
theorem prtL_sub {l : List UInt8} {b : UInt8} {z : List UInt8} (h : z ∈ prtL l b) : z.length ≤ l.length := by
  have key : ∀ k, k ≤ l.length → ∀ z ∈ splL l b k, z.length ≤ l.length := by
    intro k
    induction k with
    | zero => intro _ z hz; simp [splL] at hz
    | succ k ih =>
      intro hk z hz
      rw [splL_succ] at hz
      split at hz
      · rw [List.mem_append] at hz
        rcases hz with hz | hz
        · exact ih (by omega) z hz
        · rw [List.mem_singleton] at hz
          rw [hz]
          simp
          omega
      · exact ih (by omega) z hz
  unfold prtL at h
  rw [List.mem_append] at h
  rcases h with h | h
  · exact key _ (Nat.le_refl _) z h
  · rw [List.mem_singleton] at h
    rw [h]
    simp
theorem baL_size (l : List UInt8) : (baL l).size = l.length := by rw [← len_list, baL_toList]
end Go.Proofs.YtbfgieolehbedaaDoor
