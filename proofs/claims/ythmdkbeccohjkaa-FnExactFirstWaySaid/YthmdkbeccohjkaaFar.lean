/- How far states are from one: the model's search. -/
import Derived.Test.YthmdkbeccohjkaaReach
namespace Go.Proofs.Ythmdkbeccohjkaa
set_option linter.unusedSimpArgs false
open Go.ChangeShapes Go.WideShapes Go.ChangeAt Go.RowKit
set_option linter.unusedVariables false

theorem wpList_pushK {ops : Array Oper} {rest : List Oper} {o : Oper} {a : Act} {Q : Exit → Act → World → Prop} {W : World} (hgd : o.guard = none) (s x : Operand)
    (ho : o.op = .call { callee := .builtin .append, args := #[s, x], argTypes := #[26, 26] }) (base : Nat) (v : Value) (xs : List Int) (hown : IRow W base v xs) (hlen : xs.length ≤ 1000000) (hbase : base ≤ W.heap.size) (u : Int) (k : Nat) (hk : k = W.heap.size)
    (hs : a.eval s = v) (hx : a.eval x = .slice (some ⟨k, 0, none⟩) 1 1)
    (h : ∀ v' w', IRow w' base v' (xs ++ [u]) → Below base W w' → wpList Try.prog ops Q rest (a.put o.dst v') w') : wpList Try.prog ops Q (o :: rest) a (W.alloc (.cells #[.int .i64 u] 3)) := by
  subst hk
  exact wpList_push1 hgd s x ho base v xs hown hlen hbase u hs hx h
theorem size_set (w : World) (a : Addr) (v : Value) : w.heap.size = (w.setCell a v).heap.size := by simp [World.setCell]

def ints (q : List Nat) : List Int := q.map (fun (n : Nat) => (n : Int))
theorem ints_len (q : List Nat) : (ints q).length = q.length := by simp [ints]
theorem ints_get (q : List Nat) (k : Nat) (h : k < q.length) : (ints q).getD k 0 = ((q.getD k 0 : Nat) : Int) := by
  simp [ints, List.getD_eq_getElem?_getD, List.getElem?_map, List.getElem?_eq_getElem h]
theorem ints_push (q : List Nat) (t : Nat) : ints q ++ [(t : Int)] = ints (q ++ [t]) := by simp [ints]
theorem IRow.lit1 (W : World) (x : Int) : IRow (W.alloc (.cells #[.int .i64 x] 3)) W.heap.size (.slice (some ⟨W.heap.size, 0, none⟩) 1 1) [x] := by
  have h := World.ownsRow_lit (base := W.heap.size) (e := 3) (size := 1) W #[.int .i64 x] 1 (Nat.le_refl _) (by simp [maxLen]) (by simp)
  unfold IRow
  simpa using h
theorem fillN_set (n k : Nat) : (rowL (fun q => if q < k then -1 else 0) n).set k (-1) = rowL (fun q => if q < k + 1 then -1 else 0) n := by
  rw [rowL_set]
  apply rowL_congr
  intro q _
  unfold upd
  by_cases e : q = k
  · subst e; simp
  · rw [if_neg e]
    show (if q < k then (-1 : Int) else 0) = _
    by_cases h : q < k
    · rw [if_pos h, if_pos (by omega)]
    · rw [if_neg h, if_neg (by omega)]
theorem fillN_all (n : Nat) : rowL (fun q => if q < n then (-1 : Int) else 0) n = List.replicate n (-1) := by
  apply List.ext_getElem
  · simp [rowL]
  · intro j h1 h2
    simp [rowL] at h1 ⊢
    omega
theorem edge_in {lim : Int} {m : List (List Int)} (h : Good lim m) {i j : Nat} (he : edgeB m i j = true) : i < m.length ∧ j < m.length := by
  unfold edgeB at he
  simp at he
  refine ⟨?_, ?_⟩
  · rcases Nat.lt_or_ge i m.length with h1 | h1
    · exact h1
    · unfold atM at he; rw [getD_out m i _ h1] at he; simp at he
  · rcases Nat.lt_or_ge j m.length with h1 | h1
    · exact h1
    · rw [atM_out h h1] at he; omega
theorem IRow.apart {w w' : World} {b F : Nat} {v : Value} {xs : List Int} (h : IRow w b v xs) (hg : w.grownBy w' (some F)) (hF : F < b) : IRow w' b v xs := by
  refine World.ownsRow.kept h hg ?_
  cases hv : v.ownBlock with
  | none => exact .inl rfl
  | some k =>
    refine .inr fun he => ?_
    injection he with he
    have := (World.ownsRow.lt h k hv).1
    omega
theorem IRow.belowB {w w' : World} {b C : Nat} {v : Value} {xs : List Int} (h : IRow w b v xs) (hb : Below C w w') (hv : ∀ k, v.ownBlock = some k → k < C) : IRow w' b v xs := by
  refine ⟨h.1, ?_⟩
  rcases h.2 with hn | ⟨g, cap, cur, rfl, hbg, hgg, rest⟩
  · exact .inl hn
  · exact .inr ⟨g, cap, cur, rfl, hbg, (hb.block g (hv g rfl)).trans hgg, rest⟩
theorem bel_drewF {C : Nat} {w a : World} (h : Below C w a) (n : Nat) : Below C w (a.drewN n) := ⟨h.os, h.tape, h.output, h.size, h.block⟩
/-- What the search answers. -/
def FarOf (m : List (List Int)) (frm : Nat) (far : List Int) : Prop := far.length = m.length ∧ ∀ x, x < m.length → (-1 ≤ far.getD x 0 ∧ far.getD x 0 ≤ m.length) ∧ decide (0 ≤ far.getD x 0) = thr (edgeB m) m.length frm x
theorem far_of {lim : Int} {m : List (List Int)} (hg : Good lim m) {frm : Nat} {far : List Int} {q : List Nat} {k : Nat} (hk : k = q.length) (h : Bfs (edgeB m) m.length frm k 0 far q) : FarOf m frm far := by
  subst hk
  refine ⟨h.len, fun x hx => ⟨h.low x hx, ?_⟩⟩
  rw [Bool.eq_iff_iff, decide_eq_true_iff, h.over (fun i j he => (edge_in hg he).2) x hx, thr_iff _ _ (fun i j he => (edge_in hg he).1)]

/-- Each distance is the length of a walk. -/
def FarW (m : List (List Int)) (frm : Nat) (far : List Int) : Prop := far.getD frm 0 = 0 ∧ (∀ x, x < m.length → 0 ≤ far.getD x 0 → Wlk (edgeB m) frm x (far.getD x 0)) ∧ ∀ x d, Wlk (edgeB m) frm x d → 0 ≤ far.getD x 0 ∧ far.getD x 0 ≤ d
theorem far_of2 {lim : Int} {m : List (List Int)} (hg : Good lim m) {frm : Nat} {far : List Int} {q : List Nat} {k : Nat} (hk : k = q.length) (h : Bfs (edgeB m) m.length frm k 0 far q) : FarOf m frm far ∧ FarW m frm far :=
  ⟨far_of hg hk h, h.zero, fun x hx h0 => h.walk x ((h.mem x hx).2 h0), fun x d hw => (hk ▸ h).low_walk (fun i j he => (edge_in hg he).2) hw⟩
set_option maxRecDepth 100000 in
set_option maxHeartbeats 6400000 in
theorem saFarW_any (lim : Int) (m : List (List Int)) (v : Value) (B : Nat) (frm : Nat) (w : World) (h : RdM w B v m) (hB : B ≤ w.heap.size) (hg : Good lim m) (hf : frm < m.length) :
    Calls Try.prog 15 #[sts lim v, .int .i64 frm] w fun e w' => ∃ u far, e = .returned u ∧ IRow w' w.heap.size u far ∧ (FarOf m frm far ∧ FarW m frm far) ∧ Below w.heap.size w w' := by
  obtain ⟨A, cap, rfl, l0, m0⟩ := h.form
  unfold maxLen at m0
  have hbl := bel_alloc (Below.refl _ w) (.cells #[.int .i64 lim, .slice A m.length cap] 29)
  have H := Lib.hid ((h.below hbl hB).more (Nat.le_trans hB hbl.size))
  have bx := Lib.hid (Box2.new w (.int .i64 lim) (.slice A m.length cap) 29)
  have n1 := hg.one
  have n5 := hg.five
  have HG := Lib.hid hg
  have hmk := mk_ints m.length (by omega)
  have hI0 := Lib.hid (IRow.made (w.alloc (.cells #[.int .i64 lim, .slice A m.length cap] 29)) m.length (by omega))
  have k1 : (frm : Int) < (m.length : Int) := by omega
  have hst := Lib.hid (Bfs.start (edgeB m) m.length frm hf)
  have hfin := Lib.hid (fun (far : List Int) (q : List Nat) (k : Nat) => far_of2 (frm := frm) (far := far) (q := q) (k := k) hg)
  clear h hg
  generalize hN : m.length = N at *
  have HN := Lib.hid hN
  clear hN
  obtain ⟨F1, hF1⟩ : ∃ n, n = w.heap.size + 1 := ⟨_, rfl⟩
  have HF1 := Lib.hid hF1
  have hFw : w.heap.size < F1 := by omega
  have hS1 : (w.alloc (.cells #[.int .i64 lim, .slice A N cap] 29)).heap.size = F1 := by rw [← size1]; exact hF1.symm
  have HS1 := Lib.hid hS1
  clear hF1 hS1
  rw [HS1.out] at hI0
  go_enter Try.func15, Try.ntmps15
  go_wp2_with fail
  rw [← HF1.out]
  go_loopw [17] (fun x wr => ∃ k : Nat, k ≤ N ∧ x = .int .i64 k ∧ Hid (IRow wr F1 (.slice (some ⟨F1, 0, none⟩) N N) (rowL (fun q => if q < k then -1 else 0) N)) ∧ Below F1 (w.alloc (.cells #[.int .i64 lim, .slice A N cap] 29)) wr) (fun x _ => N - (intOf x).toNat)
  case atStart =>
    refine ⟨0, by omega, rfl, ?_, ?_⟩
    · have : rowL (fun q => if q < 0 then (-1 : Int) else 0) N = List.replicate N 0 := by rw [← rowL_zer]; apply rowL_congr; intro q _; simp [zer]
      rw [this]; exact hI0.out
    · have q := bel_alloc (Below.refl _ (w.alloc (.cells #[.int .i64 lim, .slice A N cap] 29))) (.cells (Array.replicate N (.int .i64 0)) 3)
      rw [HS1.out] at q; exact q
  case round =>
    obtain ⟨k, hk, rfl, hI, hb⟩ := hrel
    obtain ⟨wa, rfl⟩ : ∃ wa : World, wa = wr := ⟨_, rfl⟩
    have hjr : IRow wa F1 (.slice (some ⟨F1, 0, none⟩) (rowL (fun q => if q < k then (-1 : Int) else 0) N).length N) (rowL (fun q => if q < k then (-1 : Int) else 0) N) := by rw [rowL_len]; exact hI.out
    by_cases hlt : k < N
    · have e3 := hjr.at_ (g := F1) k (by rw [rowL_len]; exact hlt)
      have e4 := World.ownsRow.frozenAt hjr k
      obtain ⟨hs1, hs2⟩ := IRow.store hjr k (-1)
      rw [fillN_set, rowL_len] at hs1
      have Hs1 := Lib.hid hs1
      have hsz : F1 ≤ wa.heap.size := by have := hb.size; rw [HS1.out] at this; exact this
      have hb2 := hb.grown hs2 hsz (fun q hq => by injection hq with hq; omega)
      clear hs1 hs2 hjr
      generalize (rowL (fun q => if q < k then (-1 : Int) else 0) N).getD k 0 = z at *
      go_wp2_with fail
      exact ⟨⟨k + 1, by omega, by go_num, Hs1, hb2⟩, by simp [intOf]; omega⟩
    · obtain rfl : N = k := by omega
      have e3 := hjr.at_ (g := F1) frm (by rw [rowL_len]; exact hf)
      have e4 := World.ownsRow.frozenAt hjr frm
      obtain ⟨hs1, hs2⟩ := IRow.store hjr frm 0
      rw [fillN_all, List.length_replicate] at hs1
      have hsz : F1 ≤ wa.heap.size := by have := hb.size; rw [HS1.out] at this; exact this
      have hb2 := hb.grown hs2 hsz (fun q hq => by injection hq with hq; omega)
      have hlt1 : F1 < wa.heap.size := (hI.out.lt F1 rfl).2
      have hq0 := IRow.lit1 (wa.setCell ⟨F1, frm, none⟩ (.int .i64 0)) frm
      have hb3 := hb2.alloc (by simpa [World.setCell] using hsz) (.cells #[.int .i64 frm] 3)
      have Hq0 : Hid (IRow ((wa.setCell ⟨F1, frm, none⟩ (.int .i64 0)).alloc (.cells #[.int .i64 frm] 3)) wa.heap.size (.slice (some ⟨wa.heap.size, 0, none⟩) 1 1) [(frm : Int)]) := by
        have e : (wa.setCell ⟨F1, frm, none⟩ (.int .i64 0)).heap.size = wa.heap.size := by simp [World.setCell]
        rw [e] at hq0
        exact hq0
      have Hs1 := Lib.hid (hs1.belowB (bel_alloc (Below.refl _ _) (.cells #[.int .i64 frm] 3)) (fun k hk => (hs1.lt k hk).2))
      have hD0 : Hid (∀ y, ((List.replicate N (-1 : Int)).set frm 0).getD y 0 < ((1 : Nat) : Int)) := by
        refine Lib.hid fun y => ?_
        rw [List.getD_eq_getElem?_getD, List.getElem?_set]
        split
        · split <;> simp
        · rw [List.getElem?_replicate]; split <;> simp
      have hBq : Hid (wa.heap.size ≤ ((wa.setCell ⟨F1, frm, none⟩ (.int .i64 0)).alloc (.cells #[.int .i64 frm] 3)).heap.size) := by refine Lib.hid ?_; rw [← size1]; simp [World.setCell]
      clear hs1 hs2 hjr hq0
      generalize hZZ : (rowL (fun q => if q < N then (-1 : Int) else 0) N).getD frm 0 = z at *
      clear hZZ
      go_wp2_with fail
      go_loopw [7, 8] (fun qv x wr => ∃ (k : Nat) (far : List Int) (q : List Nat), k ≤ N ∧ x = .int .i64 k ∧ Hid (IRow wr F1 (.slice (some ⟨F1, 0, none⟩) N N) far) ∧ Hid (IRow wr wa.heap.size qv (ints q)) ∧ Hid (Bfs (edgeB m) N frm k 0 far q) ∧ Hid (∀ y, far.getD y 0 < (q.length : Int)) ∧ Below F1 (w.alloc (.cells #[.int .i64 lim, .slice A N cap] 29)) wr ∧ wa.heap.size ≤ wr.heap.size) (fun _ x _ => N - (intOf x).toNat)
      case atStart => exact ⟨0, _, [frm], by omega, rfl, Hs1, Hq0, hst, hD0, hb3, hBq.out⟩
      case round =>
        obtain ⟨k, far, q, hkN, rfl, hI2, hQ, hB2, hD, hbc, hsc⟩ := hrel
        obtain ⟨wc, rfl⟩ : ∃ wc : World, wc = wr := ⟨_, rfl⟩
        have hqN := hB2.out.size
        by_cases hkq : k < q.length
        · have hx := hB2.out.lt _ (getD_range_or q k 0 hkq)
          obtain ⟨gq, capq, rfl, hgq, hgl, _, _⟩ : ∃ g cap, _ = Value.slice (some ⟨g, 0, none⟩) (ints q).length cap ∧ wa.heap.size ≤ g ∧ g < wc.heap.size ∧ (ints q).length ≤ cap ∧ cap ≤ maxLen := by
            rcases hQ.out.form with ⟨e, _⟩ | ⟨_, h⟩
            · have := ints_len q; rw [e] at this; simp at this; omega
            · exact h
          have hxl := ints_len q
          have e5 := (hQ.out).at_ (g := gq) k (by omega)
          rw [ints_get q k hkq] at e5
          obtain ⟨ae, A', cap', rfl, _, e1, r0, hl0, hm0⟩ := (H.out.below hbc (by rw [HS1.out]; exact Nat.le_refl _)).at_ (k := q.getD k 0) (by rw [HN.out]; exact hx)
          have R0 := Lib.hid ((RdI.keep (w' := (w.alloc (.cells #[.int .i64 lim, .slice (some ae) N cap] 29))) r0 fun p hp => (hbc.cell (by rw [HS1.out] at hp; exact hp)).symm))
          have hrow := Lib.hid (HG.out.row (q.getD k 0) (by rw [HN.out]; exact hx))
          rw [hrow.out, HN.out] at e1 hl0 R0
          have hat := Lib.hid (fun j => show (m.getD (q.getD k 0) []).getD j 0 = atM m (q.getD k 0) j from rfl)
          generalize m.getD (q.getD k 0) [] = xs at *
          have hxl2 : xs.length = N := by rw [hrow.out]; exact HN.out
          have HXL := Lib.hid hxl2
          obtain ⟨d0, d1, d2⟩ := bx.out.keep (HS1.out ▸ hbc)
          have hk1 : (k : Int) < ((ints q).length : Int) := by omega
          have hx1 : ((q.getD k 0 : Nat) : Int) < (N : Int) := by omega
          have HQ2 := Lib.hid hxl
          clear hxl hxl2 r0
          generalize hx0 : q.getD k 0 = x0 at *
          have Hx0 := Lib.hid hx0
          clear hx0
          rw [HQ2.out] at hk1 ⊢
          go_wp2_with fail
          go_quiet (fail)
          go_wp2_with fail
          go_loopw [7, 44] (fun qv x wr => ∃ (t : Nat) (far : List Int) (q : List Nat), t ≤ N ∧ x = .int .i64 t ∧ Hid (IRow wr F1 (.slice (some ⟨F1, 0, none⟩) N N) far) ∧ Hid (IRow wr wa.heap.size qv (ints q)) ∧ Hid (Bfs (edgeB m) N frm k t far q) ∧ Hid (∀ y, far.getD y 0 < (q.length : Int)) ∧ Hid (k < q.length ∧ q.getD k 0 = x0) ∧ Below F1 (w.alloc (.cells #[.int .i64 lim, .slice (some ae) N cap] 29)) wr ∧ wa.heap.size ≤ wr.heap.size) (fun _ x _ => N - (intOf x).toNat)
          case atStart => exact ⟨0, far, q, by omega, rfl, hI2.out.drewN _, by have := hQ.out.drewN; rw [HQ2.out] at this; exact this _, hB2, hD, ⟨hkq, Hx0.out⟩, bel_drewF hbc _, hsc⟩
          case round =>
            clear e1 e5 d0 d1 d2 hQ hI2 hB2 hD hqN hkq hbc hsc hgl hk1
            obtain ⟨t, far, q, htN, rfl, hI2, hQ, hB2, hD, hkq, hbc, hsc⟩ := hrel
            obtain ⟨wd, rfl⟩ : ∃ wd : World, wd = wr := ⟨_, rfl⟩
            have hqN := hB2.out.size
            by_cases hlt : t < N
            · have r1 := RdI.below R0.out hbc (by rw [HS1.out]; exact Nat.le_refl _)
              rw [← HXL.out] at r1
              obtain ⟨af, rfl, _, e2⟩ := r1.at_ (k := t) (by rw [HXL.out]; exact hlt)
              rw [hat.out] at e2
              have hfl := hB2.out.len
              have hjr : IRow wd F1 (.slice (some ⟨F1, 0, none⟩) far.length N) far := by rw [hfl]; exact hI2.out
              have e3 := hjr.at_ (g := F1) t (by omega)
              have e4 := World.ownsRow.frozenAt hjr t
              have HJ := Lib.hid hjr
              clear hjr hfl r1
              by_cases hz : 0 < atM m x0 t
              · by_cases hd : far.getD t 0 < 0
                · have hkl := hkq.out.1
                  have hx2 : x0 < N := by rw [← hkq.out.2]; exact hB2.out.lt _ (getD_range_or q k 0 hkl)
                  have hf0 : 0 ≤ far.getD x0 0 := (hB2.out.mem x0 hx2).1 (by rw [← hkq.out.2]; exact getD_range_or q k 0 hkl)
                  have hf1 := hD.out x0
                  have he : edgeB m (q.getD k 0) t = true := by rw [hkq.out.2]; unfold edgeB; simpa using hz
                  have hn := Lib.hid (hB2.out.meet hkl he hd hlt (far.getD x0 0 + 1) (by omega) (by omega) (by rw [hkq.out.2]))
                  have hD2 : Hid (∀ y, (far.set t (far.getD x0 0 + 1)).getD y 0 < ((q ++ [t]).length : Int)) := by
                    refine Lib.hid fun y => ?_
                    rw [List.length_append, List.length_singleton]
                    have := hD.out y
                    by_cases ey : t = y
                    · subst ey
                      rw [getD_set_eq _ _ _ _ (by rw [hB2.out.len]; exact hlt)]
                      omega
                    · rw [getD_set_ne _ _ _ _ _ ey]
                      omega
                  have hk2 : Hid (k < (q ++ [t]).length ∧ (q ++ [t]).getD k 0 = x0) := ⟨by rw [List.length_append]; omega, by rw [getD_append_left' _ _ _ _ hkl]; exact hkq.out.2⟩
                  obtain ⟨gq, capq, rfl, hgq, hgl, _, _⟩ : ∃ g cap, _ = Value.slice (some ⟨g, 0, none⟩) (ints q).length cap ∧ wa.heap.size ≤ g ∧ g < wd.heap.size ∧ (ints q).length ≤ cap ∧ cap ≤ maxLen := by
                    rcases hQ.out.form with ⟨e, _⟩ | ⟨_, h⟩
                    · have := ints_len q; rw [e] at this; simp at this; omega
                    · exact h
                  have e5 := (hQ.out).at_ (g := gq) k (by rw [ints_len]; exact hkl)
                  rw [ints_get q k hkl, hkq.out.2] at e5
                  have e6 := HJ.out.at_ (g := F1) x0 (by rw [hB2.out.len]; exact hx2)
                  have hx3 : (x0 : Int) < (N : Int) := by omega
                  have hk3 : (k : Int) < ((ints q).length : Int) := by rw [ints_len]; omega
                  obtain ⟨hs1, hs2⟩ := IRow.store HJ.out t (far.getD x0 0 + 1)
                  have hFlt : F1 < wd.heap.size := (HJ.out.lt F1 rfl).2
                  have Hs1 : Hid (IRow (wd.setCell ⟨F1, t, none⟩ (.int .i64 (far.getD x0 0 + 1))) F1 (.slice (some ⟨F1, 0, none⟩) N N) (far.set t (far.getD x0 0 + 1))) := by
                    have q := hs1
                    rw [hB2.out.len] at q
                    exact q
                  have hQ2 := Lib.hid (hQ.out.apart hs2 hlt1)
                  have hb4 := hbc.grown hs2 (by omega) (fun j hj => by injection hj with hj; omega)
                  have hsz4 : wa.heap.size ≤ (wd.setCell ⟨F1, t, none⟩ (.int .i64 (far.getD x0 0 + 1))).heap.size := Nat.le_trans hsc hs2.size
                  have hd1 : decide (far.getD t 0 < 0) = true := by simpa using hd
                  have hql : (ints q).length ≤ 1000000 := by rw [ints_len]; omega
                  have hpu := Lib.hid (ints_push q t)
                  clear hs1 hs2 he hd
                  generalize far.getD x0 0 = f at *
                  generalize atM m x0 t = z at *
                  generalize hy : far.getD t 0 = y at *
                  clear hy
                  go_wp2_with (at_builtin; refine wpList_pushK rfl (.tmp 69) (.tmp 71) rfl wa.heap.size _ _ hQ2.out hql hsz4 (t : Int) wd.heap.size (size_set _ _ _) rfl rfl ?_)
                  intro v' w3 hI3 hb5
                  have hI4 := Lib.hid (Hs1.out.belowB hb5 (fun j hj => by simp [Value.ownBlock] at hj; omega))
                  have hsz5 := hb5.size
                  have HI3 := Lib.hid hI3
                  clear hI3
                  go_wp2_with fail
                  exact ⟨⟨t + 1, _, _, by omega, by go_num, hI4, by rw [← hpu.out]; exact HI3, hn, hD2, hk2, hb4.trans (hb5.mono (by omega)), Nat.le_trans hsz4 hsz5⟩, by simp [intOf]; omega⟩
                · have hn := Lib.hid (hB2.out.skip (.inr (by omega)) hlt)
                  have hd1 : decide (far.getD t 0 < 0) = false := by simpa using hd
                  generalize atM m x0 t = z at *
                  generalize hy : far.getD t 0 = y at *
                  clear hy
                  go_wp2_with fail
                  exact ⟨⟨t + 1, far, q, by omega, by go_num, hI2, hQ, hn, hD, hkq, hbc, hsc⟩, by simp [intOf]; omega⟩
              · have hn := Lib.hid (hB2.out.skip (.inl (by unfold edgeB; rw [hkq.out.2]; simpa using hz)) hlt)
                have hz1 : decide (0 < atM m x0 t) = false := by simpa using hz
                generalize atM m x0 t = z at *
                generalize hy : far.getD t 0 = y at *
                clear hy
                go_wp2_with fail
                exact ⟨⟨t + 1, far, q, by omega, by go_num, hI2, hQ, hn, hD, hkq, hbc, hsc⟩, by simp [intOf]; omega⟩
            · obtain rfl : N = t := by omega
              have hn := Lib.hid (hB2.out.next hkq.out.1)
              have hkN2 : k < N := Nat.lt_of_lt_of_le hkq.out.1 hqN
              go_wp2_with fail
              exact ⟨⟨k + 1, far, q, by omega, by go_num, hI2, hQ, hn, hD, hbc, hsc⟩, by simp [intOf]; omega⟩
        · have hkq' : k = q.length := by have := hB2.out.k_le; omega
          have hFar := Lib.hid (hfin.out far q k hkq' hB2.out)
          obtain ⟨A7, cap7, rfl, _, _⟩ := hQ.out.rd.form
          rw [ints_len]
          clear hkq'
          go_wp2_with fail
          go_ret
          exact ⟨_, _, rfl, hI2.out.mono (by omega), hFar.out, bel_trans hbl (HS1.out ▸ hbc)⟩
theorem saFar_any (lim : Int) (m : List (List Int)) (v : Value) (B : Nat) (frm : Nat) (w : World) (h : RdM w B v m) (hB : B ≤ w.heap.size) (hg : Good lim m) (hf : frm < m.length) :
    Calls Try.prog 15 #[sts lim v, .int .i64 frm] w fun e w' => ∃ u far, e = .returned u ∧ IRow w' w.heap.size u far ∧ FarOf m frm far ∧ Below w.heap.size w w' :=
  (saFarW_any lim m v B frm w h hB hg hf).mono fun e w' ⟨u, far, a, b, c, d⟩ => ⟨u, far, a, b, c.1, d⟩
end Go.Proofs.Ythmdkbeccohjkaa
