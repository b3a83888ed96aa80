/- Solutions, how many, the first one, solved puzzles: contracts of the program and of its model. -/
import Derived.Test.YtggflgmjncjmbaaPzN
namespace Go.Proofs.Ytggflgmjncjmbaa
set_option linter.unusedSimpArgs false
open Go.ChangeShapes Go.WideShapes Go.ChangeAt Go.RowKit
set_option linter.unusedVariables false

/-- All solutions of a puzzle, none if it is no puzzle. -/
def solA (o : Int) (ts : List Tri) : List Tri := if pzG o ts then sols o.toNat ts else []
theorem solA_no {o : Int} {ts : List Tri} (h : pzG o ts = false) : solA o ts = [] := by unfold solA; rw [h]; rfl
theorem solA_yes {o : Int} {ts : List Tri} (h : pzG o ts = true) : solA o ts = sols o.toNat ts := by unfold solA; rw [h]; rfl
theorem pzG_nat {o : Int} {ts : List Tri} (h : pzG o ts = true) : ∃ n : Nat, o = n ∧ 1 ≤ n ∧ n ≤ 8 ∧ clsG ts = true ∧ ts.length ≤ 6 ∧ o.toNat = n := by
  obtain ⟨a, b, c, d⟩ := pzG_in h
  exact ⟨o.toNat, by omega, by omega, by omega, d, c, rfl⟩
theorem solA_len (o : Int) (ts : List Tri) : (solA o ts).length ≤ 81 := by
  cases h : pzG o ts
  · rw [solA_no h]; simp
  · obtain ⟨n, _, h1, h8, _, _, hn⟩ := pzG_nat h
    rw [solA_yes h, hn]
    exact sols_len n ts h8
theorem pSolsI_any (o : Int) (ts : List Tri) (v : Value) (B : Nat) (w : World) (h : RdT w B v ts) (hB : B ≤ w.heap.size) (hg : pzG o ts = true) :
    Calls Try.prog 70 #[pz o v] w (TriOne 41 (solA o ts) w) := by
  obtain ⟨n, rfl, h1, h8, hc, _, hn⟩ := pzG_nat hg
  rw [solA_yes hg, hn]
  exact pSols_any n ts v B w h hB hc h1 h8
theorem pzAllI_any (o : Int) (ts : List Tri) (v : Value) (B : Nat) (w : World) (h : RdT w B v ts) (hB : B ≤ w.heap.size) (hg : pzG o ts = true) :
    Calls Try.prog 69 #[.int .i64 o, v] w (TriOne 41 (solA o ts) w) := by
  obtain ⟨n, rfl, h1, h8, hc, _, hn⟩ := pzG_nat hg
  rw [solA_yes hg, hn]
  exact pzAll_any n ts v B w h hB hc h1 h8

theorem implSol_any (o : Int) (ts : List Tri) (v : Value) (B : Nat) (w : World) (h : RdT w B v ts) (hB : B ≤ w.heap.size) :
    Calls Try.prog 27 #[pz o v] w (TriAns 41 (solA o ts) (pzG o ts) w) := by
  have bl := Lib.hid (bel_alloc (Below.refl _ w) (.cells #[.int .i64 o, v] 29))
  have bx := Lib.hid (Box2.new w (.int .i64 o) v 29)
  have H := Lib.hid (h.below bl.out hB)
  obtain ⟨A, cap, rfl, _, _⟩ := h.form
  clear h
  cases hg : pzG o ts
  · rw [solA_no hg]
    go_enter Try.func27, Try.ntmps27
    go_wp2_with fail
    refine (implIsPz_any o ts _ B _ H.out (by simp; omega)).mono ?_
    rintro e w2 ⟨rfl, b2⟩
    rw [hg]
    go_wp2_with fail
    go_ret2
    exact ⟨_, rfl, TRow.nil _ _ _, bel_trans bl.out b2⟩
  · go_enter Try.func27, Try.ntmps27
    go_wp2_with fail
    refine (implIsPz_any o ts _ B _ H.out (by simp; omega)).mono ?_
    rintro e w2 ⟨rfl, b2⟩
    rw [hg]
    have H2 := Lib.hid (H.out.below b2 (by simp; omega))
    have hz2 := b2.size
    obtain ⟨c0, c1, ck⟩ := bx.out.keep b2
    go_wp2_with fail
    refine (pSolsI_any o ts _ B _ H2.out (by simp at hz2; omega) hg).mono ?_
    rintro e w3 ⟨v', rfl, r3, b3⟩
    clear c0 c1
    go_wp2_with fail
    go_ret2
    exact ⟨_, rfl, r3.mono (by simp at hz2; omega), bel_trans (bel_trans bl.out b2) b3⟩
theorem specSol_any (o : Int) (ts : List Tri) (v : Value) (B : Nat) (w : World) (h : RdT w B v ts) (hB : B ≤ w.heap.size) :
    Calls Try.prog 26 #[pz o v] w (TriAns 41 (solA o ts) (pzG o ts) w) := by
  have bl := Lib.hid (bel_alloc (Below.refl _ w) (.cells #[.int .i64 o, v] 29))
  have bx := Lib.hid (Box2.new w (.int .i64 o) v 29)
  have H := Lib.hid (h.below bl.out hB)
  obtain ⟨A, cap, rfl, _, _⟩ := h.form
  clear h
  cases hg : pzG o ts
  · rw [solA_no hg]
    go_enter Try.func26, Try.ntmps26
    go_wp2_with fail
    refine (pzGood_any o ts _ B _ H.out (by simp; omega)).mono ?_
    rintro e w2 ⟨rfl, b2⟩
    rw [hg]
    go_wp2_with fail
    go_ret2
    exact ⟨_, rfl, TRow.nil _ _ _, bel_trans bl.out b2⟩
  · go_enter Try.func26, Try.ntmps26
    go_wp2_with fail
    refine (pzGood_any o ts _ B _ H.out (by simp; omega)).mono ?_
    rintro e w2 ⟨rfl, b2⟩
    rw [hg]
    have H2 := Lib.hid (H.out.below b2 (by simp; omega))
    have hz2 := b2.size
    obtain ⟨c0, c1, ck⟩ := bx.out.keep b2
    go_wp2_with fail
    refine (pzAllI_any o ts _ B _ H2.out (by simp at hz2; omega) hg).mono ?_
    rintro e w3 ⟨v', rfl, r3, b3⟩
    clear c0 c1
    go_wp2_with fail
    go_ret2
    exact ⟨_, rfl, r3.mono (by simp at hz2; omega), bel_trans (bel_trans bl.out b2) b3⟩

def ansCnt (o : Int) (ts : List Tri) : Value := .tuple #[.int .i64 ((solA o ts).length : Int), .bool (pzG o ts)]
theorem ansCnt_form (o : Int) (ts : List Tri) : ∃ (x : Int) (k : Bool), ansCnt o ts = .tuple #[.int .i64 x, .bool k] := ⟨_, _, rfl⟩
theorem implCnt_any (o : Int) (ts : List Tri) (v : Value) (B : Nat) (w : World) (h : RdT w B v ts) (hB : B ≤ w.heap.size) :
    Calls Try.prog 33 #[pz o v] w fun e w' => e = .returned (ansCnt o ts) ∧ Below w.heap.size w w' := by
  have bl := Lib.hid (bel_alloc (Below.refl _ w) (.cells #[.int .i64 o, v] 29))
  have H := Lib.hid (h.below bl.out hB)
  obtain ⟨A, cap, rfl, _, _⟩ := h.form
  clear h
  unfold ansCnt
  go_enter Try.func33, Try.ntmps33
  go_wp2_with fail
  refine (implSol_any o ts _ B _ H.out (by simp; omega)).mono ?_
  rintro e w2 ⟨v', rfl, r2, b2⟩
  obtain ⟨A2, cap2, rfl, _, _⟩ := r2.rd.form
  clear r2
  generalize ((solA o ts).length : Int) = X at *
  go_wp2_with fail
  go_ret2
  exact ⟨rfl, bel_trans bl.out b2⟩
theorem specCnt_any (o : Int) (ts : List Tri) (v : Value) (B : Nat) (w : World) (h : RdT w B v ts) (hB : B ≤ w.heap.size) :
    Calls Try.prog 32 #[pz o v] w fun e w' => e = .returned (ansCnt o ts) ∧ Below w.heap.size w w' := by
  have bl := Lib.hid (bel_alloc (Below.refl _ w) (.cells #[.int .i64 o, v] 29))
  have bx := Lib.hid (Box2.new w (.int .i64 o) v 29)
  have H := Lib.hid (h.below bl.out hB)
  obtain ⟨A, cap, rfl, _, _⟩ := h.form
  clear h
  unfold ansCnt
  cases hg : pzG o ts
  · rw [solA_no hg]
    go_enter Try.func32, Try.ntmps32
    go_wp2_with fail
    refine (pzGood_any o ts _ B _ H.out (by simp; omega)).mono ?_
    rintro e w2 ⟨rfl, b2⟩
    rw [hg]
    go_wp2_with fail
    go_ret2
    exact ⟨rfl, bel_trans bl.out b2⟩
  · go_enter Try.func32, Try.ntmps32
    go_wp2_with fail
    refine (pzGood_any o ts _ B _ H.out (by simp; omega)).mono ?_
    rintro e w2 ⟨rfl, b2⟩
    rw [hg]
    have H2 := Lib.hid (H.out.below b2 (by simp; omega))
    have hz2 := b2.size
    obtain ⟨c0, c1, ck⟩ := bx.out.keep b2
    go_wp2_with fail
    refine (pzAllI_any o ts _ B _ H2.out (by simp at hz2; omega) hg).mono ?_
    rintro e w3 ⟨v', rfl, r3, b3⟩
    obtain ⟨A3, cap3, rfl, _, _⟩ := r3.rd.form
    clear c0 c1 r3
    go_wp2_with fail
    go_ret2
    exact ⟨rfl, bel_trans (bel_trans bl.out b2) b3⟩
def ansSlv (o : Int) (ts : List Tri) : Value := .tuple #[.bool (decide (((solA o ts).length : Int) = 1)), .bool (pzG o ts)]
theorem ansSlv_form (o : Int) (ts : List Tri) : ∃ (x : Bool) (k : Bool), ansSlv o ts = .tuple #[.bool x, .bool k] := ⟨_, _, rfl⟩
theorem implSlv_any (o : Int) (ts : List Tri) (v : Value) (B : Nat) (w : World) (h : RdT w B v ts) (hB : B ≤ w.heap.size) :
    Calls Try.prog 40 #[pz o v] w fun e w' => e = .returned (ansSlv o ts) ∧ Below w.heap.size w w' := by
  have bl := Lib.hid (bel_alloc (Below.refl _ w) (.cells #[.int .i64 o, v] 29))
  have H := Lib.hid (h.below bl.out hB)
  obtain ⟨A, cap, rfl, _, _⟩ := h.form
  clear h
  have hcall := fun W (hR : RdT W B (.slice A ts.length cap) ts) (hz : B ≤ W.heap.size) => implCnt_any o ts _ B W hR hz
  unfold ansSlv
  unfold ansCnt at hcall
  generalize ((solA o ts).length : Int) = X at *
  go_enter Try.func40, Try.ntmps40
  go_wp2_with fail
  refine (hcall _ H.out (by simp; omega)).mono ?_
  rintro e w2 ⟨rfl, b2⟩
  go_wp2_with fail
  go_ret2
  exact ⟨rfl, bel_trans bl.out b2⟩
theorem pzSolved_any (o : Int) (ts : List Tri) (v : Value) (B : Nat) (w : World) (h : RdT w B v ts) (hB : B ≤ w.heap.size) (hg : pzG o ts = true) :
    Calls Try.prog 72 #[.int .i64 o, v] w fun e w' => e = .returned (.bool (decide (((solA o ts).length : Int) = 1))) ∧ Below w.heap.size w w' := by
  have H := Lib.hid h
  obtain ⟨A, cap, rfl, _, _⟩ := h.form
  clear h
  go_enter Try.func72, Try.ntmps72
  go_wp2_with fail
  refine (pzAllI_any o ts _ B _ H.out hB hg).mono ?_
  rintro e w3 ⟨v', rfl, r3, b3⟩
  obtain ⟨A3, cap3, rfl, _, _⟩ := r3.rd.form
  clear r3
  generalize hX : (solA o ts).length = X at *
  have HX := Lib.hid hX
  clear hX
  go_wp2_with fail
  go_ret
  exact ⟨by rw [HX.out]; first | rfl | simp, b3⟩
theorem specSlv_any (o : Int) (ts : List Tri) (v : Value) (B : Nat) (w : World) (h : RdT w B v ts) (hB : B ≤ w.heap.size) :
    Calls Try.prog 39 #[pz o v] w fun e w' => e = .returned (ansSlv o ts) ∧ Below w.heap.size w w' := by
  have bl := Lib.hid (bel_alloc (Below.refl _ w) (.cells #[.int .i64 o, v] 29))
  have bx := Lib.hid (Box2.new w (.int .i64 o) v 29)
  have H := Lib.hid (h.below bl.out hB)
  obtain ⟨A, cap, rfl, _, _⟩ := h.form
  clear h
  unfold ansSlv
  cases hg : pzG o ts
  · rw [solA_no hg]
    go_enter Try.func39, Try.ntmps39
    go_wp2_with fail
    refine (pzGood_any o ts _ B _ H.out (by simp; omega)).mono ?_
    rintro e w2 ⟨rfl, b2⟩
    rw [hg]
    go_wp2_with fail
    go_ret2
    exact ⟨rfl, bel_trans bl.out b2⟩
  · have hcall := fun W (hR : RdT W B (.slice A ts.length cap) ts) (hz : B ≤ W.heap.size) => pzSolved_any o ts _ B W hR hz hg
    generalize decide (((solA o ts).length : Int) = 1) = X at *
    go_enter Try.func39, Try.ntmps39
    go_wp2_with fail
    refine (pzGood_any o ts _ B _ H.out (by simp; omega)).mono ?_
    rintro e w2 ⟨rfl, b2⟩
    rw [hg]
    have H2 := Lib.hid (H.out.below b2 (by simp; omega))
    have hz2 := b2.size
    obtain ⟨c0, c1, ck⟩ := bx.out.keep b2
    go_wp2_with fail
    refine (hcall _ H2.out (by simp at hz2; omega)).mono ?_
    rintro e w3 ⟨rfl, b3⟩
    clear c0 c1
    go_wp2_with fail
    go_ret2
    exact ⟨rfl, bel_trans (bel_trans bl.out b2) b3⟩
end Go.Proofs.Ytggflgmjncjmbaa
