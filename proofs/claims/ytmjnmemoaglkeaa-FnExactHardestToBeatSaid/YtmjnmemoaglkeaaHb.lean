/- HardestToBeat: the contracts of the program and of its model, and the walk. -/
import Derived.Test.YtmjnmemoaglkeaaBst2
namespace Go.Proofs.Ytmjnmemoaglkeaa
open Go.ChangeShapes Go.WideShapes Go.ChangeAt Go.RowKit
set_option linter.unusedVariables false

/-- One more pattern: the one that is harder to beat. -/
def hbS (h o : Int) (st : BS) (p : ByteArray) : BS := if (bst h o p).2.1 * st.2.2 < st.2.1 * (bst h o p).2.2 then (p, (bst h o p).2.1, (bst h o p).2.2) else st
def hb0 : BS := (noS, 1, 0)
def hbst (h o : Int) (n : Nat) : BS := (allTx n).foldl (hbS h o) hb0
/-- What the model keeps in place of the first number. -/
def hbN (k : Nat) (st : BS) : Int := if k = 0 then 2 else st.2.1
theorem tx_rac {n : Nat} {p : ByteArray} (h1 : 1 ≤ n) (h5 : n ≤ 5) (hp : p ∈ allTx n) : racG p = true := by
  obtain ⟨p1, p2⟩ := allTx_mem n p hp
  unfold racG patG tossG inB
  simp only [Bool.and_eq_true, decide_eq_true_iff]
  rw [p1]
  exact ⟨⟨⟨by omega, p2⟩, by omega, by omega⟩, by omega⟩
theorem bst_in0 {h o : Int} {a : ByteArray} (g : rcG h o = true) (ha : racG a = true) : bsIn (bst h o a) :=
  foldS_in g ha _ bst0 (fun p hp => hp) bst0_in
/-- The other number of a best answer is positive. -/
theorem foldS_pos {h o : Int} {a : ByteArray} (g : rcG h o = true) (ha : racG a = true) : ∀ (l : List ByteArray) (st : BS), (∀ p ∈ l, p ∈ rivT a) → 1 ≤ st.2.2 → 1 ≤ (l.foldl (bstS h o a) st).2.2
  | [], _, _, i => i
  | p :: l, st, hl, i => by
    rw [List.foldl_cons]
    refine foldS_pos g ha l _ (fun q hq => hl q (List.mem_cons_of_mem _ hq)) ?_
    obtain ⟨q1, q2⟩ := riv_mem (hl p (by simp))
    obtain ⟨f1, f2, o1, o2, _⟩ := od_all g (rac_two ha q1 q2)
    unfold bstS
    split
    · exact o1
    · exact i
theorem bst_pos {h o : Int} {a : ByteArray} (g : rcG h o = true) (ha : racG a = true) : 1 ≤ (bst h o a).2.2 :=
  foldS_pos g ha _ bst0 (fun p hp => hp) (by simp [bst0])
theorem hbS_in {h o : Int} {st : BS} {p : ByteArray} (g : rcG h o = true) (hp : racG p = true) (i : bsIn st) : bsIn (hbS h o st p) := by
  have j := bst_in0 g hp
  unfold hbS
  split
  · exact j
  · exact i
theorem hb_fold_in {h o : Int} {n : Nat} (g : rcG h o = true) (h1 : 1 ≤ n) (h5 : n ≤ 5) : ∀ (l : List ByteArray) (st : BS), (∀ p ∈ l, p ∈ allTx n) → bsIn st → bsIn (l.foldl (hbS h o) st)
  | [], _, _, i => i
  | p :: l, st, hl, i => by
    rw [List.foldl_cons]
    exact hb_fold_in g h1 h5 l _ (fun q hq => hl q (List.mem_cons_of_mem _ hq)) (hbS_in g (tx_rac h1 h5 (hl p (by simp))) i)
theorem hb0_in : bsIn hb0 := by unfold bsIn hb0; simp

def hbG (h o n : Int) : Bool := rcG h o && inB n 2 5
def ansHB (h o n : Int) : Value := if hbG h o n then .tuple #[.string (hbst h o n.toNat).1, .int .i64 (hbst h o n.toNat).2.1, .int .i64 ((hbst h o n.toNat).2.1 + (hbst h o n.toNat).2.2), .bool true] else .tuple #[.string ⟨#[]⟩, .int .i64 0, .int .i64 0, .bool false]
theorem ansHB_form (h o n : Int) : ∃ (b : ByteArray) (x y : Int) (ok : Bool), ansHB h o n = .tuple #[.string b, .int .i64 x, .int .i64 y, .bool ok] := by
  unfold ansHB
  split
  · exact ⟨_, _, _, _, rfl⟩
  · exact ⟨_, _, _, _, rfl⟩
theorem hbS_yes {h o : Int} {st : BS} {p : ByteArray} (q : (bst h o p).2.1 * st.2.2 < st.2.1 * (bst h o p).2.2) : hbS h o st p = (p, (bst h o p).2.1, (bst h o p).2.2) := if_pos q
theorem hbS_no {h o : Int} {st : BS} {p : ByteArray} (q : ¬ (bst h o p).2.1 * st.2.2 < st.2.1 * (bst h o p).2.2) : hbS h o st p = st := if_neg q
theorem sl_formH {w : World} {base : Nat} {v : Value} {xs : List ByteArray} (h : SRow w base v xs) : ∃ A cap, v = .slice A xs.length cap ∧ (0 < xs.length → ∃ gg, A = some ⟨gg, 0, none⟩ ∧ base ≤ gg) := by
  rcases h.form with ⟨hx, A, cap, rfl⟩ | ⟨hx, gg, cap, rfl, hbg, _⟩
  · subst hx
    exact ⟨A, cap, rfl, fun h => by simp at h⟩
  · exact ⟨_, cap, rfl, fun _ => ⟨gg, rfl, hbg⟩⟩

set_option maxRecDepth 100000 in
set_option maxHeartbeats 3200000 in
theorem specHB_any (h o n : Int) (w : World) :
    Calls Try.prog 4 #[cn h o, .int .i64 n] w fun e w' => e = .returned (ansHB h o n) ∧ Below w.heap.size w w' := by
  have bx0 := Lib.hid (Box2.new w (.int .i64 h) (.int .i64 o) 26)
  have bl0 : Below w.heap.size w (w.alloc (.cells #[.int .i64 h, .int .i64 o] 26)) := bel_alloc (Below.refl _ _) _
  cases h1 : rcG h o
  · rw [show ansHB h o n = .tuple #[.string ⟨#[]⟩, .int .i64 0, .int .i64 0, .bool false] from by unfold ansHB hbG; rw [h1]; rfl]
    go_enter Try.func4, Try.ntmps4
    go_wp2_with fail
    refine (raCoin_any h o _).mono ?_
    rintro e w1 ⟨rfl, hb1⟩
    rw [h1]
    go_wp2_with fail
    exact bodyPost_ret (v := .tuple #[.string ⟨#[]⟩, .int .i64 0, .int .i64 0, .bool false]) (by simp [results, Try.results4, go_sem]) rfl ⟨rfl, bel_trans bl0 hb1⟩
  · cases h2 : inB n 2 5
    · rw [show ansHB h o n = .tuple #[.string ⟨#[]⟩, .int .i64 0, .int .i64 0, .bool false] from by unfold ansHB hbG; rw [h1, h2]; rfl]
      go_enter Try.func4, Try.ntmps4
      go_wp2_with fail
      refine (raCoin_any h o _).mono ?_
      rintro e w1 ⟨rfl, hb1⟩
      rw [h1]
      go_wp2_with fail
      refine (l1In_any _ _ _ _).mono ?_
      rintro e w2 ⟨rfl, rfl⟩
      rw [h2]
      go_wp2_with fail
      exact bodyPost_ret (v := .tuple #[.string ⟨#[]⟩, .int .i64 0, .int .i64 0, .bool false]) (by simp [results, Try.results4, go_sem]) rfl ⟨rfl, bel_trans bl0 hb1⟩
    · obtain ⟨n0, n4⟩ := (inB_iff _ _ _).1 h2
      obtain ⟨t, rfl⟩ := Int.eq_ofNat_of_zero_le (show 0 ≤ n by omega)
      rw [show ansHB h o (t : Int) = .tuple #[.string (hbst h o t).1, .int .i64 (hbst h o t).2.1, .int .i64 ((hbst h o t).2.1 + (hbst h o t).2.2), .bool true] from by unfold ansHB hbG; rw [h1, h2]; rfl]
      have HR := Lib.hid (fun W => raTexts_any t W (by omega))
      have hall : Hid ((allTx t).foldl (hbS h o) hb0 = hbst h o t) := rfl
      have hin := Lib.hid (fun (l : List ByteArray) (hl : ∀ p ∈ l, p ∈ allTx t) => hb_fold_in (n := t) h1 (by omega) (by omega) l hb0 hl hb0_in)
      have hrc := Lib.hid (fun (p : ByteArray) (hp : p ∈ allTx t) => tx_rac (by omega) (by omega) hp)
      have hft := Lib.hid (fun k hk => fold_take (hbS h o) (allTx t) noS k hk hb0)
      have hpos := tx_pos t
      have hlen : (allTx t).length ≤ 4096 := by have := pow12 t (by omega); rw [allTx_len]; exact this
      go_enter Try.func4, Try.ntmps4
      go_wp2_with fail
      refine (raCoin_any h o _).mono ?_
      rintro e w1 ⟨rfl, hb1⟩
      rw [h1]
      have bx1 := Lib.hid (bx0.out.keep hb1)
      have bl1 := bel_trans bl0 hb1
      clear hb1
      go_wp2_with fail
      refine (l1In_any _ _ _ _).mono ?_
      rintro e w2 ⟨rfl, rfl⟩
      rw [h2]
      go_wp2_with fail
      refine (HR.out _).mono ?_
      rintro e w3 ⟨v, rfl, r3, hb3⟩
      obtain ⟨A, cap, rfl, hA⟩ := sl_formH r3
      have bx3 := Lib.hid (bx1.out.keep hb3)
      have bl3 := bel_trans bl1 hb3
      have R3 := Lib.hid r3
      have HAA := Lib.hid hA
      clear r3 hA hb3
      generalize allTx t = xs at *
      generalize hN : xs.length = N at *
      have HN := Lib.hid hN
      clear hN
      go_wp2_with fail
      go_loopw [8, 9, 10, 27] (fun b x y i wr => ∃ k : Nat, k ≤ N ∧ i = .int .i64 k ∧ b = .string ((xs.take k).foldl (hbS h o) hb0).1 ∧ x = .int .i64 (hbN k ((xs.take k).foldl (hbS h o) hb0)) ∧ y = .int .i64 (((xs.take k).foldl (hbS h o) hb0).2.1 + ((xs.take k).foldl (hbS h o) hb0).2.2) ∧ Below w3.heap.size w3 wr) (fun _ _ _ i _ => N - (intOf i).toNat)
      case atStart => exact ⟨0, by omega, rfl, rfl, rfl, rfl, Below.refl _ _⟩
      case round =>
        obtain ⟨k, hk, rfl, rfl, rfl, rfl, hb⟩ := hrel
        obtain ⟨wa, rfl⟩ : ∃ wa : World, wa = wr := ⟨_, rfl⟩
        have hsa := hb.size
        by_cases hlt : k < N
        · obtain ⟨gg, rfl, hgg⟩ := HAA.out (by omega)
          have hrow := R3.out.below hb
          rw [← HN.out] at hrow
          have c0 := hrow.at_ k (by rw [HN.out]; exact hlt)
          have hfk := Lib.hid (hft.out k hlt)
          have hpm := hrc.out _ (getD_mem (k := k) (by rw [HN.out]; exact hlt))
          obtain ⟨i1, i2, i3, i4, i5⟩ := hin.out (xs.take k) (fun p hp => List.mem_of_mem_take hp)
          have hz0 : k = 0 → ((xs.take k).foldl (hbS h o) hb0).2.1 = 1 ∧ ((xs.take k).foldl (hbS h o) hb0).2.2 = 0 := by
            intro e; subst e; exact ⟨rfl, rfl⟩
          have hn1 : Hid (∀ st : BS, hbN (k + 1) st = st.2.1) := Lib.hid (fun st => if_neg (by omega))
          obtain ⟨d0, d1, d2⟩ := bx3.out.keep hb
          clear hrow
          generalize (xs.take k).foldl (hbS h o) hb0 = st at *
          obtain ⟨bb, f, s⟩ := st
          dsimp only at i1 i2 i3 i4 i5 hz0 ⊢
          generalize xs.getD k noS = p at *
          obtain ⟨j1, j2, j3, j4, j5⟩ := bst_in0 h1 hpm
          have hp1 := bst_pos h1 hpm
          have HC := Lib.hid (fun W => raBest_any h o p W h1 hpm)
          have hyes := Lib.hid (fun q => hbS_yes (h := h) (o := o) (st := (bb, f, s)) (p := p) q)
          have hno := Lib.hid (fun q => hbS_no (h := h) (o := o) (st := (bb, f, s)) (p := p) q)
          dsimp only at hyes hno
          clear hpm
          generalize (bst h o p).1 = B at *
          generalize (bst h o p).2.1 = F at *
          generalize (bst h o p).2.2 = S at *
          have hM : hbN k (bb, f, s) = if k = 0 then 2 else f := rfl
          have hm2 : 0 ≤ hbN k (bb, f, s) ∧ hbN k (bb, f, s) ≤ 400000 := by rw [hM]; split <;> omega
          have hcmp : (F * (f + s) < hbN k (bb, f, s) * (F + S)) ↔ F * s < f * S := by
            rw [hM]
            split
            · rename_i e
              obtain ⟨e1, e2⟩ := hz0 e
              subst e1 e2
              omega
            · rw [Int.mul_add, Int.mul_add, Int.mul_comm f F]
              omega
          have hk1 : ¬ (F * s < f * S) → k ≠ 0 := by
            intro q e
            obtain ⟨e1, e2⟩ := hz0 e
            subst e1 e2
            apply q
            omega
          have hMf : Hid (k ≠ 0 → hbN k (bb, f, s) = f) := Lib.hid (fun e => by rw [hM, if_neg e])
          clear hM hz0
          generalize hbN k (bb, f, s) = M at *
          have hm2a := hm2.1
          have hm2b := hm2.2
          obtain ⟨m1, m2⟩ := prodB j1 j2 (show 0 ≤ f + s by omega) (show f + s ≤ 800000 by omega)
          obtain ⟨m3, m4⟩ := prodB hm2a hm2b (show 0 ≤ F + S by omega) (show F + S ≤ 800000 by omega)
          have hw1 : IntKind.i64.wrap (F * (f + s)) = F * (f + s) := IntWalk.i64_in _ (by omega)
          have hw2 : IntKind.i64.wrap (M * (F + S)) = M * (F + S) := IntWalk.i64_in _ (by omega)
          by_cases hc : F * (f + s) < M * (F + S)
          · have hS := Lib.hid (hyes.out (hcmp.1 hc))
            clear hcmp hyes hno hm2
            go_wp2_with fail
            refine (HC.out _).mono ?_
            rintro e w4 ⟨rfl, hb4⟩
            go_wp2_with fail
            exact ⟨⟨k + 1, by omega, by go_num, by rw [hfk.out, hS.out], by rw [hfk.out, hS.out, hn1.out], by rw [hfk.out, hS.out], bel_trans hb hb4⟩, by simp [intOf]; omega⟩
          · have hS := Lib.hid (hno.out (fun q => hc (hcmp.2 q)))
            have hME := Lib.hid (hMf.out (hk1 (fun q => hc (hcmp.2 q))))
            clear hcmp hyes hno hm2 hk1
            go_wp2_with fail
            refine (HC.out _).mono ?_
            rintro e w4 ⟨rfl, hb4⟩
            go_wp2_with fail
            exact ⟨⟨k + 1, by omega, by go_num, by rw [hfk.out, hS.out], by rw [hfk.out, hS.out, hn1.out, hME.out], by rw [hfk.out, hS.out], bel_trans hb hb4⟩, by simp [intOf]; omega⟩
        · obtain rfl : k = N := by omega
          have hMk : hbN k (hbst h o t) = (hbst h o t).2.1 := if_neg (by omega)
          rw [List.take_of_length_le (by rw [HN.out]; exact Nat.le_refl _), hall.out, hMk]
          have hbf := bel_trans bl3 hb
          go_wp2_with fail
          exact bodyPost_ret (v := .tuple #[.string (hbst h o t).1, .int .i64 (hbst h o t).2.1, .int .i64 ((hbst h o t).2.1 + (hbst h o t).2.2), .bool true]) (by simp [results, Try.results4, go_sem]) rfl ⟨rfl, hbf⟩
end Go.Proofs.Ytmjnmemoaglkeaa
