/- ShortestWithBoth: contracts and the walk. -/
import Derived.Test.YtiblggfihpobkabDoorMl
import Derived.Test.YtiblggfihpobkabDoorSPush
import Derived.Test.YtiblggfihpobkabDoorShelfC
import Derived.Shelf.Strconv.Clone
import Derived.Sort.Walk0
namespace Go.Proofs.YtiblggfihpobkabDoor
set_option linter.unusedSimpArgs false
open Go.ChangeShapes Go.WideShapes Go.ChangeAt Go.RowKit
set_option linter.unusedVariables false

theorem bl_ltb (a b : ByteArray) : Op.bytesLess a.toList b.toList = ltS a b := by
  unfold ltS
  rw [Go.Proofs.bytesLess_eq, ByteArray.toList_eq, ByteArray.toList_eq]
theorem clone_any_st (s : ByteArray) (w : World) (h8 : s.size ≤ 100) :
    Calls Tryd.prog 28 #[.string s] w fun e w' => e = .returned (.string s) ∧ Below w.heap.size w w' := by
  go_enter Tryd.func28, Tryd.ntmps28
  go_wp2_with fail
  refine (Any.stringslite_Clone Tryd.laysM316 s _ (by omega)).mono ?_
  rintro e w' ⟨rfl, hb⟩
  go_wp2_with fail
  go_ret
  exact ⟨rfl, hb⟩
theorem suffixB_any (s p : ByteArray) (w : World) (hs : s.size ≤ 9223372036854775807) :
    Calls Tryd.prog 46 #[.string s, .string p] w fun e w' => e = .returned (.bool (Lib.hasSuffix s.data.toList p.data.toList)) ∧ w = w' :=
  (Tryd.strings_HasSuffix s p w hs).mono fun _ _ ⟨a, b⟩ => ⟨a, b.symm⟩
set_option maxRecDepth 100000 in
set_option maxHeartbeats 1600000 in
theorem joined_any (a b : ByteArray) (w : World) (hM : MLen w) (a1 : 1 ≤ a.size) (a8 : a.size ≤ 8) (b1 : 1 ≤ b.size) (b8 : b.size ≤ 8) :
    Calls Tryd.prog 26 #[.string a, .string b] w fun e w' => e = .returned (.string (jn a b)) ∧ w = w' := by
  cases hc : conB a b
  · have hfin : Hid (jn a b = bh a b (jnC a b (b.size - 1))) := Lib.hid (if_neg (by rw [hc]; simp))
    rw [hfin.out]
    have HM := Lib.hid hM
    have hw1 : IntKind.i64.wrap ((b.size : Int) - 1) = ((b.size - 1 : Nat) : Int) := by rw [IntWalk.i64_in _ (by omega)]; omega
    go_enter Tryd.func26, Tryd.ntmps26
    go_wp2_with fail
    refine (contains_any2 a b _ HM.out (by omega)).mono ?_
    rintro e w' ⟨rfl, rfl⟩
    rw [hc]
    go_wp2_with fail
    go_loop [5] (fun x => ∃ c : Nat, c ≤ b.size - 1 ∧ x = .int .i64 c ∧ Hid (jnC a b c = jnC a b (b.size - 1))) (fun x => (intOf x).toNat)
    case atStart => exact ⟨b.size - 1, Nat.le_refl _, by congr 1, rfl⟩
    case round =>
      obtain ⟨c, hcb, rfl, hj⟩ := hrel
      have hsx : Hid (Lib.hasSuffix a.data.toList (b.extract 0 c).data.toList = sfx a b c) := rfl
      cases hq : sfx a b c with
      | true =>
        have hr : Hid (bh a b (jnC a b (b.size - 1)) = a ++ b.extract c b.size) := Lib.hid (by rw [← hj.out, jnC_yes hq]; rfl)
        rw [hq] at hsx
        have z1 := ext_size b c b.size (Nat.le_refl _)
        have t1 : ¬ 9223372036854775807 < a.size + (b.extract c b.size).size := by omega
        clear hq z1
        go_wp2_with fail
        refine (suffixB_any a _ _ (by omega)).mono ?_
        rintro e w2 ⟨rfl, rfl⟩
        rw [hsx.out]
        go_wp2_with fail
        go_ret
        exact ⟨by rw [hr.out]; rfl, rfl⟩
      | false =>
        cases c with
        | zero => rw [sfx_zero] at hq; cases hq
        | succ d =>
          have hn := jnC_no hq
          have hj2 : Hid (jnC a b d = jnC a b (b.size - 1)) := Lib.hid (by rw [← hn]; exact hj.out)
          rw [hq] at hsx
          clear hq hn hj
          go_wp2_with fail
          refine (suffixB_any a _ _ (by omega)).mono ?_
          rintro e w2 ⟨rfl, rfl⟩
          rw [hsx.out]
          go_wp2_with fail
          exact ⟨⟨d, by omega, by go_num, hj2⟩, by simp [intOf]⟩
  · rw [show jn a b = a from if_pos hc]
    have HM := Lib.hid hM
    go_enter Tryd.func26, Tryd.ntmps26
    go_wp2_with fail
    refine (contains_any2 a b _ HM.out (by omega)).mono ?_
    rintro e w' ⟨rfl, rfl⟩
    rw [hc]
    go_wp2_with fail
    go_ret
    exact ⟨rfl, rfl⟩
theorem befLen_any (x y : ByteArray) (w : World) (hx : x.size ≤ 100) (hy : y.size ≤ 100) :
    Calls Tryd.prog 27 #[.string x, .string y] w fun e w' => e = .returned (.bool (bef x y)) ∧ w = w' := by
  have hl := bl_ltb x y
  by_cases h1 : x.size < y.size
  · rw [show bef x y = true from by unfold bef; simp [h1]]
    have z1 : (x.size : Int) < (y.size : Int) := by omega
    go_enter Tryd.func27, Tryd.ntmps27
    go_wp2
    go_ret
    exact ⟨rfl, rfl⟩
  · by_cases h2 : x.size = y.size
    · rw [show bef x y = ltS x y from by unfold bef; simp [h1, h2]]
      have H2 := Lib.hid h2
      have hxy : ((x.size : Int) == (y.size : Int)) = true := by simp [h2]
      have hxn : (x.size == y.size) = true := by simp [h2]
      have z1 : ¬ (x.size : Int) < (y.size : Int) := by omega
      clear h1 h2
      go_enter Tryd.func27, Tryd.ntmps27
      go_wp2
      go_ret
      exact ⟨rfl, rfl⟩
    · rw [show bef x y = false from by unfold bef; simp [h1, h2]]
      have z1 : ¬ (x.size : Int) < (y.size : Int) := by omega
      have z2 : ¬ (x.size : Int) = (y.size : Int) := by omega
      have z3 : ((x.size : Int) == (y.size : Int)) = false := by simpa using z2
      go_enter Tryd.func27, Tryd.ntmps27
      go_wp2
      go_ret
      exact ⟨rfl, rfl⟩

/-- The first one of the first k + 1 of some texts, by p. -/
def mnG (p : ByteArray → ByteArray → Bool) (xs : List ByteArray) : Nat → ByteArray
  | 0 => xs.getD 0 ByteArray.empty
  | k + 1 => if p (xs.getD (k + 1) ByteArray.empty) (mnG p xs k) then xs.getD (k + 1) ByteArray.empty else mnG p xs k
theorem mnG_in {p : ByteArray → ByteArray → Bool} {xs : List ByteArray} {B : Nat} (h : ∀ k, (xs.getD k ByteArray.empty).size ≤ B) : ∀ k, (mnG p xs k).size ≤ B
  | 0 => h 0
  | k + 1 => by
    unfold mnG
    split
    · exact h (k + 1)
    · exact mnG_in h k
set_option maxRecDepth 100000 in
set_option maxHeartbeats 1600000 in
theorem firstBy_any (fid : FuncId) (p : ByteArray → ByteArray → Bool) (B : Nat) (eg : ∀ args w, (callFunc fid args).run Tryd.prog w = .ok (.enter fid args) w)
    (hp : ∀ (a b : ByteArray) (w : World), a.size ≤ B → b.size ≤ B → Calls Tryd.prog fid #[.string a, .string b] w fun e w' => e = .returned (.bool (p a b)) ∧ w = w')
    (xs : List ByteArray) (g cap base : Nat) (w : World) (hR : SRow w base (.slice (some ⟨g, 0, none⟩) xs.length cap) xs) (hB : ∀ k, (xs.getD k ByteArray.empty).size ≤ B) (hpos : 0 < xs.length) (hsm : xs.length ≤ 1000) (hc : xs.length ≤ cap) (hcm : cap ≤ maxLen) :
    Calls Tryd.prog 25 #[.slice (some ⟨g, 0, none⟩) xs.length cap, .func (.func fid) #[] #[]] w fun e w' => e = .returned (.string (mnG p xs (xs.length - 1))) ∧ w = w' := by
  unfold maxLen at hcm
  have HP := Lib.hid hp
  have HB := Lib.hid hB
  have HR := Lib.hid hR
  have c0 := hR.at_ 0 hpos
  have m0 : Hid (mnG p xs 0 = xs.getD 0 ByteArray.empty) := rfl
  clear hR hp hB
  generalize hx0 : xs.getD 0 ByteArray.empty = x0 at *
  generalize hN : xs.length = N at *
  have HN := Lib.hid hN
  clear hN
  by_cases hc1 : cap = 1
  · subst hc1
    obtain rfl : N = 1 := by omega
    go_enter Tryd.func25, Tryd.ntmps25
    go_wp2_with fail
    go_loop [5, 14] (fun x i => i = .int .i64 0 ∧ x = .string x0) (fun _ _ => 0)
    case atStart => exact ⟨rfl, rfl⟩
    case round =>
      obtain ⟨rfl, rfl⟩ := hrel
      go_wp2_with fail
      go_ret
      exact ⟨by rw [← m0.out]; rfl, rfl⟩
  go_enter Tryd.func25, Tryd.ntmps25
  go_wp2_with fail
  go_loop [5, 14] (fun x i => ∃ k : Nat, k + 1 ≤ N ∧ i = .int .i64 k ∧ x = .string (mnG p xs k)) (fun _ i => N - (intOf i).toNat)
  case atStart => exact ⟨0, by omega, rfl, by rw [m0.out]⟩
  case round =>
    obtain ⟨k, hk, rfl, rfl⟩ := hrel
    by_cases hlt : k + 1 < N
    · have hR2 := HR.out
      rw [← HN.out] at hR2
      have c1 : w.cell? ⟨g, 1 + k, none⟩ = some (.string (xs.getD (k + 1) ByteArray.empty)) := by rw [Nat.add_comm 1 k]; exact hR2.at_ (k + 1) (by rw [HN.out]; exact hlt)
      have hy := Lib.hid (HB.out (k + 1))
      have hz := Lib.hid (mnG_in (p := p) HB.out k)
      clear hR2
      have hst : Hid (mnG p xs (k + 1) = if p (xs.getD (k + 1) ByteArray.empty) (mnG p xs k) then xs.getD (k + 1) ByteArray.empty else mnG p xs k) := rfl
      generalize xs.getD (k + 1) ByteArray.empty = y at *
      cases hq : p y (mnG p xs k) with
      | true =>
        rw [hq] at hst
        have Hq := Lib.hid hq
        clear hq
        go_wp2_with fail
        refine (HP.out y (mnG p xs k) _ hy.out hz.out).mono ?_
        rintro e w2 ⟨rfl, rfl⟩
        rw [Hq.out]
        go_wp2_with fail
        exact ⟨⟨k + 1, by omega, by go_num, by rw [hst.out]; rfl⟩, by simp [intOf]; omega⟩
      | false =>
        rw [hq] at hst
        have Hq := Lib.hid hq
        clear hq
        go_wp2_with fail
        refine (HP.out y (mnG p xs k) _ hy.out hz.out).mono ?_
        rintro e w2 ⟨rfl, rfl⟩
        rw [Hq.out]
        go_wp2_with fail
        exact ⟨⟨k + 1, by omega, by go_num, by rw [hst.out]; rfl⟩, by simp [intOf]; omega⟩
    · obtain rfl : k = N - 1 := by omega
      go_wp2_with fail
      go_ret
      exact ⟨rfl, rfl⟩
theorem SRow.lit2 (w : World) (a b : ByteArray) : SRow (w.alloc (.cells #[.string a, .string b] 9)) w.heap.size (.slice (some ⟨w.heap.size, 0, none⟩) 2 2) [a, b] :=
  World.ownsRow_lit w #[.string a, .string b] 2 (Nat.le_refl _) (by simp [maxLen]) rfl
theorem jn_size (a b : ByteArray) (a8 : a.size ≤ 8) (b8 : b.size ≤ 8) : (jn a b).size ≤ 16 := by
  unfold jn
  split
  · omega
  · rw [bh_size a b _ (by have := (jnC_in a b (b.size - 1)).1; omega)]
    omega
def ansSb (a b : ByteArray) : Value := if woG 26 a && woG 26 b then .tuple #[.string (sbW a b), .bool true] else .tuple #[.string ⟨#[]⟩, .bool false]
set_option maxRecDepth 100000 in
set_option maxHeartbeats 1600000 in
theorem implSb_any (a b : ByteArray) (w : World) (hM : MLen w) (ha : a.size ≤ maxLen) (hb : b.size ≤ maxLen) :
    Calls Tryd.prog 12 #[.string a, .string b] w fun e w' => e = .returned (ansSb a b) ∧ Below w.heap.size w w' := by
  have HM := Lib.hid hM
  clear hM
  cases h1 : woG 26 a
  · rw [show ansSb a b = .tuple #[.string ⟨#[]⟩, .bool false] from by unfold ansSb; rw [h1]; rfl]
    go_enter Tryd.func12, Tryd.ntmps12
    go_wp2_with fail
    refine (isWord_any a _ ha).mono ?_
    rintro e w1 ⟨rfl, hb1⟩
    rw [h1]
    go_wp2_with fail
    go_ret2
    exact ⟨rfl, hb1⟩
  · cases h2 : woG 26 b
    · rw [show ansSb a b = .tuple #[.string ⟨#[]⟩, .bool false] from by unfold ansSb; rw [h1, h2]; rfl]
      go_enter Tryd.func12, Tryd.ntmps12
      go_wp2_with fail
      refine (isWord_any a _ ha).mono ?_
      rintro e w1 ⟨rfl, hb1⟩
      rw [h1]
      go_wp2_with fail
      refine (isWord_any b _ hb).mono ?_
      rintro e w2 ⟨rfl, hb2⟩
      rw [h2]
      go_wp2_with fail
      go_ret2
      exact ⟨rfl, bel_trans hb1 hb2⟩
    · obtain ⟨p1, p2, p3⟩ := wo_in h1
      obtain ⟨q1, q2, q3⟩ := wo_in h2
      rw [show ansSb a b = .tuple #[.string (pick2 (jn a b) (jn b a)), .bool true] from by unfold ansSb; rw [h1, h2, sb_eq a b p1 q1]; rfl]
      have eg : ∀ args w, (callFunc 27 args).run Tryd.prog w = .ok (.enter 27 args) w := Go.Proofs.enters_of Tryd.func27 (by kernel_rfl) rfl
      have z1 := Lib.hid (jn_size a b p2 q2)
      have z2 := Lib.hid (jn_size b a q2 p2)
      obtain ⟨x, hx⟩ : ∃ x, x = jn a b := ⟨_, rfl⟩
      obtain ⟨y, hy⟩ : ∃ y, y = jn b a := ⟨_, rfl⟩
      rw [← hx] at z1
      rw [← hy] at z2
      rw [← hx, ← hy]
      have Hx := Lib.hid hx
      have Hy := Lib.hid hy
      clear hx hy
      have hpk : Hid (mnG bef [x, y] ([x, y].length - 1) = pick2 x y) := rfl
      go_enter Tryd.func12, Tryd.ntmps12
      go_wp2_with fail
      refine (isWord_any a _ ha).mono ?_
      rintro e w1 ⟨rfl, hb1⟩
      rw [h1]
      go_wp2_with fail
      refine (isWord_any b _ hb).mono ?_
      rintro e w2 ⟨rfl, hb2⟩
      rw [h2]
      have hM2 := Lib.hid (HM.out.keep (bel_trans hb1 hb2))
      have hbl := bel_trans hb1 hb2
      clear h1 h2
      go_wp2_with fail
      refine (joined_any a b _ hM2.out p1 p2 q1 q2).mono ?_
      rintro e w3 ⟨rfl, rfl⟩
      rw [← Hx.out]
      go_wp2_with fail
      refine (joined_any b a _ hM2.out q1 q2 p1 p2).mono ?_
      rintro e w4 ⟨rfl, rfl⟩
      rw [← Hy.out]
      go_wp2_with fail
      refine (firstBy_any 27 bef 100 eg (fun u v W hu hv => befLen_any u v W hu hv) [x, y] _ 2 _ _ (SRow.lit2 _ x y) (fun k => by
        match k with
        | 0 => have := z1.out; show x.size ≤ 100; omega
        | 1 => have := z2.out; show y.size ≤ 100; omega
        | k + 2 => show (0 : Nat) ≤ 100; omega) (by simp) (by simp) (by simp) (by simp [maxLen])).mono ?_
      rintro e w5 ⟨rfl, rfl⟩
      rw [hpk.out]
      have hpz : Hid ((pick2 x y).size ≤ 100) := by
        refine Lib.hid ?_
        have := z1.out
        have := z2.out
        unfold pick2
        split <;> omega
      go_wp2_with fail
      refine (clone_any_st _ _ hpz.out).mono ?_
      rintro e w6 ⟨rfl, b6⟩
      go_wp2_with fail
      go_ret2
      exact ⟨rfl, bel_trans (bel_alloc hbl _) b6⟩

theorem l1LeastN_any (a b : Nat) (w : World) :
    Calls Tryd.prog 41 #[.int .i64 a, .int .i64 b] w fun e w' => e = .returned (.int .i64 ((min a b : Nat) : Int)) ∧ w = w' := by
  by_cases h : a < b
  · have z : (a : Int) < (b : Int) := by omega
    rw [Nat.min_eq_left (by omega)]
    go_enter Tryd.func41, Tryd.ntmps41
    go_wp2
    go_ret
    exact ⟨rfl, rfl⟩
  · have z : ¬ (a : Int) < (b : Int) := by omega
    rw [Nat.min_eq_right (by omega)]
    go_enter Tryd.func41, Tryd.ntmps41
    go_wp2
    go_ret
    exact ⟨rfl, rfl⟩
set_option maxRecDepth 100000 in
set_option maxHeartbeats 1600000 in
theorem woBehind_any (a b : ByteArray) (w : World) (a8 : a.size ≤ 8) (b8 : b.size ≤ 8) :
    Calls Tryd.prog 23 #[.string a, .string b] w fun e w' => e = .returned (.string (bh a b (jnC a b (min a.size b.size)))) ∧ ∃ n, w' = w.drewN n := by
  have hm1 : min a.size b.size ≤ a.size := Nat.min_le_left _ _
  have hm2 : min a.size b.size ≤ b.size := Nat.min_le_right _ _
  obtain ⟨m, hm⟩ : ∃ m, m = min a.size b.size := ⟨_, rfl⟩
  rw [← hm] at hm1 hm2
  rw [← hm]
  have Hm := Lib.hid hm
  clear hm
  go_enter Tryd.func23, Tryd.ntmps23
  go_wp2_with fail
  refine (l1LeastN_any a.size b.size _).mono ?_
  rintro e w' ⟨rfl, rfl⟩
  rw [← Hm.out]
  go_wp2_with fail
  go_loopw [5] (fun x wr => ∃ c : Nat, c ≤ m ∧ x = .int .i64 c ∧ Hid (jnC a b c = jnC a b m) ∧ ∃ n, wr = w.drewN n) (fun x _ => (intOf x).toNat)
  case atStart => exact ⟨m, Nat.le_refl _, rfl, rfl, 0, rfl⟩
  case round =>
    obtain ⟨c, hc, rfl, hj, n, rfl⟩ := hrel
    cases c with
    | zero =>
      have hr : Hid (bh a b (jnC a b m) = a ++ b) := Lib.hid (by
        rw [← hj.out]
        show a ++ b.extract 0 b.size = a ++ b
        rw [show b.extract 0 b.size = b from by rw [ba_eq, ext_list, List.drop_zero, List.take_of_length_le (by rw [len_list]; exact Nat.le_refl _)]])
      have t1 : ¬ 9223372036854775807 < a.size + b.size := by omega
      go_wp2_with fail
      go_ret
      exact ⟨by rw [hr.out]; rfl, n, rfl⟩
    | succ d =>
      have hw1 : IntKind.i64.wrap ((a.size : Int) - ((d + 1 : Nat) : Int)) = ((a.size - (d + 1) : Nat) : Int) := by rw [IntWalk.i64_in _ (by omega)]; omega
      have hbe : ((a.extract (a.size - (d + 1)) a.size).toList == (b.extract 0 (d + 1)).toList) = sfx a b (d + 1) := by rw [ba_beq]; exact sfx_eq a b (d + 1) (by omega) (by omega)
      cases hq : sfx a b (d + 1) with
      | true =>
        have hr : Hid (bh a b (jnC a b m) = a ++ b.extract (d + 1) b.size) := Lib.hid (by rw [← hj.out, jnC_yes hq]; rfl)
        rw [hq] at hbe
        have z1 := ext_size b (d + 1) b.size (Nat.le_refl _)
        have t1 : ¬ 9223372036854775807 < a.size + (b.extract (d + 1) b.size).size := by omega
        clear hq z1
        go_wp2_with fail
        go_quiet (fail)
        go_wp2_with fail
        go_ret
        exact ⟨by rw [hr.out]; rfl, _, rfl⟩
      | false =>
        have hn := jnC_no hq
        have hj2 : Hid (jnC a b d = jnC a b m) := Lib.hid (by rw [← hn]; exact hj.out)
        rw [hq] at hbe
        clear hq hn hj
        go_wp2_with fail
        go_quiet (fail)
        go_wp2_with fail
        exact ⟨⟨d, by omega, by go_num, hj2, _, rfl⟩, by simp [intOf]⟩
theorem bh_size16 (a b : ByteArray) (c : Nat) (a8 : a.size ≤ 8) (b8 : b.size ≤ 8) (hc : c ≤ b.size) : (bh a b c).size ≤ 16 := by
  rw [bh_size a b c hc]
  omega
theorem jnC_le (a b : ByteArray) (m : Nat) : jnC a b m ≤ m := (jnC_in a b m).1
theorem bef_yes {x y : ByteArray} (h : bef y x = true) : pick2 x y = y := if_pos h
theorem bef_no {x y : ByteArray} (h : bef y x = false) : pick2 x y = x := by unfold pick2; rw [h]; rfl
theorem selN_len (p : Nat → Bool) (a n : Nat) : (selR p a n).length ≤ n := selR_len p a n
end Go.Proofs.YtiblggfihpobkabDoor
