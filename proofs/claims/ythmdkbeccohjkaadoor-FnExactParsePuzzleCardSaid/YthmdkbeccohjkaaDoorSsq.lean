/- strings.SplitSeq with a separator of one byte: the contract of its iterator. Of no function of the program. -/
import Derived.Test.YthmdkbeccohjkaaDoorIt
namespace Go.Proofs.YthmdkbeccohjkaaDoor
set_option linter.unusedSimpArgs false
open Go.ChangeShapes Go.WideShapes Go.ChangeAt Go.RowKit Go.Shelf
set_option linter.unusedVariables false
attribute [local go_sem] Oper.semAt_some

theorem idx_neg (l : List UInt8) (b : UInt8) : Lib.indexByte l b = -1 ∨ ∃ i : Nat, i < l.length ∧ Lib.indexByte l b = i := by
  induction l with
  | nil => exact .inl rfl
  | cons c l ih =>
    unfold Lib.indexByte
    split
    · exact .inr ⟨0, by simp, rfl⟩
    · rcases ih with h | ⟨i, hi, h⟩
      · rw [h]; exact .inl rfl
      · rw [h]
        have : ((i : Int) == -1) = false := by rw [beq_eq_false_iff_ne]; omega
        rw [this]
        exact .inr ⟨i + 1, by simp; omega, rfl⟩
theorem pcs_miss {l : List UInt8} {b : UInt8} (h : Lib.indexByte l b = -1) : pcs l b = [l] := by
  unfold pcs
  rw [Lib.count_miss (by rw [index_one]; exact h)]
  rfl
theorem pcs_hit {l : List UInt8} {b : UInt8} {i : Nat} (h : Lib.indexByte l b = i) : pcs l b = l.take i :: pcs (l.drop (i + 1)) b := by
  unfold pcs
  rw [Lib.count_hit (i := i) (by simp) (by rw [index_one]; exact h), Nat.add_comm 1]
  conv => lhs; unfold Lib.splitK
  rw [index_one, h, if_neg (by simp)]
  rw [show ((i : Int)).toNat + [b].length = i + 1 from rfl, show i + [b].length = i + 1 from rfl]
  simp
theorem strIndex_any (s : ByteArray) (c : UInt8) (w : World) :
    Calls Tryd.prog 102 #[.string s, .string ⟨#[c]⟩] w fun e w' => e = .returned (.int .i64 (Lib.indexByte s.data.toList c)) ∧ w' = w := by
  go_enter Tryd.func102, Tryd.ntmps102
  go_wp2_with fail
  refine (Tryd.stringslite_Index_one s c _).mono ?_
  rintro e w' ⟨rfl, hw'⟩
  subst hw'
  go_wp2_with fail
  go_ret
  exact ⟨rfl, rfl⟩
abbrev EnS (L : Nat) := { x : List UInt8 // x.length ≤ L }
def encS {L : Nat} (x : EnS L) : Array Value := #[.string (baL x.1)]
/-- The iterator's three variables: the text that is left, the separator, and how much of it is kept. -/
def Vars (W : World) (b : Nat) (s : ByteArray) (c : UInt8) : Prop :=
  Boxed W b 9 (.string s) ∧ Boxed W (b + 1) 9 (.string ⟨#[c]⟩) ∧ Boxed W (b + 2) 3 (.int .i64 0)
/-- What a round keeps for the iterator. -/
def KpV (b : Nat) (A B : World) : Prop := ∀ k, b ≤ k → k ≤ b + 2 → ∀ o : Obj, A.heap[k]? = some o → B.heap[k]? = some o
theorem KpV.t {b : Nat} {A B C : World} (h : KpV b A B) (k : KpV b B C) : KpV b A C := fun j h1 h2 o ho => k j h1 h2 o (h j h1 h2 o ho)
theorem KpV.obj {b : Nat} {w : World} (hb : b + 2 < w.heap.size) (W : World) (l : Nat) (o o' : Obj) (hl : w.heap.size ≤ l) (h : W.heap[l]? = some o) (_ : o.isCells = false) : KpV b W (W.putObj l o') :=
  fun k h1 h2 q hq => (World.putObj_heap_other (by omega)).trans hq
theorem Vars.kp {A B : World} {b : Nat} {s : ByteArray} {c : UInt8} (h : Vars A b s c) (k : KpV b A B) : Vars B b s c :=
  ⟨k b (by omega) (by omega) _ h.1, k (b + 1) (by omega) (by omega) _ h.2.1, k (b + 2) (by omega) (by omega) _ h.2.2⟩
theorem Vars.set {W : World} {b : Nat} {s : ByteArray} {c : UInt8} (h : Vars W b s c) (t : ByteArray) : Vars (W.setCell ⟨b, 0, none⟩ (.string t)) b t c :=
  ⟨h.1.set _, h.2.1.other (by omega) _, h.2.2.other (by omega) _⟩
set_option maxRecDepth 100000 in
set_option maxHeartbeats 2000000 in
theorem split1_in (n : Nat) (hn : 1 ≤ n) (l b L : Nat) (c : UInt8) (t : List UInt8) (hL : L ≤ 1048576) (ht : t.length ≤ L) (J : List (EnS L) → World → Prop)
    (hJ : ∀ ys W s, J ys W → J ys (W.setCell ⟨b, 0, none⟩ (.string s)))
    (hY : ∀ pre x W, J pre W → pre.length < L + 1 → YieldAt Fence.wide (n - 1) Tryd.prog l (encS x) W fun e W' => e = .returned (.bool true) ∧ J (pre ++ [x]) W' ∧ KpV b W W')
    (W : World) (hV : Vars W b (baL t) c) (h0 : J [] W) :
    CallsIn Fence.wide n Tryd.prog 109 #[.func (.yield l) #[] #[], .pointer (some ⟨b + 1, 0, none⟩), .pointer (some ⟨b, 0, none⟩), .pointer (some ⟨b + 2, 0, none⟩)] W fun e W' => (∃ v, e = .returned v) ∧
      ∃ ys : List (EnS L), ys.map (fun x => x.1) = pcs t c ∧ J ys W' := by
  refine callsIn_of_wp Tryd.func109 rfl trivial ?_ rfl
  simp only [Tryd.ntmps109, List.size_toArray, List.length_cons, List.length_nil, Nat.reduceAdd, Nat.reduceSub, Array.replicate_succ, Array.replicate_zero, List.push_toArray, List.append_toArray, List.nil_append, List.cons_append]
  have hro : Fence.wide.round = none := rfl
  have hfI : Fence.wide.fn 102 := trivial
  obtain ⟨c0, c1, c2⟩ : (W.cell? ⟨b, 0, none⟩ = some (.string (baL t)) ∧ W.cell? ⟨b + 1, 0, none⟩ = some (.string ⟨#[c]⟩) ∧ W.cell? ⟨b + 2, 0, none⟩ = some (.int .i64 0)) := ⟨hV.1.cell, hV.2.1.cell, hV.2.2.cell⟩
  have hlc : (⟨#[c]⟩ : ByteArray).size = 1 := rfl
  have hV := Lib.hid hV
  gi_wp2
  gi_loopw [7, 8] (fun _ _ wr => ∃ (r : List UInt8) (ys : List (EnS L)), r.length ≤ L ∧ Hid (ys.map (fun x => x.1) ++ pcs r c = pcs t c) ∧ J ys wr ∧ ys.length + r.length ≤ L ∧ Hid (Vars wr b (baL r) c))
    (fun _ _ wr => match wr.cell? ⟨b, 0, none⟩ with | some (.string s) => s.size | _ => 0)
  case atStart => exact ⟨t, [], ht, Lib.hid rfl, h0, by simpa using ht, hV⟩
  case round =>
    obtain ⟨r, ys, hr, hys, hJs, hyl, hv⟩ := hrel
    obtain ⟨d0, d1, d2⟩ : (wr.cell? ⟨b, 0, none⟩ = some (.string (baL r)) ∧ wr.cell? ⟨b + 1, 0, none⟩ = some (.string ⟨#[c]⟩) ∧ wr.cell? ⟨b + 2, 0, none⟩ = some (.int .i64 0)) := ⟨hv.out.1.cell, hv.out.2.1.cell, hv.out.2.2.cell⟩
    have hfr := hv.out.1.frozen
    have hrs : (baL r).size = r.length := by show r.toArray.size = _; simp
    rcases idx_neg r c with hm | ⟨i, hi, hm⟩
    · have HI : Hid (∀ W, Calls Tryd.prog 102 #[.string (baL r), .string ⟨#[c]⟩] W fun e w' => e = .returned (.int .i64 (-1)) ∧ w' = W) := Lib.hid fun W => (strIndex_any (baL r) c W).mono fun e w' ⟨h1, h2⟩ => ⟨by rw [h1, baL_toList, hm], h2⟩
      have hP : Hid (pcs r c = [r]) := Lib.hid (pcs_miss hm)
      clear hm
      obtain ⟨fn, tmps, assign, body, hy, hR⟩ := hY ys ⟨r, hr⟩ wr hJs (by omega)
      dsimp only [encS] at hy
      gi_wp2_with (gi_at_call 102; refine (callsIn_wide.2 (HI.out _)).mono ?_; rintro e w' ⟨rfl, rfl⟩)
      refine hR.mono ?_
      rintro e W3 ⟨rfl, hJ3, hk3⟩
      gi_wp2
      go_end0
      exact ⟨⟨_, rfl⟩, _, by rw [List.map_append]; have := hys.out; rw [hP.out] at this; exact this, hJ3⟩
    · have HI : Hid (∀ W, Calls Tryd.prog 102 #[.string (baL r), .string ⟨#[c]⟩] W fun e w' => e = .returned (.int .i64 (i : Int)) ∧ w' = W) := Lib.hid fun W => (strIndex_any (baL r) c W).mono fun e w' ⟨h1, h2⟩ => ⟨by rw [h1, baL_toList, hm], h2⟩
      have hP : Hid (pcs r c = r.take i :: pcs (r.drop (i + 1)) c) := Lib.hid (pcs_hit hm)
      clear hm
      obtain ⟨fn, tmps, assign, body, hy, hR⟩ := hY ys ⟨r.take i, by simp; omega⟩ wr hJs (by omega)
      dsimp only [encS] at hy
      have hex : Hid ((baL r).extract 0 i = baL (r.take i)) := Lib.hid (by rw [ext_baL, baL_toList, List.drop_zero])
      have hex2 : Hid ((baL r).extract (i + 1) r.length = baL (r.drop (i + 1))) := Lib.hid (by rw [ext_baL, baL_toList, List.take_of_length_le (Nat.le_refl _)])
      have hd0 := Lib.hid d0
      have hw1 : IntKind.i64.wrap ((i : Int) + 0) = (i : Int) := by rw [IntWalk.i64_in _ (by omega)]; omega
      have hw2 : IntKind.i64.wrap ((i : Int) + 1) = (i : Int) + 1 := IntWalk.i64_in _ (by omega)
      have hn0 : ¬ ((i : Int) < 0) := by omega
      rw [← hex.out] at hy
      gi_wp2_with (gi_at_call 102; refine (callsIn_wide.2 (HI.out _)).mono ?_; rintro e w' ⟨rfl, rfl⟩)
      refine hR.mono ?_
      rintro e W3 ⟨rfl, hJ3, hk3⟩
      have hv3 := Lib.hid (hv.out.kp hk3)
      obtain ⟨e0, e1, e2⟩ : (W3.cell? ⟨b, 0, none⟩ = some (.string (baL r)) ∧ W3.cell? ⟨b + 1, 0, none⟩ = some (.string ⟨#[c]⟩) ∧ W3.cell? ⟨b + 2, 0, none⟩ = some (.int .i64 0)) := ⟨hv3.out.1.cell, hv3.out.2.1.cell, hv3.out.2.2.cell⟩
      have hfr3 := hv3.out.1.frozen
      clear d0 d1 d2 hfr
      gi_wp2
      rw [hex2.out]
      have hv4 := Lib.hid (hv3.out.set (baL (r.drop (i + 1))))
      go_roundw
      case rel => exact ⟨r.drop (i + 1), ys ++ [⟨r.take i, by simp; omega⟩], by simp; omega, Lib.hid (by rw [List.map_append, List.append_assoc]; have := hys.out; rw [hP.out] at this; exact this), hJ _ _ _ hJ3, by simp; omega, hv4⟩
      case measure =>
        rw [hd0.out, hv4.out.1.cell]
        show (baL (r.drop (i + 1))).size < (baL r).size
        rw [hrs]
        show (r.drop (i + 1)).toArray.size < _
        simp
        omega
end Go.Proofs.YthmdkbeccohjkaaDoor
