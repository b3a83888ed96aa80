/- strings.Replacer at single bytes: the text with both signs exchanged. -/
import Derived.Test.YtdfjfojkheikiaaDoorRpR
import Derived.Laws.IdiomStrings
namespace Go.Proofs.YtdfjfojkheikiaaDoor
set_option linter.unusedSimpArgs false
open Go.ChangeShapes Go.WideShapes Go.ChangeAt Go.RowKit
set_option linter.unusedVariables false

abbrev encB8 (b : UInt8) : Value := .int .u8 (b.toNat : Int)
theorem byte_cellR (W : World) (A : Array Value) (t : TypeId) (j : Nat) (v : Value) (h : A[j]? = some v) (hl : j < A.size) :
    (W.alloc (.cells A t (A.size, A.size + 1))).cell? ⟨W.heap.size, j, none⟩ = some v ∧ (W.alloc (.cells A t (A.size, A.size + 1))).frozen? ⟨W.heap.size, j, none⟩ = false := by
  have e : (W.alloc (.cells A t (A.size, A.size + 1))).heap[W.heap.size]? = some (.cells A t (A.size, A.size + 1)) := by
    show (W.heap.push _)[W.heap.size]? = _
    simp
  constructor
  · unfold World.cell?
    simp only [e]
    exact h
  · unfold World.frozen?
    simp only [e]
    simp
    omega

def swB (b : UInt8) : UInt8 := if b = 104 then 116 else 104
def swS (s : ByteArray) : ByteArray := ⟨(s.data.toList.map swB).toArray⟩
/-- The bytes, those ahead of k exchanged. -/
def midL (s : ByteArray) (k : Nat) : List UInt8 := (s.data.toList.take k).map swB ++ s.data.toList.drop k
/-- The bytes lie in the block. -/
def HasB (w : World) (B : Nat) (l : List UInt8) : Prop := ∀ j, (hj : j < l.length) → w.cell? ⟨B, j, none⟩ = some (encB8 l[j]) ∧ w.frozen? ⟨B, j, none⟩ = false
theorem midL_len (s : ByteArray) (k : Nat) : (midL s k).length = s.size := by
  unfold midL
  have : s.data.toList.length = s.size := by simp
  simp
  omega
theorem midL_zero (s : ByteArray) : midL s 0 = s.data.toList := by simp [midL]
theorem midL_all (s : ByteArray) : midL s s.size = s.data.toList.map swB := by
  unfold midL
  have : s.data.toList.length = s.size := by simp
  rw [List.take_of_length_le (by omega), List.drop_of_length_le (by omega), List.append_nil]
theorem midL_step (s : ByteArray) (k : Nat) (hk : k < s.size) : (midL s k).set k (swB s[k]) = midL s (k + 1) := by
  have hl : s.data.toList.length = s.size := by simp
  have hg : s.data.toList[k]'(by omega) = s[k] := by simp [ByteArray.getElem_eq_getElem_data]
  unfold midL
  rw [List.set_append_right _ _ (by simp; omega)]
  rw [List.take_succ_eq_append_getElem (by omega), List.map_append, List.append_assoc]
  congr 1
  rw [List.length_map, List.length_take, Nat.min_eq_left (by omega), Nat.sub_self, List.drop_eq_getElem_cons (by omega), hg]
  rfl
theorem HasB.store {w : World} {B : Nat} {l : List UInt8} (h : HasB w B l) (k : Nat) (x : UInt8) (hk : k < l.length) : HasB (w.setCell ⟨B, k, none⟩ (encB8 x)) B (l.set k x) := by
  intro j hj
  rw [List.length_set] at hj
  rw [World.frozen?_setCell]
  refine ⟨?_, (h j hj).2⟩
  by_cases e : k = j
  · subst e
    rw [World.cell?_setCell_same' _ _ _ (by rw [(h k hk).1]; rfl), List.getElem_set_self]
  · rw [World.cell?_setCell_other _ _ _ _ (fun q => e (by injection q)), List.getElem_set_ne e]
    exact (h j hj).1
theorem sw_at {c : UInt8} (h : tosB c = true) : (swN c.toNat : Int) = ((swB c).toNat : Int) ∧ (((swB c).toNat : Int) == (c.toNat : Int)) = false := by
  rcases (tosB_iff c).1 h with e | e
  · have hc : c = 104 := by rw [← UInt8.toNat_inj]; simpa using e
    subst hc
    exact ⟨rfl, rfl⟩
  · have hc : c = 116 := by rw [← UInt8.toNat_inj]; simpa using e
    subst hc
    exact ⟨rfl, rfl⟩
set_option maxRecDepth 100000 in
set_option maxHeartbeats 3200000 in
theorem bR_any (K : Nat) (s : ByteArray) (w : World) (hK : w.heap[K]? = some (.cells (repC swN) 96)) (hKw : K < w.heap.size) (ha : allT s = true) (h1 : 1 ≤ s.size) (h8 : s.size ≤ 8) :
    Calls Tryd.prog 143 #[.pointer (some ⟨K, 0, none⟩), .string s] w fun e w' => e = .returned (.string (swS s)) ∧ Below w.heap.size w w' := by
  have q69 : ∀ (w : World) (a : Option Addr) (n c n' c' : Nat), (binOp .eql 53 (.slice a n c) (.slice none n' c')).run Tryd.prog w = .ok (.bool a.isNone) w := fun w a n c n' c' => Lib.run_eql_slice_nil w _ _ a n c n' c' Tryd.underlying53
  go_enter Tryd.func143, Tryd.ntmps143
  go_wp2_with fail
  go_loopw [5, 6] (fun v x wr => ∃ k : Nat, k ≤ s.size ∧ x = .int .i64 k ∧ ((k = 0 ∧ v = .slice none 0 0 ∧ wr = w) ∨ (0 < k ∧ ∃ B cap : Nat, v = .slice (some ⟨B, 0, none⟩) s.size cap ∧ w.heap.size ≤ B ∧ s.size ≤ cap ∧ Hid (HasB wr B (midL s k)) ∧ Below w.heap.size w wr))) (fun _ x _ => s.size - (intOf x).toNat)
  case atStart => exact ⟨0, by omega, rfl, .inl ⟨rfl, rfl, rfl⟩⟩
  case round =>
    obtain ⟨k, hk, rfl, hc⟩ := hrel
    obtain ⟨wa, rfl⟩ : ∃ wa : World, wa = wr := ⟨_, rfl⟩
    by_cases hlt : k < s.size
    · have ht := allT_at s k hlt ha
      obtain ⟨t1, t2⟩ := sw_at ht
      have hst := Lib.hid (midL_step s k hlt)
      have hml := Lib.hid (midL_len s k)
      have hlt8 : s[k].toNat < 256 := UInt8.toNat_lt _
      have hlti : (s[k].toNat : Int) < 256 := by omega
      have hki : (k : Int) < (s.size : Int) := by omega
      have hkK : wa.heap[K]? = some (.cells (repC swN) 96) := by
        rcases hc with ⟨_, _, rfl⟩ | ⟨_, _, _, _, _, _, _, hb⟩
        · exact hK
        · exact (hb.block K hKw).trans hK
      have e1 := cell_heap hkK (repC_get swN s[k].toNat hlt8)
      rw [t1] at e1
      have HT1 := Lib.hid t1
      clear t1 ht hkK
      rcases hc with ⟨rfl, rfl, rfl⟩ | ⟨hk0, B, cap, rfl, hB, hcp, hH, hb⟩
      · have hcv := run_bytes_of_string (P := Tryd.prog) wa 9 53 5 s Tryd.underlying9 Tryd.underlying53 Tryd.underlying5
        have hrw : ∀ cap : Nat, HasB (wa.drew.alloc (.cells (bytesRow s cap) 5 ((bytesRow s cap).size, (bytesRow s cap).size + 1))) wa.heap.size (midL s 0) := by
          intro cap
          rw [midL_zero]
          intro j hj
          have hr := bytesRow_at s cap j (by simpa using hj)
          have hl : j < (bytesRow s cap).size := by
            rcases Nat.lt_or_ge j (bytesRow s cap).size with h | h
            · exact h
            · rw [Array.getElem?_eq_none h] at hr; cases hr
          exact byte_cellR wa.drew _ _ j _ hr hl
        have hbx := fun cap => bel_alloc (bel_drewN (Below.refl wa.heap.size wa) 1) (.cells (bytesRow s cap) 5 ((bytesRow s cap).size, (bytesRow s cap).size + 1))
        have he2 := fun cap => cell_heap (W := wa.drew.alloc (.cells (bytesRow s cap) 5 ((bytesRow s cap).size, (bytesRow s cap).size + 1))) (b := K) (q := s[0].toNat) (v := .int .u8 ((swN s[0].toNat : Nat) : Int)) ((heap_alloc_old wa.drew _ hKw).trans hK) (repC_get swN s[0].toNat hlt8)
        have hcg0 : ∀ cap, cap = grownCap wa s.size 0 5 → s.size ≤ cap := fun cap h => by rw [h]; exact grownCap_ge _ _ _ _
        have hcg0 := hcg0 _ rfl
        generalize grownCap wa s.size 0 5 = cap at *
        have HR := Lib.hid (hrw cap)
        have HB := Lib.hid (hbx cap)
        have HE := Lib.hid (he2 cap)
        clear hrw hbx he2
        have hcg := Lib.hid hcg0
        generalize hO : Obj.cells (bytesRow s cap) 5 ((bytesRow s cap).size, (bytesRow s cap).size + 1) = O at *
        have e2 := HE.out
        rw [HT1.out] at e2
        obtain ⟨c0, f0⟩ := HR.out 0 (by rw [midL_len]; exact hlt)
        have hH1 := Lib.hid (HR.out.store 0 (swB s[0]) (by rw [midL_len]; exact hlt))
        rw [hst.out] at hH1
        have hB1 := Lib.hid (Below.setCell HB.out (p := ⟨wa.heap.size, 0, none⟩) (Nat.le_refl _) (encB8 (swB s[0])))
        clear hO hK ha hst hml HT1 HE
        generalize (midL s 0)[0]'_ = b0 at c0
        have e3 : (wa.alloc O).cell? ⟨K, s[0].toNat, none⟩ = some (.int .u8 ((swB s[0]).toNat : Int)) := e2
        have c1 : (wa.alloc O).cell? ⟨wa.heap.size, 0, none⟩ = some (encB8 b0) := c0
        have f1 : (wa.alloc O).frozen? ⟨wa.heap.size, 0, none⟩ = false := f0
        have hH2 : Hid (HasB (((wa.alloc O).setCell ⟨wa.heap.size, 0, none⟩ (encB8 (swB s[0]))).drew) wa.heap.size (midL s 1)) := hH1
        have hB2 : Hid (Below wa.heap.size wa (((wa.alloc O).setCell ⟨wa.heap.size, 0, none⟩ (encB8 (swB s[0]))).drew)) := hB1
        clear c0 f0 e2 hH1 hB1 HR HB
        go_wp2_with fail
        exact ⟨⟨1, by omega, by go_num, .inr ⟨by omega, _, cap, rfl, Nat.le_refl _, hcg.out, hH2, hB2.out⟩⟩, by simp [intOf]; omega⟩
      · obtain ⟨c0, f0⟩ := hH.out k (by rw [midL_len]; exact hlt)
        have hH1 := Lib.hid (hH.out.store k (swB s[k]) (by rw [midL_len]; exact hlt))
        rw [hst.out] at hH1
        have hB1 := Lib.hid (Below.setCell hb (p := ⟨B, k, none⟩) hB (encB8 (swB s[k])))
        clear hK ha hst hml HT1
        generalize (midL s k)[k]'_ = b0 at c0
        go_wp2_with fail
        exact ⟨⟨k + 1, by omega, by go_num, .inr ⟨by omega, B, cap, rfl, hB, hcp, hH1, hB1.out⟩⟩, by simp [intOf]; omega⟩
    · obtain rfl : k = s.size := by omega
      rcases hc with ⟨e, _⟩ | ⟨hk0, B, cap, rfl, hB, hcp, hH, hb⟩
      · omega
      · have hH2 := hH.out
        rw [midL_all] at hH2
        have hcb := run_convert_bytes_back (P := Tryd.prog) wa 53 9 5 ⟨B, 0, none⟩ cap (s.data.toList.map swB) Tryd.underlying53 Tryd.underlying5 Tryd.underlying9 (fun j hj => by
          rw [Addr.add_lit, Nat.zero_add]
          exact (hH2 j hj).1)
        rw [show (s.data.toList.map swB).length = s.size from by simp] at hcb
        have hfin : Hid ((⟨(s.data.toList.map swB).toArray⟩ : ByteArray) = swS s) := rfl
        generalize (⟨(s.data.toList.map swB).toArray⟩ : ByteArray) = T at *
        clear hH hH2
        go_wp2_with fail
        go_ret
        exact ⟨by rw [← hfin.out]; rfl, hb⟩
end Go.Proofs.YtdfjfojkheikiaaDoor
