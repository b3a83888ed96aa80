/- TurnPattern: the program's contract. -/
import Derived.Test.YtdfjfojkheikiaaDoorRpT
import Derived.Test.YtdfjfojkheikiaaDoorSRow
namespace Go.Proofs.YtdfjfojkheikiaaDoor
set_option linter.unusedSimpArgs false
open Go.ChangeShapes Go.WideShapes Go.ChangeAt Go.RowKit
set_option linter.unusedVariables false

set_option maxRecDepth 100000 in
set_option maxHeartbeats 1600000 in
theorem repl_any (R S cap : Nat) (i : Value) (s : ByteArray) (w : World) (hcap : cap ≤ maxLen) (h4 : 4 ≤ cap) (hS : S ≠ R) (h : RB w R 0 0 i (.slice (some ⟨S, 0, none⟩) 4 cap)) (hq : ∀ k, k < 4 → w.cell? ⟨S, k, none⟩ = some (.string (quad k)))
    (ha : allT s = true) (h1 : 1 ≤ s.size) (h8 : s.size ≤ 8) :
    Calls Tryd.prog 24 #[.pointer (some ⟨R, 0, none⟩), .string s] w fun e w' => e = .returned (.string (swS s)) ∧ Below R w w' := by
  have hmf : ∀ (fn : Fn) (first cap : Array Value) (w : World), (Instr.makeFunc fn first cap).run Tryd.prog w = .ok (.func fn first cap) w := fun _ _ _ _ => rfl
  have hme : ∀ (n : Nat) (v : Value) (w : World), Sem.run Tryd.prog (method (n + 1) 97 v "Replace") w = .ok (143, v) w := fun _ _ _ => rfl
  have HD := Lib.hid (do_any R S cap i w hcap h4 hS h hq)
  clear hq
  go_enter Tryd.func24, Tryd.ntmps24
  go_wp2_with fail
  refine HD.out.mono ?_
  rintro e w1 ⟨rfl, m1, m2, m3, m4⟩
  have c3 := m1.c3
  have HR := Lib.hid (bR_any w.heap.size s w1 m2 (by
    rcases Nat.lt_or_ge w.heap.size w1.heap.size with q | q
    · exact q
    · rw [Array.getElem?_eq_none q] at m2; cases m2) ha h1 h8)
  have M4 := Lib.hid m4
  have hlt := Lib.hid m1.lt
  clear m1 m2 m3 m4
  unfold ifc at c3
  go_wp2_with fail
  refine HR.out.mono ?_
  rintro e w2 ⟨rfl, b2⟩
  have hfin := Lib.hid (M4.out.trans (b2.mono (Nat.le_of_lt hlt.out)))
  go_wp2_with fail
  go_ret
  exact ⟨rfl, hfin.out⟩
theorem info_strR : (Tryd.prog.info? 9).map (fun i => (i.zero, i.size, i.bytes)) = some (some (.string ByteArray.empty), 1, 16) := by kernel_rfl
abbrev four : List Value := [.string tH, .string tT, .string tT, .string tH]
set_option maxRecDepth 100000 in
set_option maxHeartbeats 1600000 in
theorem newRepl_any (A : Nat) (w : World) (hA : ∀ j u, four[j]? = some u → w.cell? ((⟨A, 0, none⟩ : Addr).add j) = some u) :
    Calls Tryd.prog 23 #[.slice (some ⟨A, 0, none⟩) 4 4] w fun e w' => ∃ R S cap : Nat, e = .returned (.pointer (some ⟨R, 0, none⟩)) ∧ RB w' R 0 0 Value.nilIface (.slice (some ⟨S, 0, none⟩) 4 cap) ∧ (∀ k, k < 4 → w'.cell? ⟨S, k, none⟩ = some (.string (quad k))) ∧ S ≠ R ∧ w.heap.size ≤ R ∧ 4 ≤ cap ∧ cap ≤ maxLen ∧ Below w.heap.size w w' := by
  obtain ⟨i0, hi, hz0, hz1, hz2⟩ := info_parts info_strR
  have HA := Lib.hid hA
  clear hA
  go_enter Tryd.func23, Tryd.ntmps23
  go_wp2_with (at_builtin; refine wpList_append_own _ rfl (.const (.slice none 0 0)) (.tmp 8) 22 rfl w.heap.size 9 i0 (.string ByteArray.empty) 1 16 Tryd.underlying22 hi hz0 hz1 hz2 rfl (by decide) (.slice none 0 0) 0 [] rfl (World.ownsRow_nil _ _ _ _) ⟨A, 0, none⟩ 4 4 four rfl rfl HA.out (by intro y hy; simp only [four, List.mem_cons, List.not_mem_nil, or_false] at hy; rcases hy with rfl | rfl | rfl | rfl <;> rfl) (by unfold maxLen; omega) (by omega) (Nat.le_refl _) ?_)
  intro v1 w1 h1 g1 _
  have hb1 : Below w.heap.size w w1 := Below.grown (Below.refl w.heap.size w) g1 (Nat.le_refl _) (fun k hk => by simp [Value.ownBlock] at hk)
  obtain ⟨S, cap, rfl, hS, hc4, hcm, hSl, hcell⟩ : ∃ S cap : Nat, v1 = .slice (some ⟨S, 0, none⟩) 4 cap ∧ w.heap.size ≤ S ∧ 4 ≤ cap ∧ cap ≤ maxLen ∧ S < w1.heap.size ∧ ∀ k, k < 4 → w1.cell? ⟨S, k, none⟩ = some (.string (quad k)) := by
    have hlt := World.ownsRow.lt h1
    rcases h1.2 with ⟨rfl, h0⟩ | ⟨g, cap, cur, rfl, hb, hg, hn, hc, hs, ht⟩
    · omega
    · refine ⟨g, cap, rfl, hb, by simpa using hn, hc, (hlt g rfl).2, fun k hk => ?_⟩
      have h2 := World.ownsRow.cellAt h1 k (by simpa using hk)
      rw [h2]
      rcases (by omega : k = 0 ∨ k = 1 ∨ k = 2 ∨ k = 3) with rfl | rfl | rfl | rfl <;> rfl
  have hfin := Lib.hid hcell
  clear h1 g1 hcell HA
  go_wp2_with fail
  go_ret
  refine ⟨w1.heap.size, S, cap, rfl, heap_alloc_new _ _, fun k hk => ?_, by omega, hb1.size, hc4, hcm, bel_alloc hb1 _⟩
  exact Lib.cell?_alloc_some _ (hfin.out k hk)
end Go.Proofs.YtdfjfojkheikiaaDoor
