/- What is kept of tosses, for one pattern: its first signs. -/
import Derived.Test.YtjckmnbpfmcadacDoorTosG
namespace Go.Proofs.YtjckmnbpfmcadacDoor
set_option linter.unusedSimpArgs false
open Go.ChangeShapes Go.WideShapes Go.ChangeAt Go.RowKit
set_option linter.unusedVariables false

theorem empty_list {a b : ByteArray} (ha : a.data.toList = []) (hb : b.data.toList = []) : a = b := ba_eq.2 (by rw [ha, hb])
theorem kept_one (p : ByteArray) (j : Nat) (c : ByteArray) (hj : j < p.size) (hc : c.size = 1) : ∀ k, k ≤ j + 1 → keptD [p] (txtN p j c) k = p.extract 0 (goD p j c k)
  | 0, _ => empty_list (sufx_zero _) (by rw [show goD p j c 0 = 0 from rfl, ext_list]; simp)
  | k + 1, hk => by
    have hz := txtN_size p j c (by omega) hc
    have hs : sufx (txtN p j c) (k + 1) = (txtN p j c).extract (j + 1 - (k + 1)) (j + 1) := by unfold sufx; rw [hz]
    have hf := pre_fit p j c (k + 1) hj hc hk
    rw [← hs] at hf
    have hp : preAny [p] (sufx (txtN p j c) (k + 1)) = fitB p j c (k + 1) := by
      unfold preAny
      rw [List.any_cons, List.any_nil, Bool.or_false, hf]
    cases hq : fitB p j c (k + 1)
    · rw [keptD_no (by rw [hp, hq]), kept_one p j c hj hc k (by omega), goD_no hq]
    · rw [keptD_yes (by rw [hp, hq]), goD_yes hq, hs]
      unfold fitB at hq
      exact (of_decide_eq_true hq).symm
theorem kept_go (p : ByteArray) (j : Nat) (c : ByteArray) (hj : j < p.size) (hc : c.size = 1) : keptT [p] (p.extract 0 j ++ c) = p.extract 0 (goN p j c) := by
  have hz := txtN_size p j c (by omega) hc
  show keptD [p] (txtN p j c) (txtN p j c).size = _
  rw [hz, kept_one p j c hj hc _ (Nat.le_refl _)]
  rfl
theorem pres_one (p : ByteArray) (h1 : 1 ≤ p.size) (h8 : p.size ≤ 8) : Pres [p] p.size (fun j => p.extract 0 j) (gH p) (gT p) := by
  refine ⟨fun i j hi hj e => ?_, h1, ?_, fun k hk => ?_, fun j hj => ?_, fun j hj => ⟨kept_go p j sH hj rfl, ?_⟩, fun j hj => ⟨kept_go p j sT hj rfl, ?_⟩⟩
  · have h2 := congrArg ByteArray.size e
    simp only [List.length_singleton] at hi hj
    rw [ext_size p 0 i (by omega), ext_size p 0 j (by omega)] at h2
    omega
  · exact empty_list (by rw [ext_list]; simp) rfl
  · simp only [List.length_singleton] at hk
    obtain rfl : k = 0 := by omega
    show p.extract 0 (p.size + 0) = p
    rw [Nat.add_zero, ba_eq, ext_list, List.drop_zero, List.take_of_length_le (by rw [len_list]; exact Nat.le_refl _)]
  · simp only [List.length_singleton] at hj
    rw [ext_size p 0 j (by omega)]
    omega
  · have := goN_le p j sH
    show goN p j sH < p.size + 1
    omega
  · have := goN_le p j sT
    show goN p j sT < p.size + 1
    omega
theorem tossP_any (p : ByteArray) (v : Value) (base : Nat) (a b : Int) (t : Nat) (w : World) (hR : SRow w base v [p]) (h1 : 1 ≤ p.size) (h8 : p.size ≤ 8) (ht : t ≤ 40) (ha : 0 ≤ a) (ha2 : a ≤ 10) (hb : 0 ≤ b) (hb2 : b ≤ 10) (hM : ∀ s, s ≤ t → (a + b) ^ s ≤ 4000000000000) :
    Calls Tryd.prog 38 #[v, .int .i64 a, .int .i64 b, .int .i64 t] w fun e w' => ∃ v', e = .returned (.tuple #[.int .i64 (sumJ (cnt (gH p) (gT p) a b p.size t) p.size), v']) ∧ IRow w' w.heap.size v' (rowF 0 (fun k => cnt (gH p) (gT p) a b p.size t (p.size + k))) ∧ Below w.heap.size w w' :=
  tossG_any [p] v p.size 0 (fun j => p.extract 0 j) (gH p) (gT p) (pres_one p h1 h8) rfl (by omega) a b t base w hR ht ha ha2 hb hb2 hM
end Go.Proofs.YtjckmnbpfmcadacDoor
