/- strings.Replacer at single bytes: the table is built, the text is replaced. -/
import Derived.Test.YtdfjfojkheikiaaDoorRpO
import Derived.Test.YtdfjfojkheikiaaDoorArg
namespace Go.Proofs.YtdfjfojkheikiaaDoor
set_option linter.unusedSimpArgs false
open Go.ChangeShapes Go.WideShapes Go.ChangeAt Go.RowKit
set_option linter.unusedVariables false

/-- The cells of a table of bytes. -/
def repC (g : Nat → Nat) : Array Value := ((List.range 256).map fun i => Value.int .u8 (g i : Int)).toArray
theorem repC_size (g : Nat → Nat) : (repC g).size = 256 := by simp [repC]
theorem repC_at (g : Nat → Nat) (q : Nat) : (repC g)[q]? = if q < 256 then some (.int .u8 (g q : Int)) else none := by
  unfold repC
  rw [List.getElem?_toArray, List.getElem?_map]
  by_cases h : q < 256
  · rw [List.getElem?_range h, if_pos h]; rfl
  · rw [List.getElem?_eq_none (by simp; omega), if_neg h]; rfl
theorem repC_get (g : Nat → Nat) (q : Nat) (h : q < 256) : (repC g)[q]? = some (.int .u8 (g q : Int)) := by rw [repC_at, if_pos h]
def updN (g : Nat → Nat) (q x : Nat) : Nat → Nat := fun p => if p = q then x else g p
theorem repC_set (g : Nat → Nat) (q x : Nat) (h : q < 256) : (repC g).setIfInBounds q (.int .u8 (x : Int)) = repC (updN g q x) := by
  apply Array.ext_getElem?
  intro i
  rw [Array.getElem?_setIfInBounds, repC_at, repC_at, repC_size]
  by_cases e : q = i
  · subst e
    rw [if_pos rfl, if_pos h, if_pos h]
    simp [updN]
  · rw [if_neg e, show updN g q x i = g i from if_neg (fun he => e he.symm)]
theorem repC_ext {g g' : Nat → Nat} (h : ∀ q, q < 256 → g q = g' q) : repC g = repC g' := by
  apply Array.ext_getElem?
  intro i
  rw [repC_at, repC_at]
  by_cases e : i < 256
  · rw [if_pos e, if_pos e, h i e]
  · rw [if_neg e, if_neg e]
theorem repC_one (g : Nat → Nat) : (repC g).all (·.oneCell') = true := by
  rw [Array.all_eq_true]
  intro i hi
  have h := repC_get g i (by rw [← repC_size g]; exact hi)
  rw [Array.getElem?_eq_getElem hi] at h
  rw [Option.some.inj h]
  rfl
theorem rep_info : (Tryd.prog.info? 96).map (·.size) = some 256 := by kernel_rfl
theorem rep_zero (w : World) : (zeroValue 96).run Tryd.prog w = .ok (.agg (repC fun _ => 0)) w :=
  (Tryd.zeroValue96 w).trans (congrArg (fun c => Result.ok (Value.agg c) w) (by kernel_rfl))
theorem rep_built0 : Tryd.prog.built 96 [] = some (repC fun _ => 0) := by kernel_rfl
abbrev tH : ByteArray := ⟨#[104]⟩
abbrev tT : ByteArray := ⟨#[116]⟩
/-- The k-th of the four texts. -/
def quad (k : Nat) : ByteArray := if k % 3 = 0 then tH else tT
/-- The table is filled up to k. -/
def filN (k : Nat) : Nat → Nat := fun p => if p < k then p else 0
theorem filN_step (k : Nat) : updN (filN k) k k = filN (k + 1) := by
  funext p
  unfold updN filN
  by_cases e : p = k
  · rw [if_pos e, if_pos (by omega), e]
  · rw [if_neg e]
    by_cases h : p < k
    · rw [if_pos h, if_pos (by omega)]
    · rw [if_neg h, if_neg (by omega)]
/-- The table that exchanges both signs. -/
def swK : Nat → Nat → Nat
  | 0 => fun p => p
  | 1 => updN (fun p => p) 116 104
  | _ => updN (updN (fun p => p) 116 104) 104 116
def swN : Nat → Nat := swK 2
set_option maxRecDepth 100000 in
set_option maxHeartbeats 3200000 in
theorem build_any (R S cap : Nat) (w : World) (hcap : cap ≤ maxLen) (h4 : 4 ≤ cap) (h : w.cell? ⟨R, 4, none⟩ = some (.slice (some ⟨S, 0, none⟩) 4 cap)) (hq : ∀ k, k < 4 → w.cell? ⟨S, k, none⟩ = some (.string (quad k))) :
    Calls Tryd.prog 48 #[.pointer (some ⟨R, 0, none⟩)] w fun e w' => e = .returned (.iface 97 (.pointer (some ⟨w.heap.size, 0, none⟩))) ∧ w' = w.alloc (.cells (repC swN) 96) := by
  have q0 := hq 0 (by omega)
  have q1 := hq 1 (by omega)
  have q2 := hq 2 (by omega)
  have q3 := hq 3 (by omega)
  rw [show quad 0 = tH from rfl] at q0
  rw [show quad 1 = tT from rfl] at q1
  rw [show quad 2 = tT from rfl] at q2
  rw [show quad 3 = tH from rfl] at q3
  unfold maxLen at hcap
  clear hq
  go_enter Tryd.func48, Tryd.ntmps48
  go_wp2_with fail
  go_loopw [4, 5] (fun b x wr => ∃ k : Nat, k ≤ 2 ∧ b = .bool true ∧ x = .int .i64 ((2 * k : Nat) : Int) ∧ wr = w) (fun _ x _ => 4 - (intOf x).toNat)
  case atStart => exact ⟨0, by omega, rfl, rfl, rfl⟩
  case round =>
    obtain ⟨k, hk, rfl, rfl, rfl⟩ := hrel
    obtain ⟨wb, rfl⟩ : ∃ wb : World, wb = wr := ⟨_, rfl⟩
    rcases (by omega : k = 0 ∨ k = 1 ∨ k = 2) with rfl | rfl | rfl
    · go_wp2_with fail
      exact ⟨⟨1, by omega, rfl, by go_num, trivial⟩, by simp [intOf]⟩
    · go_wp2_with fail
      exact ⟨⟨2, by omega, rfl, by go_num, trivial⟩, by simp [intOf]⟩
    · go_wp2_with (first
        | (refine wpList_built rfl 96 _ rfl (repC fun _ => 0) (by simpa using rep_built0) ?_)
        | (refine wpList_alloc_row rfl 96 rfl (repC fun _ => 0) (rep_zero _) ?_)
        | (refine wpList_store_new (k := wb.heap.size) (c' := repC fun _ => 0) rfl 96 (.tmp 6) (.tmp 60) rfl rfl ?_ ?_ rep_info rfl (repC_one _) ?_; (· simp [Act.put, Act.eval]); (· simp [Act.put, Act.eval])))
      go_loopw [61] (fun x wz => ∃ k : Nat, k ≤ 256 ∧ x = .int .i64 k ∧ wz = wb.alloc (.cells (repC (filN k)) 96)) (fun x _ => 256 - (intOf x).toNat)
      case atStart => exact ⟨0, by omega, rfl, by rw [show filN 0 = (fun _ => 0) from by funext p; simp [filN]]⟩
      case round =>
        obtain ⟨k, hk, rfl, rfl⟩ := hrel
        by_cases hlt : k < 256
        · have e1 := repC_get (filN k) k hlt
          have e4 := repC_set (filN k) k k hlt
          rw [filN_step] at e4
          have hw8 : IntKind.u8.wrap (k : Int) = (k : Int) := IntWalk.u8_in _ (by omega)
          have hki : (k : Int) < 256 := by omega
          have He4 := Lib.hid e4
          clear e4
          go_wp2_with fail
          exact ⟨⟨k + 1, by omega, by go_num, by rw [← He4.out]⟩, by simp [intOf]; omega⟩
        · obtain rfl : k = 256 := by omega
          rw [repC_ext (g := filN 256) (g' := swK 0) (fun q hq => by unfold filN; rw [if_pos hq]; rfl)]
          have hki : ¬ (((256 : Nat) : Int)) < 256 := by omega
          go_wp2_with fail
          go_loopw [8] (fun x wz => ∃ j : Nat, j ≤ 2 ∧ x = .int .i64 (2 - 2 * (j : Int)) ∧ wz = wb.alloc (.cells (repC (swK j)) 96)) (fun x _ => (intOf x + 2).toNat)
          case atStart => exact ⟨0, by omega, rfl, rfl⟩
          case round =>
            obtain ⟨j, hj, rfl, rfl⟩ := hrel
            have p0 := Lib.cell?_alloc_some (Obj.cells (repC (swK j)) 96) q0
            have p1 := Lib.cell?_alloc_some (Obj.cells (repC (swK j)) 96) q1
            have p2 := Lib.cell?_alloc_some (Obj.cells (repC (swK j)) 96) q2
            have p3 := Lib.cell?_alloc_some (Obj.cells (repC (swK j)) 96) q3
            clear q0 q1 q2 q3
            rcases (by omega : j = 0 ∨ j = 1 ∨ j = 2) with rfl | rfl | rfl
            · rw [show (2 : Int) - 2 * ((0 : Nat) : Int) = 2 from rfl]
              have e1 := repC_get (swK 0) 116 (by omega)
              have e4 := repC_set (swK 0) 116 104 (by omega)
              rw [show updN (swK 0) 116 104 = swK 1 from rfl] at e4
              generalize swK 0 = g0 at *
              go_wp2_with fail
              exact ⟨⟨1, by omega, by go_num, by rw [← e4]; rfl⟩, by simp [intOf]⟩
            · rw [show (2 : Int) - 2 * ((1 : Nat) : Int) = 0 from rfl]
              have e1 := repC_get (swK 1) 104 (by omega)
              have e4 := repC_set (swK 1) 104 116 (by omega)
              rw [show updN (swK 1) 104 116 = swK 2 from rfl] at e4
              generalize swK 1 = g0 at *
              go_wp2_with fail
              exact ⟨⟨2, by omega, by go_num, by rw [← e4]; rfl⟩, by simp [intOf]⟩
            · rw [show (2 : Int) - 2 * ((2 : Nat) : Int) = -2 from rfl]
              go_wp2_with fail
              go_ret
              exact ⟨rfl, rfl⟩
end Go.Proofs.YtdfjfojkheikiaaDoor
