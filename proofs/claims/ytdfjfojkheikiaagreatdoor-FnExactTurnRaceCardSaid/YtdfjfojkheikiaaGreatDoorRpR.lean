/- strings.Replacer at single bytes, alone: Once, Replace. -/
import Derived.Test.YtdfjfojkheikiaaGreatDoorRpB
namespace Go.Proofs.YtdfjfojkheikiaaGreatDoor
set_option linter.unusedSimpArgs false
open Go.ChangeShapes Go.WideShapes Go.ChangeAt Go.RowKit
set_option linter.unusedVariables false

/-- The Replacer's own block. -/
def RpC (d s : Int) (i o : Value) : Array Value := #[.int .u32 d, .int .i32 s, .int .u32 0, i, o]
def RB (w : World) (R : Nat) (d s : Int) (i o : Value) : Prop := w.heap[R]? = some (.cells (RpC d s i o) 49)
theorem RB.c0 {w : World} {R : Nat} {d s : Int} {i o : Value} (h : RB w R d s i o) : w.cell? ⟨R, 0, none⟩ = some (.int .u32 d) := cell_heap h rfl
theorem RB.c1 {w : World} {R : Nat} {d s : Int} {i o : Value} (h : RB w R d s i o) : w.cell? ⟨R, 1, none⟩ = some (.int .i32 s) := cell_heap h rfl
theorem RB.c3 {w : World} {R : Nat} {d s : Int} {i o : Value} (h : RB w R d s i o) : w.cell? ⟨R, 3, none⟩ = some i := cell_heap h rfl
theorem RB.c4 {w : World} {R : Nat} {d s : Int} {i o : Value} (h : RB w R d s i o) : w.cell? ⟨R, 4, none⟩ = some o := cell_heap h rfl
theorem RB.fz {w : World} {R : Nat} {d s : Int} {i o : Value} (h : RB w R d s i o) (q : Nat) : w.frozen? ⟨R, q, none⟩ = false := froz_heap h
theorem RB.s0 {w : World} {R : Nat} {d s : Int} {i o : Value} (h : RB w R d s i o) (x : Int) : RB (w.setCell ⟨R, 0, none⟩ (.int .u32 x)) R x s i o := set_heap h _
theorem RB.s1 {w : World} {R : Nat} {d s : Int} {i o : Value} (h : RB w R d s i o) (x : Int) : RB (w.setCell ⟨R, 1, none⟩ (.int .i32 x)) R d x i o := set_heap h _
theorem RB.s3 {w : World} {R : Nat} {d s : Int} {i o : Value} (h : RB w R d s i o) (x : Value) : RB (w.setCell ⟨R, 3, none⟩ x) R d s x o := set_heap h _
theorem RB.s4 {w : World} {R : Nat} {d s : Int} {i o : Value} (h : RB w R d s i o) (x : Value) : RB (w.setCell ⟨R, 4, none⟩ x) R d s i x := set_heap h _
theorem RB.lt {w : World} {R : Nat} {d s : Int} {i o : Value} (h : RB w R d s i o) : R < w.heap.size := by
  rcases Nat.lt_or_ge R w.heap.size with q | q
  · exact q
  · unfold RB at h; rw [Array.getElem?_eq_none q] at h; cases h
theorem RB.al {w : World} {R : Nat} {d s : Int} {i o : Value} (h : RB w R d s i o) (ob : Obj) : RB (w.alloc ob) R d s i o := (heap_alloc_old w ob h.lt).trans h
def ifc (K : Nat) : Value := .iface 68 (.pointer (some ⟨K, 0, none⟩))
/-- What the table's making leaves. -/
def Made (w w' : World) (R K : Nat) (d s : Int) : Prop := RB w' R d s (ifc K) (.slice none 0 0) ∧ w'.heap[K]? = some (.cells (repC swN) 67) ∧ R < K ∧ Below R w w'

set_option maxRecDepth 100000 in
set_option maxHeartbeats 1600000 in
theorem buildOnce_any (R S cap : Nat) (i : Value) (w : World) (hcap : cap ≤ maxLen) (h4 : 4 ≤ cap) (h : RB w R 0 1 i (.slice (some ⟨S, 0, none⟩) 4 cap)) (hq : ∀ k, k < 4 → w.cell? ⟨S, k, none⟩ = some (.string (quad k))) :
    Calls Tryz.prog 20 #[.pointer (some ⟨R, 0, none⟩)] w fun e w' => e = .returned (.tuple #[]) ∧ Made w w' R w.heap.size 0 1 := by
  have hM : Hid (Made w (((w.alloc (.cells (repC swN) 67)).setCell ⟨R, 3, none⟩ (ifc w.heap.size)).setCell ⟨R, 4, none⟩ (.slice none 0 0)) R w.heap.size 0 1) := by
    refine Lib.hid ⟨((h.al _).s3 _).s4 _, ?_, h.lt, ?_⟩
    · rw [set_otherR _ (by have := h.lt; omega), set_otherR _ (by have := h.lt; omega)]
      exact heap_alloc_new _ _
    · exact (((Below.refl R w).alloc (Nat.le_of_lt h.lt) _).setCell (Nat.le_refl R) _).setCell (Nat.le_refl R) _
  have f3 := (h.al (.cells (repC swN) 67)).fz 3
  have c3 := (h.al (.cells (repC swN) 67)).c3
  have f4 := ((h.al (.cells (repC swN) 67)).s3 (ifc w.heap.size)).fz 4
  have c4 := ((h.al (.cells (repC swN) 67)).s3 (ifc w.heap.size)).c4
  unfold ifc at *
  go_enter Tryz.func20, Tryz.ntmps20
  go_wp2_with fail
  refine (build_any R S cap w hcap h4 h.c4 hq).mono ?_
  rintro e w1 ⟨rfl, rfl⟩
  clear h hq
  generalize repC swN = C at *
  go_wp2_with fail
  first | go_end0 | (refine bodyPost_ret (results_none rfl _ _ _) rfl ?_)
  exact ⟨rfl, hM.out⟩
set_option maxRecDepth 100000 in
set_option maxHeartbeats 1600000 in
theorem lock_any (a : Addr) (w : World) (hc : w.cell? a = some (.int .i32 0)) (hz : w.frozen? a = false) :
    Calls Tryz.prog 30 #[.pointer (some a)] w fun e w' => e = .returned (.tuple #[]) ∧ w' = w.setCell a (.int .i32 1) := by
  have hd := r_disable
  have he := r_enable
  have ha := r_acquire
  have hcas := run_call_cas_hit (P := Tryz.prog) Tryz.func53 (by kernel_rfl) (by kernel_rfl) (by kernel_rfl) .i32 (by kernel_rfl) (y := 1) hc hz
  have hc' : (w.setCell a (.int .i32 1)).cell? a = some (.int .i32 1) := World.cell?_setCell_same w a _ hc
  have hcv := run_convert_to_unsafe (P := Tryz.prog) (src := 99) (dst := 103) Tryz.underlying99 Tryz.underlying103 (by kernel_rfl) hc'
  go_enter Tryz.func30, Tryz.ntmps30
  go_wp2
  first | go_end0 | (simp only [Exit.inBlock, Exit.then]; refine bodyPost_ret (results_none rfl _ _ _) rfl ?_) | refine bodyPost_ret (results_none rfl _ _ _) rfl ?_
  go_wp2
  go_end0
  exact ⟨rfl, rfl⟩
/-- The function value that Once calls. -/
abbrev bOnce (R : Nat) : Value := .func (.func 20) #[.pointer (some ⟨R, 0, none⟩)] #[]
set_option maxRecDepth 100000 in
set_option maxHeartbeats 1600000 in
theorem doSlow_any (R S cap : Nat) (i : Value) (w : World) (hcap : cap ≤ maxLen) (h4 : 4 ≤ cap) (hS : S ≠ R) (h : RB w R 0 0 i (.slice (some ⟨S, 0, none⟩) 4 cap)) (hq : ∀ k, k < 4 → w.cell? ⟨S, k, none⟩ = some (.string (quad k))) :
    Calls Tryz.prog 26 #[.pointer (some ⟨R, 0, none⟩), bOnce R] w fun e w' => e = .returned (.tuple #[]) ∧ Made w w' R w.heap.size 1 0 := by
  have h1 := h.s1 1
  have hl := run_call_load (P := Tryz.prog) Tryz.func29 (by kernel_rfl) (by kernel_rfl) (by kernel_rfl) .u32 (by kernel_rfl) h1.c0
  have hnot : ∀ (x : Bool) (w : World), (Op.unary .not (.bool x)).run Tryz.prog w = .ok (.bool (!x)) w := fun _ _ => rfl
  have hq1 : ∀ k, k < 4 → (w.setCell ⟨R, 1, none⟩ (.int .i32 1)).cell? ⟨S, k, none⟩ = some (.string (quad k)) := fun k hk => by
    rw [World.cell?_setCell_other _ _ _ _ (fun e => hS (by have := congrArg Addr.block e; simpa using this.symm))]
    exact hq k hk
  have HB := Lib.hid (buildOnce_any R S cap i _ hcap h4 h1 hq1)
  have hsz : (w.setCell ⟨R, 1, none⟩ (.int .i32 1)).heap.size = w.heap.size := by simp [World.setCell]
  rw [hsz] at HB
  go_enter_defers Tryz.func26, Tryz.ntmps26
  have hsz0 := hsz
  clear hq hq1 hsz
  go_wp2_with (first
    | (go_at_call 30; refine (lock_any ⟨R, 1, none⟩ _ h.c1 (h.fz 1)).mono ?_; rintro e w' ⟨rfl, rfl⟩)
    | (go_at_call 25; go_in)
    | (go_at_call 20; refine HB.out.mono ?_; rintro e w' ⟨rfl, hM⟩))
  obtain ⟨m1, m2, m3, m4⟩ := hM
  have d1 : RB w'.drew R 0 1 (ifc w.heap.size) (.slice none 0 0) := m1
  have e1 := d1.s0 1
  have e2 := e1.s1 0
  refine leaves_cons (f := 32) (args := #[.pointer (some ⟨R, 0, none⟩), .bool true]) (by simp) (by simp [go_sem]) ?_
  refine (once_stored ⟨R, 0, none⟩ (.int .u32 0) .returning _ m1.c0 (m1.fz 0)).mono ?_
  rintro e u' w'' ⟨rfl, rfl, rfl⟩
  refine leaves_cons (f := 31) (args := #[.pointer (some ⟨R, 1, none⟩)]) (by simp [settle]) (by simp [go_sem]) ?_
  refine (once_unlocked ⟨R, 1, none⟩ _ _ e1.c1 (e1.fz 1)).mono ?_
  rintro e u' w'' ⟨rfl, rfl, rfl⟩
  have hfin : Made w ((w'.drew.setCell ⟨R, 0, none⟩ (.int .u32 1)).setCell ⟨R, 1, none⟩ (.int .i32 0)) R w.heap.size 1 0 := by
    refine ⟨e2, ?_, m3, ?_⟩
    · rw [set_otherR _ (by omega), set_otherR _ (by omega)]
      exact m2
    · have b0 : Below R w (w.setCell ⟨R, 1, none⟩ (.int .i32 1)) := (Below.refl R w).setCell (Nat.le_refl R) _
      exact (((b0.trans m4).drew).setCell (Nat.le_refl R) _).setCell (Nat.le_refl R) _
  simpa [Leaves, settle, results, Tryz.results26] using hfin
set_option maxRecDepth 100000 in
set_option maxHeartbeats 1600000 in
theorem do_any (R S cap : Nat) (i : Value) (w : World) (hcap : cap ≤ maxLen) (h4 : 4 ≤ cap) (hS : S ≠ R) (h : RB w R 0 0 i (.slice (some ⟨S, 0, none⟩) 4 cap)) (hq : ∀ k, k < 4 → w.cell? ⟨S, k, none⟩ = some (.string (quad k))) :
    Calls Tryz.prog 19 #[.pointer (some ⟨R, 0, none⟩), bOnce R] w fun e w' => e = .returned (.tuple #[]) ∧ Made w w' R w.heap.size 1 0 := by
  have hl := run_call_load (P := Tryz.prog) Tryz.func29 (by kernel_rfl) (by kernel_rfl) (by kernel_rfl) .u32 (by kernel_rfl) h.c0
  have hnot : ∀ (x : Bool) (w : World), (Op.unary .not (.bool x)).run Tryz.prog w = .ok (.bool (!x)) w := fun _ _ => rfl
  have HB := Lib.hid (doSlow_any R S cap i w hcap h4 hS h hq)
  clear hq
  go_enter Tryz.func19, Tryz.ntmps19
  go_wp2_with (first
    | (go_at_call 25; go_in)
    | (go_at_call 26; refine HB.out.mono ?_; rintro e w' ⟨rfl, hM⟩))
  go_end0
  exact ⟨rfl, hM⟩
end Go.Proofs.YtdfjfojkheikiaaGreatDoor
