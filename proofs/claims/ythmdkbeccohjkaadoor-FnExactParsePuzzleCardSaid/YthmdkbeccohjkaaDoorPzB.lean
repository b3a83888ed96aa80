/- The door to which a clue that is none comes; puzzles: whether they are any. -/
import Derived.Test.YthmdkbeccohjkaaDoorPzA
import Derived.LoopTactic
namespace Go.Proofs.YthmdkbeccohjkaaDoor
set_option linter.unusedSimpArgs false
open Go.ChangeShapes Go.WideShapes Go.ChangeAt Go.RowKit
set_option linter.unusedVariables false

/-- A box of one cell that can be written. -/
def Box1W (w : World) (k : Nat) (x : Value) : Prop := w.cell? ⟨k, 0, none⟩ = some x ∧ w.frozen? ⟨k, 0, none⟩ = false ∧ k < w.heap.size
theorem Box1W.new (w : World) (x : Value) (t : TypeId) : Box1W (w.alloc (.cells #[x] t)) w.heap.size x := by
  refine ⟨?_, ?_, ?_⟩ <;> simp [go_sem]
theorem Box1W.keep {w w1 : World} {k : Nat} {x : Value} (h : Box1W w k x) (hb : Below w.heap.size w w1) : Box1W w1 k x :=
  ⟨(hb.cell (p := ⟨k, 0, none⟩) h.2.2).trans h.1, (hb.frozen (p := ⟨k, 0, none⟩) h.2.2).trans h.2.1, Nat.lt_of_lt_of_le h.2.2 hb.size⟩

theorem assert_yes (k a b : Int) (w : World) : (Instr.typeAssert (.iface 83 (chn k a b)) 20 83 true).run Tryd.prog w = .ok (.tuple #[chn k a b, .bool true]) w := by kernel_rfl
theorem assert_no (w : World) : (Instr.typeAssert .nilIface 20 83 true).run Tryd.prog w = .ok (.tuple #[chn 0 0 0, .bool false]) w := by kernel_rfl
set_option maxRecDepth 100000 in
theorem catch_panicking (g : Nat) (x : Bool) (k a b : Int) (older : List PanicEntry) (w : World) (hx : Box1W w g (.bool x)) :
    CallsD Tryd.prog 129 #[.pointer (some ⟨g, 0, none⟩)] (.panicking ({ v := .iface 83 (chn k a b), recovered := false } :: older)) w fun e u' w' =>
      e = .returned (.tuple #[]) ∧ u' = .panicking ({ v := .iface 83 (chn k a b), recovered := true } :: older) ∧ Box1W w' g (.bool false) ∧ Below g w w' := by
  obtain ⟨hc, hz, hk⟩ := hx
  refine callsD_of_wpS Tryd.func129 rfl fun c₀ cs hu => ?_
  apply wpS_seq
  apply wpS_region
  simp [wpOpsS, go_sem, recoverD, hu, Tryd.ntmps129, Exit.thenS, assert_yes]
  have hb : Below w.heap.size w (w.alloc (.cells #[.int .i64 k, .int .i64 a, .int .i64 b] 83)) := bel_alloc (Below.refl _ _) _
  obtain ⟨hc2, hz2, hk2⟩ := Box1W.keep ⟨hc, hz, hk⟩ hb
  generalize w.alloc (.cells #[.int .i64 k, .int .i64 a, .int .i64 b] 83) = W at *
  apply wpS_region
  simp [wpOpsS, go_sem, hc2, hz2, bodyPostS, results, Tryd.results129, Array.replicate]
  refine ⟨⟨?_, ?_, ?_⟩, ?_⟩
  · simp [go_sem, hc2]
  · simp [go_sem, hz2]
  · simpa [World.setCell] using hk2
  · exact Below.setCell (hb.mono (Nat.le_of_lt hk)) (Nat.le_refl _) _
set_option maxRecDepth 100000 in
theorem catch_idle (g : Nat) (x : Bool) (w : World) (hx : Box1W w g (.bool x)) :
    CallsD Tryd.prog 129 #[.pointer (some ⟨g, 0, none⟩)] .returning w fun e u' w' =>
      e = .returned (.tuple #[]) ∧ u' = .returning ∧ Box1W w' g (.bool true) ∧ Below g w w' := by
  obtain ⟨hc, hz, hk⟩ := hx
  refine callsD_of_wpS Tryd.func129 rfl fun c₀ cs hu => ?_
  apply wpS_seq
  apply wpS_region
  simp [wpOpsS, go_sem, recoverD, hu, Tryd.ntmps129, Exit.thenS, assert_no]
  have hb : Below w.heap.size w (w.alloc (.cells #[.int .i64 0, .int .i64 0, .int .i64 0] 83)) := bel_alloc (Below.refl _ _) _
  obtain ⟨hc2, hz2, hk2⟩ := Box1W.keep ⟨hc, hz, hk⟩ hb
  generalize w.alloc (.cells #[.int .i64 0, .int .i64 0, .int .i64 0] 83) = W at *
  apply wpS_region
  simp [wpOpsS, go_sem, hc2, hz2, bodyPostS, results, Tryd.results129, Array.replicate]
  cases c₀
  simp at hu
  subst hu
  simp
  refine ⟨⟨?_, ?_, ?_⟩, ?_⟩
  · simp [go_sem, hc2]
  · simp [go_sem, hz2]
  · simpa [World.setCell] using hk2
  · exact Below.setCell (hb.mono (Nat.le_of_lt hk)) (Nat.le_refl _) _
def clueDoor (w : World) : World := w.alloc (.cells #[.bool false] 4)
set_option maxRecDepth 100000 in
set_option maxHeartbeats 1600000 in
/-- All of them are clues, or not. -/
theorem areClues_any (ts : List Tri) (v : Value) (B : Nat) (w : World) (h : RdT w B v ts) (hB : B ≤ w.heap.size) :
    Calls Tryd.prog 111 #[v] w fun e w' => e = .returned (.bool (clsG ts)) ∧ Below w.heap.size w w' := by
  obtain ⟨A, cap, rfl, hl, hm⟩ := h.form
  unfold maxLen at hm
  have H := Lib.hid h
  clear h
  have hmf : ∀ (fn : Fn) (first cap : Array Value) (w : World), (Instr.makeFunc fn first cap).run Tryd.prog w = .ok (.func fn first cap) w := fun _ _ _ _ => rfl
  have bx0 := Lib.hid (Box1W.new w (.bool false) 4)
  generalize hN : ts.length = N at *
  have HN := Lib.hid hN
  clear hN
  go_enter_defers Tryd.func111, Tryd.ntmps111
  go_wp2_with fail
  go_loopw [8] (fun i wr => ∃ k : Nat, k ≤ N ∧ i = .int .i64 k ∧ Hid (clsG (ts.take k) = true) ∧ Hid (Box1W wr w.heap.size (.bool false)) ∧ Below w.heap.size w wr) (fun i _ => N - (intOf i).toNat)
  case atStart => exact ⟨0, by omega, rfl, Lib.hid (by simp [clsG]), bx0, bel_alloc (Below.refl _ _) _⟩
  case round =>
    obtain ⟨k, hk, rfl, hcl, hbx, hbl⟩ := hrel
    by_cases hlt : k < N
    · have hkx : k < ts.length := by rw [HN.out]; exact hlt
      obtain ⟨ad, x, y, z, rfl, hab, hxyz, c0, c1, c2⟩ := (H.out.below hbl hB).at3 hkx
      cases hg : clG (x, y, z)
      · have hno : clsG ts = false := clsG_no hkx (by rw [hxyz]; exact hg)
        have Hno := Lib.hid hno
        clear hno hxyz
        go_wp2_with fail
        refine (mustBe_no x y z _ hg).mono ?_
        rintro e w2 ⟨rfl, b2⟩
        have hbx2 := (hbx.out.keep (bel_alloc (Below.refl _ _) _)).keep b2
        have hbl2 := bel_trans (bel_trans hbl (bel_alloc (Below.refl _ _) _)) b2
        go_wp2_with fail
        refine leaves_cons (f := 129) (args := #[.pointer (some ⟨w.heap.size, 0, none⟩)]) (by simp) (by simp [go_sem]) ?_
        refine (catch_panicking w.heap.size false x y z [] _ hbx2).mono ?_
        rintro e u' w3 ⟨rfl, rfl, bx3, b3⟩
        obtain ⟨c0, z0, k0⟩ := bx3
        have hb3 := hbl2.trans b3
        simp [Leaves, settle, results, Tryd.results111, go_sem, c0]
        exact ⟨Hno.out, hb3⟩
      · have hcl2 : Hid (clsG (ts.take (k + 1)) = true) := Lib.hid (by rw [clsG_take hkx, hcl.out, hxyz, hg]; rfl)
        clear hxyz
        go_wp2_with fail
        refine (mustBe_yes x y z _ hg).mono ?_
        rintro e w2 ⟨rfl, b2⟩
        have hbx2 := Lib.hid ((hbx.out.keep (bel_alloc (Below.refl _ _) _)).keep b2)
        have hbl2 := bel_trans (bel_trans hbl (bel_alloc (Below.refl _ _) _)) b2
        go_wp2_with fail
        exact ⟨⟨k + 1, by omega, by go_num, hcl2, hbx2, hbl2⟩, by simp [intOf]; omega⟩
    · have hall : clsG ts = true := by
        have q := hcl.out
        rwa [List.take_of_length_le (by rw [HN.out]; omega)] at q
      have Hall := Lib.hid hall
      clear hall
      go_wp2_with fail
      refine leaves_cons (f := 129) (args := #[.pointer (some ⟨w.heap.size, 0, none⟩)]) (by simp) (by simp [go_sem]) ?_
      refine (catch_idle w.heap.size false _ hbx.out).mono ?_
      rintro e u' w3 ⟨rfl, rfl, bx3, b3⟩
      obtain ⟨c0, z0, k0⟩ := bx3
      have hb3 := hbl.trans b3
      simp [Leaves, settle, results, Tryd.results111, go_sem, c0]
      exact ⟨Hall.out, hb3⟩

theorem pzG_no1 {o : Int} {ts : List Tri} (h : inB o 1 8 = false) : pzG o ts = false := by unfold pzG; rw [h]; rfl
theorem pzG_no2 {o : Int} {ts : List Tri} (h : ¬ ts.length ≤ 6) : pzG o ts = false := by unfold pzG; simp [h]
theorem pzG_eq {o : Int} {ts : List Tri} (h : inB o 1 8 = true) (h2 : ts.length ≤ 6) : pzG o ts = clsG ts := by unfold pzG; simp [h, h2]
theorem pzG_in {o : Int} {ts : List Tri} (h : pzG o ts = true) : 1 ≤ o ∧ o ≤ 8 ∧ ts.length ≤ 6 ∧ clsG ts = true := by
  unfold pzG inB at h
  simp at h
  exact ⟨h.1.1, h.1.2, h.2.1, h.2.2⟩
set_option maxHeartbeats 1600000 in
theorem implIsPz_any (o : Int) (ts : List Tri) (v : Value) (B : Nat) (w : World) (h : RdT w B v ts) (hB : B ≤ w.heap.size) :
    Calls Tryd.prog 86 #[pz o v] w fun e w' => e = .returned (.bool (pzG o ts)) ∧ Below w.heap.size w w' := by
  have hb := Lib.hid (bel_alloc (Below.refl _ w) (.cells #[.int .i64 o, v] 48))
  obtain ⟨A, cap, rfl, hl, hm⟩ := h.form
  have H := Lib.hid (h.below hb.out hB)
  clear h
  by_cases h1 : 1 ≤ o
  · by_cases h2 : o ≤ 8
    · by_cases h3 : ts.length ≤ 6
      · rw [pzG_eq ((inB_iff _ _ _).2 ⟨h1, h2⟩) h3]
        have h3i : (ts.length : Int) ≤ 6 := by omega
        go_enter Tryd.func86, Tryd.ntmps86
        go_wp2_with fail
        refine (areClues_any ts _ B _ H.out (by simp; omega)).mono ?_
        rintro e w2 ⟨rfl, b2⟩
        go_wp2_with fail
        go_ret
        exact ⟨by simp, bel_trans hb.out b2⟩
      · rw [pzG_no2 h3]
        have h3i : decide ((ts.length : Int) ≤ 6) = false := by simp; omega
        go_enter Tryd.func86, Tryd.ntmps86
        go_wp2
        go_ret
        exact ⟨by simp [h3], hb.out⟩
    · rw [pzG_no1 (by unfold inB; simp [h2])]
      have d2 : decide (o ≤ 8) = false := by simpa using h2
      go_enter Tryd.func86, Tryd.ntmps86
      go_wp2
      go_ret
      exact ⟨by simp [*], hb.out⟩
  · rw [pzG_no1 (by unfold inB; simp [h1])]
    have d1 : decide (1 ≤ o) = false := by simpa using h1
    go_enter Tryd.func86, Tryd.ntmps86
    go_wp2
    go_ret
    exact ⟨by simp [*], hb.out⟩
theorem pzOf_any (o : Int) (w : World) :
    Calls Tryd.prog 103 #[.int .i64 o] w fun e w' => e = .returned (.bool (inB o 1 8)) ∧ w = w' := by
  go_enter Tryd.func103, Tryd.ntmps103
  go_wp2_with fail
  refine (l1In_any _ _ _ _).mono ?_
  rintro e w' ⟨rfl, rfl⟩
  go_wp2_with fail
  go_ret
  exact ⟨rfl, rfl⟩
set_option maxHeartbeats 1600000 in
theorem pzGood_any (o : Int) (ts : List Tri) (v : Value) (B : Nat) (w : World) (h : RdT w B v ts) (hB : B ≤ w.heap.size) :
    Calls Tryd.prog 81 #[pz o v] w fun e w' => e = .returned (.bool (pzG o ts)) ∧ Below w.heap.size w w' := by
  have hb := Lib.hid (bel_alloc (Below.refl _ w) (.cells #[.int .i64 o, v] 48))
  obtain ⟨A, cap, rfl, hl, hm⟩ := h.form
  unfold maxLen at hm
  have H := Lib.hid h
  clear h
  cases h1 : inB o 1 8
  · rw [pzG_no1 h1]
    go_enter Tryd.func81, Tryd.ntmps81
    go_wp2_with fail
    refine (pzOf_any _ _).mono ?_
    rintro e w' ⟨rfl, rfl⟩
    rw [h1]
    go_wp2_with fail
    go_ret
    exact ⟨rfl, hb.out⟩
  · by_cases h3 : ts.length ≤ 6
    · have hgd := Lib.hid (pzG_eq h1 h3)
      have h3i : decide ((6 : Int) < (ts.length : Int)) = false := by simp; omega
      generalize hN : ts.length = N at *
      have HN := Lib.hid hN
      clear hN
      go_enter Tryd.func81, Tryd.ntmps81
      go_wp2_with fail
      refine (pzOf_any _ _).mono ?_
      rintro e w' ⟨rfl, rfl⟩
      rw [h1]
      go_wp2_with fail
      go_loopw [18] (fun i wr => ∃ k : Nat, k ≤ N ∧ i = .int .i64 k ∧ Hid (clsG (ts.take k) = true) ∧ Below w.heap.size w wr) (fun i _ => N - (intOf i).toNat)
      case atStart => exact ⟨0, by omega, rfl, Lib.hid (by simp [clsG]), hb.out⟩
      case round =>
        obtain ⟨k, hk, rfl, hcl, hbl⟩ := hrel
        by_cases hlt : k < N
        · have hkx : k < ts.length := by rw [HN.out]; exact hlt
          obtain ⟨ad, x, y, z, rfl, hab, hxyz, c0, c1, c2⟩ := (H.out.below hbl hB).at3 hkx
          cases hg : clG (x, y, z)
          · have hno : clsG ts = false := clsG_no hkx (by rw [hxyz]; exact hg)
            have Hno := Lib.hid hno
            clear hno hxyz
            go_wp2_with fail
            refine (pzClue_any x y z _).mono ?_
            rintro e w2 ⟨rfl, b2⟩
            rw [hg]
            have hbl2 := bel_trans (bel_trans hbl (bel_alloc (Below.refl _ _) _)) b2
            go_wp2_with fail
            go_ret
            exact ⟨by rw [hgd.out, Hno.out]; rfl, hbl2⟩
          · have hcl2 : Hid (clsG (ts.take (k + 1)) = true) := Lib.hid (by rw [clsG_take hkx, hcl.out, hxyz, hg]; rfl)
            clear hxyz
            go_wp2_with fail
            refine (pzClue_any x y z _).mono ?_
            rintro e w2 ⟨rfl, b2⟩
            rw [hg]
            have hbl2 := bel_trans (bel_trans hbl (bel_alloc (Below.refl _ _) _)) b2
            go_wp2_with fail
            exact ⟨⟨k + 1, by omega, by go_num, hcl2, hbl2⟩, by simp [intOf]; omega⟩
        · have hall : clsG ts = true := by
            have q := hcl.out
            rwa [List.take_of_length_le (by rw [HN.out]; omega)] at q
          have Hall := Lib.hid hall
          clear hall
          go_wp2_with fail
          go_ret
          exact ⟨by rw [hgd.out, Hall.out]; rfl, hbl⟩
    · rw [pzG_no2 h3]
      have h3i : decide ((6 : Int) < (ts.length : Int)) = true := by simp; omega
      go_enter Tryd.func81, Tryd.ntmps81
      go_wp2_with fail
      refine (pzOf_any _ _).mono ?_
      rintro e w' ⟨rfl, rfl⟩
      rw [h1]
      go_wp2_with fail
      go_ret
      exact ⟨rfl, hb.out⟩
end Go.Proofs.YthmdkbeccohjkaaDoor
