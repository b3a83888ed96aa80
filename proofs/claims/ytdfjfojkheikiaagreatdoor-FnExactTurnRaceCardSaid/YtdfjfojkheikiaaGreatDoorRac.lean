/- Racers: the contracts of the functions that look at them. -/
import Derived.Test.YtdfjfojkheikiaaGreatDoorSRow
import Derived.Test.YtdfjfojkheikiaaGreatDoorPt
import Derived.Lib.SlicesS
namespace Go.Proofs.YtdfjfojkheikiaaGreatDoor
set_option linter.unusedSimpArgs false
open Go.ChangeShapes Go.WideShapes Go.ChangeAt Go.RowKit
set_option linter.unusedVariables false

theorem ba_beqR (a b : ByteArray) : (a.toList == b.toList) = decide (a = b) := by
  rw [Bool.eq_iff_iff, beq_iff_eq, decide_eq_true_iff, ba_eq, ByteArray.toList_eq, ByteArray.toList_eq]


abbrev noS : ByteArray := ByteArray.empty
def racG (s : ByteArray) : Bool := patG s && decide (s.size ≤ 5)
theorem rac_in {s : ByteArray} (h : racG s = true) : 1 ≤ s.size ∧ s.size ≤ 5 ∧ allT s = true := by
  unfold racG at h
  rw [Bool.and_eq_true, decide_eq_true_iff] at h
  obtain ⟨a, b, c⟩ := pat_in h.1
  exact ⟨a, h.2, c⟩
theorem le5 (s : ByteArray) : decide ((s.size : Int) ≤ 5) = decide (s.size ≤ 5) := by
  rw [decide_eq_decide]; omega
theorem isRacer_any (s : ByteArray) (w : World) (hs : s.size ≤ maxLen) :
    Calls Tryz.prog 16 #[.string s] w fun e w' => e = .returned (.bool (racG s)) ∧ Below w.heap.size w w' := by
  cases h1 : patG s
  · go_enter Tryz.func16, Tryz.ntmps16
    go_wp2_with fail
    refine (implIsPattern_any s _ hs).mono ?_
    rintro e w1 ⟨rfl, b1⟩
    rw [h1]
    go_wp2_with fail
    go_ret
    exact ⟨by unfold racG; rw [h1]; rfl, b1⟩
  · go_enter Tryz.func16, Tryz.ntmps16
    go_wp2_with fail
    refine (implIsPattern_any s _ hs).mono ?_
    rintro e w1 ⟨rfl, b1⟩
    rw [h1]
    go_wp2_with fail
    go_ret
    exact ⟨by unfold racG; rw [h1, ← le5]; rfl, b1⟩
theorem raPattern_any (s : ByteArray) (w : World) (hs : s.size ≤ maxLen) :
    Calls Tryz.prog 10 #[.string s] w fun e w' => e = .returned (.bool (racG s)) ∧ w = w' := by
  cases h1 : patG s
  · go_enter Tryz.func10, Tryz.ntmps10
    go_wp2_with fail
    refine (ptGood_any s _ hs).mono ?_
    rintro e w1 ⟨rfl, rfl⟩
    rw [h1]
    go_wp2_with fail
    go_ret
    exact ⟨by unfold racG; rw [h1]; rfl, rfl⟩
  · go_enter Tryz.func10, Tryz.ntmps10
    go_wp2_with fail
    refine (ptGood_any s _ hs).mono ?_
    rintro e w1 ⟨rfl, rfl⟩
    rw [h1]
    go_wp2_with fail
    go_ret
    exact ⟨by unfold racG; rw [h1, ← le5]; rfl, rfl⟩

/-- Two racers. -/
def twoG (a b : ByteArray) : Bool := racG a && (racG b && (decide (a.size = b.size) && !decide (a = b)))
theorem two_in {a b : ByteArray} (h : twoG a b = true) : racG a = true ∧ racG b = true ∧ a.size = b.size ∧ a ≠ b := by
  unfold twoG at h
  simp only [Bool.and_eq_true, decide_eq_true_iff, Bool.not_eq_true', decide_eq_false_iff_not] at h
  exact ⟨h.1, h.2.1, h.2.2.1, h.2.2.2⟩
theorem raTwo_any (a b : ByteArray) (w : World) (ha : a.size ≤ maxLen) (hb : b.size ≤ maxLen) :
    Calls Tryz.prog 6 #[.string a, .string b] w fun e w' => e = .returned (.bool (twoG a b)) ∧ w = w' := by
  cases h1 : racG a
  · go_enter Tryz.func6, Tryz.ntmps6
    go_wp2_with fail
    refine (raPattern_any a _ ha).mono ?_
    rintro e w1 ⟨rfl, rfl⟩
    rw [h1]
    go_wp2_with fail
    go_ret
    exact ⟨by unfold twoG; rw [h1]; rfl, rfl⟩
  · cases h2 : racG b
    · go_enter Tryz.func6, Tryz.ntmps6
      go_wp2_with fail
      refine (raPattern_any a _ ha).mono ?_
      rintro e w1 ⟨rfl, rfl⟩
      rw [h1]
      go_wp2_with fail
      refine (raPattern_any b _ hb).mono ?_
      rintro e w1 ⟨rfl, rfl⟩
      rw [h2]
      go_wp2_with fail
      go_ret
      exact ⟨by unfold twoG; rw [h1, h2]; rfl, rfl⟩
    · by_cases h3 : a.size = b.size
      · have hq := ba_beqR a b
        go_enter Tryz.func6, Tryz.ntmps6
        go_wp2_with fail
        refine (raPattern_any a _ ha).mono ?_
        rintro e w1 ⟨rfl, rfl⟩
        rw [h1]
        go_wp2_with fail
        refine (raPattern_any b _ hb).mono ?_
        rintro e w1 ⟨rfl, rfl⟩
        rw [h2]
        have h3' : (a.size : Int) = (b.size : Int) := by omega
        go_wp2_with fail
        go_ret
        exact ⟨by unfold twoG; rw [h1, h2, ← hq]; simp [h3], rfl⟩
      · go_enter Tryz.func6, Tryz.ntmps6
        go_wp2_with fail
        refine (raPattern_any a _ ha).mono ?_
        rintro e w1 ⟨rfl, rfl⟩
        rw [h1]
        go_wp2_with fail
        refine (raPattern_any b _ hb).mono ?_
        rintro e w1 ⟨rfl, rfl⟩
        rw [h2]
        have h3' : ¬ (a.size : Int) = (b.size : Int) := by omega
        have h3'' : ((a.size : Int) == (b.size : Int)) = false := by simp; omega
        go_wp2_with fail
        go_ret
        exact ⟨by unfold twoG; rw [h1, h2]; simp [h3], rfl⟩

/-- The k-th one of some texts is a racer, as long as the first one, and none of those ahead of it. -/
def okAt (xs : List ByteArray) (k : Nat) : Bool := racG (xs.getD k noS) && (decide ((xs.getD k noS).size = (xs.getD 0 noS).size) && !Lib.containsS (xs.take k) (xs.getD k noS))
def manyG (xs : List ByteArray) : Bool := inB xs.length 2 4 && (List.range xs.length).all (okAt xs)
theorem many_no {xs : List ByteArray} {k : Nat} (hk : k < xs.length) (h : okAt xs k = false) : manyG xs = false := by
  unfold manyG
  have : (List.range xs.length).all (okAt xs) = false := by
    rw [List.all_eq_false]
    exact ⟨k, by simpa using hk, by simp [h]⟩
  rw [this, Bool.and_false]
theorem many_yes {xs : List ByteArray} (hl : inB xs.length 2 4 = true) (h : ∀ k, k < xs.length → okAt xs k = true) : manyG xs = true := by
  unfold manyG
  rw [hl, Bool.true_and, List.all_eq_true]
  intro k hk
  exact h k (by simpa using hk)
theorem many_in {xs : List ByteArray} (h : manyG xs = true) : 2 ≤ xs.length ∧ xs.length ≤ 4 ∧ ∀ k, k < xs.length → okAt xs k = true := by
  unfold manyG at h
  rw [Bool.and_eq_true, List.all_eq_true] at h
  have := (inB_iff _ _ _).1 h.1
  exact ⟨by omega, by omega, fun k hk => h.2 k (by simpa using hk)⟩
theorem ok_step {xs : List ByteArray} {k : Nat} (h : ∀ j, j < k → okAt xs j = true) (h1 : okAt xs k = true) : ∀ j, j < k + 1 → okAt xs j = true := by
  intro j hj
  by_cases e : j = k
  · subst e; exact h1
  · exact h j (by omega)

theorem contains_any (xs : List ByteArray) (base g cap k : Nat) (x : ByteArray) (w : World) (h : SRow w base (.slice (some ⟨g, 0, none⟩) xs.length cap) xs) (hk : k ≤ xs.length) (hc : cap ≤ maxLen) (hx : xs.length ≤ cap) :
    Calls Tryz.prog 17 #[.slice (some ⟨g, 0, none⟩) k cap, .string x] w fun e w' => e = .returned (.bool (Lib.containsS (xs.take k) x)) ∧ w = w' :=
  (Tryz.slices_Contains_string g 0 k cap xs x w hk (by unfold maxLen at hc; omega) (fun j hj => by rw [Nat.zero_add]; exact h.at_ j hj)).mono fun _ _ ⟨a, b⟩ => ⟨a, b.symm⟩
theorem getD_mem {xs : List ByteArray} {k : Nat} (hk : k < xs.length) : xs.getD k noS ∈ xs := by
  rw [List.getD_eq_getElem?_getD, List.getElem?_eq_getElem hk]
  exact List.getElem_mem hk

set_option maxRecDepth 100000 in
set_option maxHeartbeats 1600000 in
theorem implMany_any (xs : List ByteArray) (v : Value) (base : Nat) (w : World) (hR : SRow w base v xs) (hs : ∀ x ∈ xs, x.size ≤ maxLen) :
    Calls Tryz.prog 11 #[v] w fun e w' => e = .returned (.bool (manyG xs)) ∧ Below w.heap.size w w' := by
  rcases hR.form with ⟨hx, A, cap, rfl⟩ | ⟨hx, g, cap, rfl, hbg, hgl, hlc, hcm⟩
  · rw [show manyG xs = false from by subst hx; rfl]
    go_enter Tryz.func11, Tryz.ntmps11
    go_wp2_with fail
    go_ret
    exact ⟨rfl, Below.refl _ _⟩
  · unfold maxLen at hcm
    have HR := Lib.hid hR
    have HS := Lib.hid hs
    clear hR hs
    cases hN2 : inB xs.length 2 4
    · rw [show manyG xs = false from by unfold manyG; rw [hN2]; rfl]
      have hn : ¬ (2 ≤ xs.length ∧ xs.length ≤ 4) := fun q => by rw [(inB_iff _ _ _).2 (by omega)] at hN2; cases hN2
      by_cases h2 : xs.length < 2
      · have h2' : (xs.length : Int) < 2 := by omega
        clear hN2 hn
        generalize xs.length = N at *
        go_enter Tryz.func11, Tryz.ntmps11
        go_wp2_with fail
        go_ret
        exact ⟨rfl, Below.refl _ _⟩
      · have h2' : ¬ (xs.length : Int) < 2 := by omega
        have h4' : 4 < (xs.length : Int) := by omega
        clear hN2 hn
        generalize xs.length = N at *
        go_enter Tryz.func11, Tryz.ntmps11
        go_wp2_with fail
        go_ret
        exact ⟨rfl, Below.refl _ _⟩
    · have hbI := (inB_iff _ _ _).1 hN2
      have h2' : ¬ (xs.length : Int) < 2 := by omega
      have h4' : ¬ 4 < (xs.length : Int) := by omega
      have HN2 := Lib.hid hN2
      clear hbI
      have hyes : Hid ((∀ k, k < xs.length → okAt xs k = true) → manyG xs = true) := Lib.hid (many_yes hN2)
      clear hN2
      generalize hN : xs.length = N at *
      have HN := Lib.hid hN
      clear hN
      go_enter Tryz.func11, Tryz.ntmps11
      go_wp2_with fail
      go_loopw [15] (fun i wr => ∃ k : Nat, k ≤ N ∧ i = .int .i64 k ∧ Hid (∀ j, j < k → okAt xs j = true) ∧ Below w.heap.size w wr) (fun i _ => N - (intOf i).toNat)
      case atStart => exact ⟨0, by omega, rfl, fun _ h => by omega, Below.refl _ _⟩
      case round =>
        obtain ⟨k, hk, rfl, hok, hb⟩ := hrel
        obtain ⟨wa, rfl⟩ : ∃ wa : World, wa = wr := ⟨_, rfl⟩
        have hsa := hb.size
        by_cases hlt : k < N
        · have hki : (k : Int) < (N : Int) := by omega
          have hrow := HR.out.below hb
          rw [← HN.out] at hrow
          have c0 := hrow.at_ k (by rw [HN.out]; exact hlt)
          have hok2 : Hid (okAt xs k = (racG (xs.getD k noS) && (decide ((xs.getD k noS).size = (xs.getD 0 noS).size) && !Lib.containsS (xs.take k) (xs.getD k noS)))) := rfl
          have hxs := HS.out _ (getD_mem (k := k) (by rw [HN.out]; exact hlt))
          have Hrow := Lib.hid hrow
          have hno : Hid (okAt xs k = false → manyG xs = false) := Lib.hid (fun h => many_no (by rw [HN.out]; exact hlt) h)
          have hz := ok_step (k := k) hok.out
          have Hz := Lib.hid hz
          clear hz hrow
          have c1 : ∀ W : World, Below wa.heap.size wa W → W.cell? ⟨g, 0, none⟩ = some (.string (xs.getD 0 noS)) := fun W hW => (Hrow.out.below hW).at_ 0 (by rw [HN.out]; omega)
          have hcon : ∀ W : World, Below wa.heap.size wa W → Calls Tryz.prog 17 #[.slice (some ⟨g, 0, none⟩) k cap, .string (xs.getD k noS)] W fun e w' => e = .returned (.bool (Lib.containsS (xs.take k) (xs.getD k noS))) ∧ W = w' := fun W hW => contains_any xs base g cap k _ W (Hrow.out.below hW) (by rw [HN.out]; exact hk) (by unfold maxLen; omega) (by rw [HN.out]; exact hlc)
          have C1 := Lib.hid c1
          have HC := Lib.hid hcon
          clear c1 hcon
          generalize xs.getD k noS = x at *
          generalize xs.getD 0 noS = x0 at *
          cases hA : racG x
          · rw [hA] at hok2
            have Hfin := Lib.hid (hno.out (by rw [hok2.out]; rfl))
            go_wp2_with fail
            refine (isRacer_any x _ hxs).mono ?_
            rintro e w2 ⟨rfl, hb2⟩
            rw [hA]
            go_wp2_with fail
            go_ret
            exact ⟨by rw [Hfin.out]; rfl, bel_trans hb hb2⟩
          · rw [hA] at hok2
            by_cases hB : x.size = x0.size
            · have hB' : ((x.size : Int) != (x0.size : Int)) = false := by simp; omega
              have hB2 : (x.size : Int) = (x0.size : Int) := by omega
              cases hC : Lib.containsS (xs.take k) x
              · have hyy : okAt xs k = true := by rw [hok2.out, hC]; simp [hB]
                have Hst := Lib.hid (Hz.out hyy)
                go_wp2_with fail
                refine (isRacer_any x _ hxs).mono ?_
                rintro e w2 ⟨rfl, hb2⟩
                rw [hA]
                have e1 := C1.out w2 hb2
                go_wp2_with fail
                refine (HC.out w2 hb2).mono ?_
                rintro e w3 ⟨rfl, rfl⟩
                rw [hC]
                go_wp2_with fail
                exact ⟨⟨k + 1, by omega, by go_num, Hst, bel_trans hb hb2⟩, by simp [intOf]; omega⟩
              · have Hfin := Lib.hid (hno.out (by rw [hok2.out, hC]; simp))
                go_wp2_with fail
                refine (isRacer_any x _ hxs).mono ?_
                rintro e w2 ⟨rfl, hb2⟩
                rw [hA]
                have e1 := C1.out w2 hb2
                go_wp2_with fail
                refine (HC.out w2 hb2).mono ?_
                rintro e w3 ⟨rfl, rfl⟩
                rw [hC]
                go_wp2_with fail
                go_ret
                exact ⟨by rw [Hfin.out]; rfl, bel_trans hb hb2⟩
            · have hB' : ((x.size : Int) != (x0.size : Int)) = true := by simp; omega
              have hB2 : ¬ (x.size : Int) = (x0.size : Int) := by omega
              have Hfin := Lib.hid (hno.out (by rw [hok2.out]; simp [hB]))
              go_wp2_with fail
              refine (isRacer_any x _ hxs).mono ?_
              rintro e w2 ⟨rfl, hb2⟩
              rw [hA]
              have e1 := C1.out w2 hb2
              go_wp2_with fail
              go_ret
              exact ⟨by rw [Hfin.out]; rfl, bel_trans hb hb2⟩
        · obtain rfl : k = N := by omega
          have Hfin := Lib.hid (hyes.out hok.out)
          go_wp2_with fail
          go_ret
          exact ⟨by rw [Hfin.out]; rfl, hb⟩
end Go.Proofs.YtdfjfojkheikiaaGreatDoor
