/- Many racers, as the model knows them, and racers of both sides. -/
import Derived.Test.YtjckmnbpfmcadacDoorRac
namespace Go.Proofs.YtjckmnbpfmcadacDoor
set_option linter.unusedSimpArgs false
open Go.ChangeShapes Go.WideShapes Go.ChangeAt Go.RowKit
set_option linter.unusedVariables false

theorem con_no {xs : List ByteArray} {k : Nat} {x : ByteArray} (h : ∀ j, j < k → decide (x = xs.getD j noS) = false) (hk : k ≤ xs.length) : Lib.containsS (xs.take k) x = false := by
  cases hc : Lib.containsS (xs.take k) x with
  | false => rfl
  | true =>
    rw [Lib.containsS_iff] at hc
    obtain ⟨j, hj, e⟩ := List.getElem_of_mem hc
    have hj2 : j < k := by simp at hj; omega
    have := h j hj2
    rw [List.getElem_take] at e
    rw [List.getD_eq_getElem?_getD, List.getElem?_eq_getElem (by omega)] at this
    simp [e] at this
theorem con_yes {xs : List ByteArray} {k j : Nat} {x : ByteArray} (hj : j < k) (hk : k ≤ xs.length) (h : decide (x = xs.getD j noS) = true) : Lib.containsS (xs.take k) x = true := by
  rw [Lib.containsS_iff, of_decide_eq_true h, List.getD_eq_getElem?_getD, List.getElem?_eq_getElem (by omega)]
  show xs[j] ∈ _
  rw [List.mem_iff_getElem]
  exact ⟨j, by simp; omega, by rw [List.getElem_take]⟩

set_option maxRecDepth 100000 in
set_option maxHeartbeats 1600000 in
theorem specMany_any (xs : List ByteArray) (v : Value) (base : Nat) (w : World) (hR : SRow w base v xs) (hs : ∀ x ∈ xs, x.size ≤ maxLen) :
    Calls Tryd.prog 50 #[v] w fun e w' => e = .returned (.bool (manyG xs)) ∧ ∃ n, w' = w.drewN n := by
  rcases hR.form with ⟨hx, A, cap, rfl⟩ | ⟨hx, g, cap, rfl, hbg, hgl, hlc, hcm⟩
  · rw [show manyG xs = false from by subst hx; rfl]
    have hq : inB 0 2 4 = false := rfl
    go_enter Tryd.func50, Tryd.ntmps50
    go_wp2_with fail
    refine (l1In_any _ _ _ _).mono ?_
    rintro e w1 ⟨rfl, rfl⟩
    rw [hq]
    go_wp2_with fail
    go_ret
    exact ⟨rfl, 0, rfl⟩
  · unfold maxLen at hcm
    have HR := Lib.hid hR
    have HS := Lib.hid hs
    clear hR hs
    cases hN2 : inB xs.length 2 4
    · rw [show manyG xs = false from by unfold manyG; rw [hN2]; rfl]
      generalize xs.length = N at *
      go_enter Tryd.func50, Tryd.ntmps50
      go_wp2_with fail
      refine (l1In_any _ _ _ _).mono ?_
      rintro e w1 ⟨rfl, rfl⟩
      rw [hN2]
      go_wp2_with fail
      go_ret
      exact ⟨rfl, 0, rfl⟩
    · have HN2 := Lib.hid hN2
      have hyes : Hid ((∀ k, k < xs.length → okAt xs k = true) → manyG xs = true) := Lib.hid (many_yes hN2)
      generalize hN : xs.length = N at *
      have HN := Lib.hid hN
      clear hN hN2
      go_enter Tryd.func50, Tryd.ntmps50
      go_wp2_with fail
      refine (l1In_any _ _ _ _).mono ?_
      rintro e w1 ⟨rfl, rfl⟩
      rw [HN2.out]
      go_wp2_with fail
      go_loopw [13] (fun i wr => ∃ k : Nat, k ≤ N ∧ i = .int .i64 k ∧ Hid (∀ j, j < k → okAt xs j = true) ∧ ∃ n, wr = w.drewN n) (fun i _ => N - (intOf i).toNat)
      case atStart => exact ⟨0, by omega, rfl, fun _ h => by omega, 0, rfl⟩
      case round =>
        obtain ⟨k, hk, rfl, hok, nq, rfl⟩ := hrel
        by_cases hlt : k < N
        · have hki : (k : Int) < (N : Int) := by omega
          have hrow : SRow (w.drewN nq) base (.slice (some ⟨g, 0, none⟩) N cap) xs := HR.out.drewN nq
          have hrow' := hrow
          rw [← HN.out] at hrow'
          have c0 := hrow'.at_ k (by rw [HN.out]; exact hlt)
          have c1 := hrow'.at_ 0 (by rw [HN.out]; omega)
          have hok2 : Hid (okAt xs k = (racG (xs.getD k noS) && (decide ((xs.getD k noS).size = (xs.getD 0 noS).size) && !Lib.containsS (xs.take k) (xs.getD k noS)))) := rfl
          have hxs := HS.out _ (getD_mem (k := k) (by rw [HN.out]; exact hlt))
          have hno : Hid (okAt xs k = false → manyG xs = false) := Lib.hid (fun h => many_no (by rw [HN.out]; exact hlt) h)
          have Hz := Lib.hid (ok_step (k := k) hok.out)
          have HCy : Hid (∀ j, j < k → decide (xs.getD k noS = xs.getD j noS) = true → Lib.containsS (xs.take k) (xs.getD k noS) = true) := Lib.hid (fun j hj h => con_yes hj (by rw [HN.out]; exact hk) h)
          have HCn : Hid ((∀ j, j < k → decide (xs.getD k noS = xs.getD j noS) = false) → Lib.containsS (xs.take k) (xs.getD k noS) = false) := Lib.hid (fun h => con_no h (by rw [HN.out]; exact hk))
          have Hrow := Lib.hid hrow'
          clear hrow hrow'
          generalize hx : xs.getD k noS = x at *
          generalize xs.getD 0 noS = x0 at *
          clear hx
          cases hA : racG x
          · rw [hA] at hok2
            have Hfin := Lib.hid (hno.out (by rw [hok2.out]; rfl))
            go_wp2_with fail
            refine (raPattern_any x _ hxs).mono ?_
            rintro e w2 ⟨rfl, rfl⟩
            rw [hA]
            go_wp2_with fail
            go_ret
            exact ⟨by rw [Hfin.out]; rfl, nq, rfl⟩
          · rw [hA] at hok2
            by_cases hB : x.size = x0.size
            · have hB' : ((x.size : Int) != (x0.size : Int)) = false := by simp; omega
              have hB2 : (x.size : Int) = (x0.size : Int) := by omega
              go_wp2_with fail
              refine (raPattern_any x _ hxs).mono ?_
              rintro e w2 ⟨rfl, rfl⟩
              rw [hA]
              go_wp2_with fail
              go_loopw [34] (fun i wr => ∃ j : Nat, j ≤ k ∧ i = .int .i64 j ∧ Hid (∀ q, q < j → decide (x = xs.getD q noS) = false) ∧ ∃ n, wr = w.drewN n) (fun i _ => k - (intOf i).toNat)
              case atStart => exact ⟨0, by omega, rfl, fun _ h => by omega, nq, rfl⟩
              case round =>
                obtain ⟨j, hj, rfl, hjn, nr, rfl⟩ := hrel
                by_cases hlt2 : j < k
                · have hji : (j : Int) < (k : Int) := by omega
                  have hrow2 : SRow (w.drewN nr) base (.slice (some ⟨g, 0, none⟩) xs.length cap) xs := Hrow.out
                  have c2 := hrow2.at_ j (by rw [HN.out]; omega)
                  have hq := ba_beq x (xs.getD j noS)
                  have hjn2 : Hid (decide (x = xs.getD j noS) = false → ∀ q, q < j + 1 → decide (x = xs.getD q noS) = false) := Lib.hid (fun h q hq => by
                    by_cases e : q = j
                    · subst e; exact h
                    · exact hjn.out q (by omega))
                  have HCj := Lib.hid (HCy.out j hlt2)
                  clear hrow2
                  generalize xs.getD j noS = y at *
                  cases hd : decide (x = y)
                  · rw [hd] at hq
                    have Hjn2 := Lib.hid (hjn2.out hd)
                    clear hd
                    go_wp2_with fail
                    repeat (go_quiet (fail); go_wp2_with fail)
                    exact ⟨⟨j + 1, by omega, by go_num, Hjn2, _, rfl⟩, by simp [intOf]; omega⟩
                  · rw [hd] at hq
                    have Hfin := Lib.hid (hno.out (by rw [hok2.out, HCj.out hd]; simp))
                    clear hd
                    go_wp2_with fail
                    repeat (go_quiet (fail); go_wp2_with fail)
                    go_ret
                    exact ⟨by rw [Hfin.out]; rfl, _, rfl⟩
                · obtain rfl : j = k := by omega
                  have hC := HCn.out hjn.out
                  have hyy : okAt xs j = true := by rw [hok2.out, hC]; simp [hB]
                  have Hst := Lib.hid (Hz.out hyy)
                  go_wp2_with fail
                  exact ⟨⟨j + 1, by omega, by go_num, Hst, _, rfl⟩, by simp [intOf]; omega⟩
            · have hB' : ((x.size : Int) != (x0.size : Int)) = true := by simp; omega
              have hB2 : ¬ (x.size : Int) = (x0.size : Int) := by omega
              have Hfin := Lib.hid (hno.out (by rw [hok2.out]; simp [hB]))
              go_wp2_with fail
              refine (raPattern_any x _ hxs).mono ?_
              rintro e w2 ⟨rfl, rfl⟩
              rw [hA]
              go_wp2_with fail
              go_ret
              exact ⟨by rw [Hfin.out]; rfl, nq, rfl⟩
        · obtain rfl : k = N := by omega
          have Hfin := Lib.hid (hyes.out hok.out)
          go_wp2_with fail
          go_ret
          exact ⟨by rw [Hfin.out]; rfl, nq, rfl⟩
end Go.Proofs.YtjckmnbpfmcadacDoor
