/- AnswersFrom: a look-up in a map of truths, is a text in a row. -/
import Derived.Test.YthaoelenleedmaaDoorAnP
namespace Go.Proofs.YthaoelenleedmaaDoor
set_option linter.unusedSimpArgs false
open Go.ChangeShapes Go.WideShapes Go.ChangeAt Go.RowKit Go.Maps Go.Sort
set_option linter.unusedVariables false

theorem lawS : Keyed Tryd.prog 9 := string_keyed Tryd.underlying9
theorem plainElem_bool_inv {H : Type} {P : Program} {e : TypeId} (he : P.underlying e = some .bool) {v : Value} {z : DataW H × List MemPlace} (h : plainElem P e v = some z) : ∃ x, v = .bool x ∧ z = (.lit (.bool x), []) := by
  unfold plainElem at h
  rw [he] at h
  cases v <;> simp at h
  exact ⟨_, rfl, h.symm⟩
theorem lookup_own_bool {H : Type} {P : Program} (w : World) {ops : Array Oper} {rest : List Oper} {o : Oper} {a : Act} {Q : Exit → Act → World → Prop}
    (hg : o.guard = none) (m x : Operand) (t : TypeId) (hop : o.op = Op.lookup t m x false)
    (k e : TypeId) (K : Keyed P k) (ht : P.underlying t = some (.map k e)) (he : P.underlying e = some .bool) (hz : (zeroValue e).run P w = .ok (.bool false) w) (b n : Nat) (D : DataW H)
    (hm : a.eval m = .map (some b)) (hown : w.ownsMap P k (plainElem P e) b n D) (key : Value) (kl : Lit) (hx : a.eval x = key) (hkey : keyOf P k key = some kl)
    (c : Bool) (hat : D.atKey kl (.lit (.bool false)) = .lit (.bool c)) (hK : wpList P ops Q rest (a.put o.dst (.bool c)) w) :
    wpList P ops Q (o :: rest) a w := by
  refine wpList_plain hg fun K' hK' => ?_
  obtain ⟨v, ps, hrun, hv⟩ := hown.lookup K ht hz (plainElem_bool he false) hkey
  obtain ⟨x', rfl, hzz⟩ := plainElem_bool_inv he hv
  have hc : x' = c := by
    have h1 := congrArg Prod.fst hzz
    rw [hat] at h1
    injection h1 with h2
    injection h2 with h3
    exact h3.symm
  subst hc
  unfold Oper.wp
  simp [execOp, hop, hm, hx, hrun, Result.andThen]
  exact hK' _ _ hK
theorem own_bel {H : Type} {w w' : World} {P : Program} {k : TypeId} {R : Value → Option (DataW H × List MemPlace)} {b n m : Nat} {D : DataW H} (h : w.ownsMap P k R b n D) (hb : Below m w w') (hm : b < m) : w'.ownsMap P k R b n D := by
  obtain ⟨es, clock, hb1, F, hs, hD⟩ := h
  exact ⟨es, clock, (hb.block b hm).trans hb1, F, hs, hD⟩
def lenV (v : Value) : Nat := match v with | .slice _ l _ => l | _ => 0
theorem SRow.lenV {w : World} {base : Nat} {v : Value} {xs : List ByteArray} (h : SRow w base v xs) : lenV v = xs.length := by
  rcases h.form with ⟨hx, A, cap, rfl⟩ | ⟨hx, gg, cap, rfl, _⟩
  · subst hx; rfl
  · rfl
theorem SRow.turned {w w' : World} {base b : Nat} {v : Value} {xs : List ByteArray} (h : SRow w base v xs) (hg : w.grownBy w' (some b)) (hb : b < base) : SRow w' base v xs := by
  refine World.ownsRow.kept h hg ?_
  cases hv : v.ownBlock with
  | none => exact .inl rfl
  | some k =>
    refine .inr fun he => ?_
    have l0 := (World.ownsRow.lt h k hv).1
    injection he with he
    omega
theorem any_no {xs : List ByteArray} {t : ByteArray} (h : ∀ j, j < xs.length → xs.getD j noS ≠ t) : (xs.any fun x => decide (x = t)) = false := by
  rw [List.any_eq_false]
  intro x hx
  obtain ⟨j, hj, rfl⟩ := List.mem_iff_getElem.1 hx
  have := h j hj
  rw [List.getD_eq_getElem?_getD, List.getElem?_eq_getElem hj] at this
  simpa using this
theorem any_yes {xs : List ByteArray} {t : ByteArray} {k : Nat} (hk : k < xs.length) (h : xs.getD k noS = t) : (xs.any fun x => decide (x = t)) = true := by
  rw [List.any_eq_true]
  exact ⟨xs.getD k noS, getD_mem hk, by simpa using h⟩

set_option maxHeartbeats 1600000 in
theorem l1HasS_any (xs : List ByteArray) (v : Value) (b : Nat) (t : ByteArray) (w : World) (h0 : SRow w b v xs) :
    Calls Tryd.prog 15 #[v, .string t] w fun e w' => e = .returned (.bool (xs.any fun x => decide (x = t))) ∧ ∃ n, w' = w.drewN n := by
  rcases h0.form with ⟨hx, A0, cap0, rfl⟩ | ⟨hx, g0, cap0, rfl, _, _, hl0, hm0⟩
  · subst hx
    go_enter Tryd.func15, Tryd.ntmps15
    go_wp2
    go_loop [9] (fun i => i = .int .i64 0) (fun _ => 0)
    case atStart => rfl
    case round =>
      obtain rfl := hrel
      go_wp2
      go_ret
      exact ⟨rfl, 0, rfl⟩
  · unfold maxLen at hm0
    have H0 := Lib.hid h0
    have HY := Lib.hid (fun k (hk : k < xs.length) (e : xs.getD k noS = t) => any_yes hk e)
    have HN0 := Lib.hid (fun (h : ∀ j, j < xs.length → xs.getD j noS ≠ t) => any_no h)
    clear h0
    generalize hAny : (xs.any fun x => decide (x = t)) = r at *
    clear hAny
    generalize hN : xs.length = N at *
    go_enter Tryd.func15, Tryd.ntmps15
    go_wp2
    go_loopw [9] (fun i wr => ∃ k : Nat, k ≤ N ∧ i = .int .i64 k ∧ Hid (∀ j, j < k → xs.getD j noS ≠ t) ∧ ∃ n, wr = w.drewN n) (fun i _ => N - (intOf i).toNat)
    case atStart => exact ⟨0, by omega, rfl, Lib.hid (fun j hj => absurd hj (Nat.not_lt_zero j)), 0, rfl⟩
    case round =>
      obtain ⟨k, hk, rfl, hF, n, rfl⟩ := hrel
      by_cases hlt : k < N
      · have h00 := H0.out
        rw [← hN] at h00
        have e0 := h00.at_ k (by rw [hN]; exact hlt)
        clear h00
        have hy := HY.out k hlt
        have hF2 := Lib.hid (fun (hne : xs.getD k noS ≠ t) j (hj : j < k + 1) => (show xs.getD j noS ≠ t from by
          rcases Nat.lt_or_ge j k with q | q
          · exact hF.out j q
          · have : j = k := by omega
            subst this
            exact hne))
        generalize xs.getD k noS = x at *
        have hqe := ba_beq x t
        by_cases hxt : x = t
        · have hr : r = true := hy hxt
          rw [decide_eq_true hxt] at hqe
          subst hr
          have HXT := Lib.hid hxt
          clear hxt hy
          go_wp2_with fail
          repeat (go_quiet (fail); go_wp2_with fail)
          go_ret
          exact ⟨rfl, _, rfl⟩
        · rw [decide_eq_false hxt] at hqe
          have hF3 := Lib.hid (hF2.out hxt)
          clear hxt hy hF2
          go_wp2_with fail
          repeat (go_quiet (fail); go_wp2_with fail)
          exact ⟨⟨k + 1, by omega, by go_num, hF3, _, rfl⟩, by simp [intOf]; omega⟩
      · have hr : r = false := HN0.out (fun j hj => hF.out j (by omega))
        subst hr
        go_wp2
        go_ret
        exact ⟨rfl, n, rfl⟩
end Go.Proofs.YthaoelenleedmaaDoor
