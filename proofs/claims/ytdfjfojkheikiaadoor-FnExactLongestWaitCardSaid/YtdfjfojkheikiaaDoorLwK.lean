/- The longest and the shortest waits: the contracts of the program. -/
import Derived.Test.YtdfjfojkheikiaaDoorLwE
import Derived.Test.YtdfjfojkheikiaaDoorShelfC
import Derived.Maps.Own
import Derived.Maps.OwnSet
import Derived.Maps.AppendAt
import Derived.CallsIn
import Derived.Shelf.SlIterI.Collect
import Derived.Shelf.SlIterI.Keys
namespace Go.Proofs.YtdfjfojkheikiaaDoor
set_option linter.unusedSimpArgs false
open Go.ChangeShapes Go.WideShapes Go.ChangeAt Go.RowKit Go.Maps Go.Sort Go.Shelf
set_option linter.unusedVariables false

theorem iWait_any (s : ByteArray) (w : World) (ha : allT s = true) (h1 : 1 ≤ s.size) (h8 : s.size ≤ 8) :
    Calls Tryd.prog 28 #[cn 1 2, .string s] w fun e w' => (∃ d, e = .returned (.tuple #[.int .i64 (nW s), .int .i64 d, .bool true])) ∧ Below w.heap.size w w' := by
  have hs : s.size ≤ maxLen := by unfold maxLen; omega
  refine (implMW_any 1 2 s w hs).mono fun e w' ⟨a, b⟩ => ⟨?_, b⟩
  have hg : (coinG 1 2 && patG s) = true := by
    rw [coin12, Bool.true_and]
    unfold patG tossG
    simp [ha, inB_iff]
    omega
  refine ⟨low (prA 1 2 s) (waitI 1 2 s (overL s) (overL s).length) (prA 1 2 s), ?_⟩
  rw [a]
  unfold ansWt
  rw [if_pos hg]
  rfl
/-- How a slice in the map is read: as it is. -/
abbrev Rr : Value → Option (DataW Value × List MemPlace) := fun v => some (.held v, [])
abbrev nilS : Value := .slice none 0 0
theorem lookup_raw (w : World) {ops : Array Oper} {rest : List Oper} {o : Oper} {a : Act} {Q : Exit → Act → World → Prop}
    (hg : o.guard = none) (m x : Operand) (hop : o.op = Op.lookup 46 m x false) (b n : Nat) (D : DataW Value)
    (hm : a.eval m = .map (some b)) (hown : w.ownsMap Tryd.prog 3 Rr b n D) (key : Value) (kl : Lit) (hx : a.eval x = key) (hkey : keyOf Tryd.prog 3 key = some kl)
    (f : Value) (hat : D.atKey kl (.held nilS) = .held f) (hK : wpList Tryd.prog ops Q rest (a.put o.dst f) w) :
    wpList Tryd.prog ops Q (o :: rest) a w := by
  refine wpList_plain hg fun K' hK' => ?_
  obtain ⟨v, ps, hrun, hv⟩ := hown.lookup (Maps.int_keyed Tryd.underlying3) Tryd.underlying46 (Tryd.zeroValue22 _) (zd := .held nilS) rfl hkey
  have hc : v = f := by
    have h1 := congrArg Prod.fst (Option.some.inj hv)
    rw [hat] at h1
    injection h1
  subst hc
  unfold Oper.wp
  simp [execOp, hop, hm, hx, hrun, Result.andThen]
  exact hK' _ _ hK
def updF (f : Int → Value) (z : Int) (v : Value) : Int → Value := fun m => if m = z then v else f m
theorem updF_same (f : Int → Value) (z : Int) (v : Value) : updF f z v z = v := if_pos rfl
theorem updF_ne (f : Int → Value) (z : Int) (v : Value) {m : Int} (h : m ≠ z) : updF f z v m = f m := if_neg h
/-- The map holds under each wait the texts with it, of the first j. -/
def GrpW (w : World) (base : Nat) (l : List ByteArray) (j : Nat) (D : DataW Value) (f : Int → Value) : Prop :=
  IsMap D ∧ (∀ m, D.atKey (.int .i64 m) (.held nilS) = .held (f m)) ∧ (∀ m, SRow w base (f m) (grp l m j)) ∧
    (∀ m m', m ≠ m' → ∀ g, (f m).ownBlock = some g → (f m').ownBlock ≠ some g) ∧ (∀ m, has D (.int .i64 m) = true ↔ ∃ i, i < j ∧ wAt l i = m)
theorem SRow.keptBy {w w' : World} {base : Nat} {v : Value} {xs : List ByteArray} {row : Option Nat} (h : SRow w base v xs) (hg : w.grownBy w' row) (hv : ∀ g, v.ownBlock = some g → row ≠ some g) : SRow w' base v xs := by
  refine World.ownsRow.kept h hg ?_
  cases hb : v.ownBlock with
  | none => exact .inl rfl
  | some g => exact .inr fun e => hv g hb e.symm
theorem GrpW.start (w : World) (base : Nat) (l : List ByteArray) : GrpW w base l 0 (.map []) (fun _ => nilS) :=
  ⟨⟨[], rfl⟩, fun m => rfl, fun m => by rw [grp_zero]; exact World.ownsRow_nil _ _ _ _, fun m m' _ g h => by simp [Value.ownBlock] at h, fun m => by simp [has]⟩
theorem GrpW.bel {w w' : World} {base : Nat} {l : List ByteArray} {j : Nat} {D : DataW Value} {f : Int → Value} (h : GrpW w base l j D f) (hb : Below w.heap.size w w') : GrpW w' base l j D f :=
  ⟨h.1, h.2.1, fun m => (h.2.2.1 m).below hb, h.2.2.2⟩
theorem GrpW.put {w w1 w2 w3 : World} {base b : Nat} {l : List ByteArray} {j : Nat} {D : DataW Value} {f : Int → Value} {z : Int} {v' : Value} (h : GrpW w base l j D f) (hj : j < l.length) (hz : wAt l j = z) (hbb : b < base)
    (g1 : w.grownBy w1 none) (g2 : w1.grownBy w2 (f z).ownBlock) (g3 : w2.grownBy w3 (some b)) (hr : SRow w2 base v' (grp l z j ++ [l.getD j noT])) (hat : v'.ownBlock = (f z).ownBlock ∨ ∃ g, v'.ownBlock = some g ∧ w.heap.size ≤ g) :
    GrpW w3 base l (j + 1) (D.put (.int .i64 z) (.held v')) (updF f z v') := by
  obtain ⟨hM, hA, hR, hP, hH⟩ := h
  have hlt : ∀ m g, (f m).ownBlock = some g → base ≤ g ∧ g < w.heap.size := fun m g hg => World.ownsRow.lt (hR m) g hg
  have hlt2 : ∀ g, v'.ownBlock = some g → base ≤ g ∧ g < w2.heap.size := fun g hg => World.ownsRow.lt hr g hg
  have hne : ∀ m, m ≠ z → ∀ g, (f m).ownBlock = some g → v'.ownBlock ≠ some g := by
    intro m hm g hg e
    rcases hat with q | ⟨g', q, q2⟩
    · rw [e] at q
      exact hP m z hm g hg q.symm
    · rw [e] at q
      injection q with q
      have := (hlt m g hg).2
      omega
  refine ⟨?_, fun m => ?_, fun m => ?_, fun m m' hmm g hg => ?_, fun m => ?_⟩
  · obtain ⟨es, rfl⟩ := hM
    exact ⟨_, rfl⟩
  · by_cases e : m = z
    · subst e
      rw [updF_same]
      exact atKey_put_same hM (by trivial) _ _
    · rw [updF_ne _ _ _ e, atKey_put_other (fun q => e (by injection q))]
      exact hA m
  · by_cases e : m = z
    · subst e
      rw [updF_same, grp_yes hj hz]
      exact hr.keptBy g3 fun g hg q => by injection q with q; have := (hlt2 g hg).1; omega
    · rw [updF_ne _ _ _ e, grp_no hj (fun q => e (q.symm.trans hz))]
      have r1 := (hR m).keptBy g1 (fun g hg q => by cases q)
      have r2 := r1.keptBy g2 (fun g hg q => hP m z e g hg q)
      exact r2.keptBy g3 fun g hg q => by injection q with q; have := (hlt m g hg).1; omega
  · by_cases e : m = z
    · subst e
      rw [updF_same] at hg
      rw [updF_ne _ _ _ (fun q => hmm q.symm)]
      intro q
      exact hne m' (fun x => hmm x.symm) g q hg
    · rw [updF_ne _ _ _ e] at hg
      by_cases e2 : m' = z
      · subst e2
        rw [updF_same]
        exact hne m e g hg
      · rw [updF_ne _ _ _ e2]
        exact hP m m' hmm g hg
  · by_cases e : m = z
    · subst e
      rw [has_put_same hM (by trivial)]
      exact ⟨fun _ => ⟨j, by omega, hz⟩, fun _ => rfl⟩
    · rw [has_put_other (fun q => e (by injection q)), hH m]
      exact ⟨fun ⟨i, hi, q⟩ => ⟨i, by omega, q⟩, fun ⟨i, hi, q⟩ => ⟨i, by
        rcases Nat.lt_or_ge i j with r | r
        · exact r
        · have : i = j := by omega
          subst this
          exact absurd (q.symm.trans hz) e, q⟩⟩
/-- The keys of a map of ints. -/
theorem mem_keys {w : World} {b n : Nat} {D : DataW Value} (hown : w.ownsMap Tryd.prog 3 Rr b n D) (x : Int) : x ∈ intKeys D ↔ has D (.int .i64 x) = true := by
  obtain ⟨es, rfl, hko⟩ := hown.keysOf
  have hk : ∀ p ∈ es, ∃ x, p.1 = .int .i64 x := fun p hp => by
    obtain ⟨v, hv⟩ := hko p hp
    obtain ⟨y, _, hy, _⟩ := Maps.keyOf_i64 Tryd.underlying3 hv
    exact ⟨y, hy⟩
  rw [has_eq, List.any_eq_true]
  show x ∈ es.map (fun p => intOf p.1) ↔ _
  rw [List.mem_map]
  constructor
  · rintro ⟨p, hp, rfl⟩
    obtain ⟨a, ha⟩ := hk p hp
    exact ⟨p, hp, by rw [ha]; simp [Lit.sameKey, intOf]⟩
  · rintro ⟨p, hp, hs⟩
    obtain ⟨a, ha⟩ := hk p hp
    rw [ha] at hs
    exact ⟨p, hp, by rw [ha]; simpa [Lit.sameKey, intOf] using hs⟩
theorem foldl_max : ∀ (l : List Int) (a : Int), (l.foldl max a = a ∨ l.foldl max a ∈ l) ∧ a ≤ l.foldl max a ∧ ∀ x ∈ l, x ≤ l.foldl max a
  | [], a => ⟨.inl rfl, Int.le_refl a, fun x h => by cases h⟩
  | y :: l, a => by
    obtain ⟨h1, h2, h3⟩ := foldl_max l (max a y)
    simp only [List.foldl_cons, List.mem_cons]
    refine ⟨?_, by omega, ?_⟩
    · rcases h1 with q | q
      · rcases Int.le_total a y with r | r
        · right; left; omega
        · left; omega
      · exact .inr (.inr q)
    · rintro x (rfl | hx)
      · omega
      · exact h3 x hx
theorem foldl_min : ∀ (l : List Int) (a : Int), (l.foldl min a = a ∨ l.foldl min a ∈ l) ∧ l.foldl min a ≤ a ∧ ∀ x ∈ l, l.foldl min a ≤ x
  | [], a => ⟨.inl rfl, Int.le_refl a, fun x h => by cases h⟩
  | y :: l, a => by
    obtain ⟨h1, h2, h3⟩ := foldl_min l (min a y)
    simp only [List.foldl_cons, List.mem_cons]
    refine ⟨?_, by omega, ?_⟩
    · rcases h1 with q | q
      · rcases Int.le_total a y with r | r
        · left; omega
        · right; left; omega
      · exact .inr (.inr q)
    · rintro x (rfl | hx)
      · omega
      · exact h3 x hx
theorem ext_max {ss : List Int} {f : Nat → Int} {n : Nat} (hn : 0 < n) (h : ∀ x, x ∈ ss ↔ ∃ i, i < n ∧ f i = x) : Lib.maxOf ss = bst true f n := by
  have h0 : f 0 ∈ ss := (h _).2 ⟨0, hn, rfl⟩
  cases ss with
  | nil => cases h0
  | cons a l =>
    obtain ⟨h1, h2, h3⟩ := foldl_max (a :: l) a
    have e : Lib.maxOf (a :: l) = (a :: l).foldl max a := rfl
    rw [e]
    clear e
    generalize (a :: l).foldl max a = M at h1 h2 h3 ⊢
    refine bst_eq hn ((h _).1 ?_) fun i hi => ?_
    · rcases h1 with q | q
      · rw [q]; exact List.mem_cons_self
      · exact q
    · have := h3 (f i) ((h _).2 ⟨i, hi, rfl⟩)
      unfold bfr
      simp
      omega
theorem ext_min {ss : List Int} {f : Nat → Int} {n : Nat} (hn : 0 < n) (h : ∀ x, x ∈ ss ↔ ∃ i, i < n ∧ f i = x) : Lib.minOf ss = bst false f n := by
  have h0 : f 0 ∈ ss := (h _).2 ⟨0, hn, rfl⟩
  cases ss with
  | nil => cases h0
  | cons a l =>
    obtain ⟨h1, h2, h3⟩ := foldl_min (a :: l) a
    have e : Lib.minOf (a :: l) = (a :: l).foldl min a := rfl
    rw [e]
    clear e
    generalize (a :: l).foldl min a = M at h1 h2 h3 ⊢
    refine bst_eq hn ((h _).1 ?_) fun i hi => ?_
    · rcases h1 with q | q
      · rw [q]; exact List.mem_cons_self
      · exact q
    · have := h3 (f i) ((h _).2 ⟨i, hi, rfl⟩)
      unfold bfr
      simp
      omega
/-- maps.Keys and slices.Collect at this program's numbers. -/
theorem keysF_any (b : Nat) (w : World) :
    Calls Tryd.prog 30 #[.map (some b)] w fun e w' => e = .returned (.func (.func 44) #[] #[.pointer (some ⟨w.heap.size, 0, none⟩)]) ∧ w' = w.alloc (.cells #[.map (some b)] 46) :=
  (callsIn_wide (n := 5)).1 (AnyZI.keys_in Tryd.keysM Fence.wide 5 trivial rfl (some b) w)
theorem colF_any (b n : Nat) (D : DataW Value) (w : World) (hown : w.ownsMap Tryd.prog 3 Rr b n D) (hn : n ≤ 1000) :
    Calls Tryd.prog 29 #[.func (.func 44) #[] #[.pointer (some ⟨w.heap.size, 0, none⟩)]] (w.alloc (.cells #[.map (some b)] 46)) fun e w' =>
      ∃ (v : Value) (ss : List Int), e = .returned v ∧ (∀ x, x ∈ ss ↔ has D (.int .i64 x) = true) ∧ w'.ownsRow (w.heap.size + 1) 3 1 v ss.length (ss.map (Value.int .i64)) ∧ Below (w.heap.size + 1) (w.alloc (.cells #[.map (some b)] 46)) w' := by
  refine (callsIn_wide (n := 6)).1 ?_
  have hsz := hown.size_le
  have hbl := hown.lt
  have hseq : SeqGives Fence.wide 4 Tryd.prog 44 #[.pointer (some ⟨w.heap.size, 0, none⟩)] encZ (fun ss => ss.Perm (intKeys D)) (Maps.size D) (w.alloc (.cells #[.map (some b)] 46)) :=
    AnyZI.keys_gives (ρ := Tryd.keysM_ren) { Tryd.keysM with } Fence.wide _ trivial rfl (by omega) w.heap.size b n D _ (by simp) (by simp) (hown.alloc _)
  refine (AnyZI.collect_in Tryd.colM Fence.wide 6 trivial trivial rfl (by omega) 44 #[.pointer (some ⟨w.heap.size, 0, none⟩)] trivial (Go.Proofs.enters_of Tryd.func44 (by kernel_rfl) rfl) _ _ (by unfold maxLen; omega) (by omega) _ hseq).mono ?_
  rintro e w' ⟨v, ss, rfl, hS, hrow, _, hb⟩
  rw [← size1] at hrow hb
  exact ⟨v, ss, rfl, fun x => by rw [hS.mem_iff]; exact mem_keys hown x, hrow, hb⟩
end Go.Proofs.YtdfjfojkheikiaaDoor
