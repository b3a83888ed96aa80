/- The library's own number that its search reads: it stands in some cell of every row's first world, and stays there. -/
import Derived.Test.YtbfgieolehbedaaDoorPsP
import Derived.Shelf.Strings.Shaped
import Derived.HandedShaped
import Derived.Handed
namespace Go.Proofs.YtbfgieolehbedaaDoor
set_option linter.unusedSimpArgs false
open Go.ChangeShapes Go.WideShapes Go.ChangeAt Go.RowKit
set_option linter.unusedVariables false

def mlB : Nat := Tryd.lays146_ren.g 1
def MLen (w : World) : Prop := ∃ m : Int, w.cell? ⟨mlB, 0, none⟩ = some (.int .i64 m) ∧ mlB < w.heap.size
theorem cell_lt {w : World} {b o : Nat} {v : Value} (h : w.cell? ⟨b, o, none⟩ = some v) : b < w.heap.size := by
  rcases Nat.lt_or_ge b w.heap.size with hlt | hge
  · exact hlt
  · exfalso
    have : w.heap[b]? = none := Array.getElem?_eq_none hge
    simp [World.cell?, this] at h
theorem MLen.of {w : World} (h : w.ShapedOpen Tryd.prog) : MLen w := by
  obtain ⟨m, hm⟩ := Tryd.laysM146.s1_3 w h
  exact ⟨m, hm, cell_lt hm⟩
theorem MLen.keep {w w' : World} (h : MLen w) (hb : Below w.heap.size w w') : MLen w' := by
  obtain ⟨m, hm, hl⟩ := h
  exact ⟨m, (hb.cell (p := ⟨mlB, 0, none⟩) hl).trans hm, Nat.lt_of_lt_of_le hl hb.size⟩
theorem split_any (s : ByteArray) (c : UInt8) (w : World) (hM : MLen w) (hs : s.size ≤ 2000000) :
    Calls Tryd.prog 18 #[.string s, .string ⟨#[c]⟩] w (SRowOne ((pcs s.data.toList c).map baL) w) := by
  obtain ⟨m, hm, _⟩ := hM
  have hd := Lib.splitB_data ⟨#[c]⟩ 0 (Lib.countB s ⟨#[c]⟩) s
  have hall := Lib.splitB_all ⟨#[c]⟩ (Nat.le_refl 1) 0 _ s rfl
  have he : Lib.splitB ⟨#[c]⟩ 0 (Lib.countB s ⟨#[c]⟩) s = (pcs s.data.toList c).map baL := by
    have h2 : (Lib.splitB ⟨#[c]⟩ 0 (Lib.countB s ⟨#[c]⟩) s).map (·.data.toList) = pcs s.data.toList c := hd
    rw [← h2, List.map_map]
    conv => lhs; rw [← List.map_id (Lib.splitB ⟨#[c]⟩ 0 (Lib.countB s ⟨#[c]⟩) s)]
    exact List.map_congr_left fun x _ => (baL_list x).symm
  have hlen := Lib.countB_le ⟨#[c]⟩ (Nat.le_refl 1) s.size s (Nat.le_refl _)
  refine (Tryd.strings_Split s ⟨#[c]⟩ m w (by omega) hm (Nat.le_refl 1)).mono ?_
  rintro e w' ⟨rfl, rfl⟩
  rw [he] at hall ⊢
  refine ⟨_, rfl, ?_, bel_alloc (Below.refl _ _) _⟩
  have := World.ownsRow_lit (base := w.heap.size) (e := 9) (size := 1) w (((pcs s.data.toList c).map baL).map Value.string).toArray ((pcs s.data.toList c).map baL).length (Nat.le_refl _) (by unfold maxLen; rw [hall]; omega) (by simp)
  unfold SRow
  rw [← hall]
  simpa using this
theorem pcs_len (s : ByteArray) (c : UInt8) : (pcs s.data.toList c).length ≤ s.size + 1 := by
  have h2 : (Lib.splitB ⟨#[c]⟩ 0 (Lib.countB s ⟨#[c]⟩) s).map (·.data.toList) = pcs s.data.toList c := Lib.splitB_data ⟨#[c]⟩ 0 (Lib.countB s ⟨#[c]⟩) s
  have h3 := Lib.splitB_all ⟨#[c]⟩ (Nat.le_refl 1) 0 _ s rfl
  have h4 := Lib.countB_le ⟨#[c]⟩ (Nat.le_refl 1) s.size s (Nat.le_refl _)
  rw [← h2, List.length_map, h3]
  omega
theorem splitK_sub (b : UInt8) : ∀ (k : Nat) (l : List UInt8), ∀ z ∈ Lib.splitK [b] 0 k l, z.length ≤ l.length
  | 0, l, z, hz => by
    unfold Lib.splitK at hz
    rw [List.mem_singleton] at hz
    rw [hz]; exact Nat.le_refl _
  | k + 1, l, z, hz => by
    unfold Lib.splitK at hz
    split at hz
    · rw [List.mem_singleton] at hz
      rw [hz]; exact Nat.le_refl _
    · rw [List.mem_cons] at hz
      rcases hz with rfl | hz
      · simp <;> omega
      · have := splitK_sub b k _ z hz
        simp at this
        omega
theorem pcs_sub {l : List UInt8} {b : UInt8} {z : List UInt8} (h : z ∈ pcs l b) : z.length ≤ l.length := splitK_sub b _ l z h
/-- The wrap that hands the contract both what the row lays and the shape of its first world. -/
theorem handed_shp {H : Type} {enc : TypeId × Value → H} {a : Assume} {C : Checked} {os : Os} {f : FuncId} {fn : Func} {s : ChangeSpec} {conds : List PathCond} {apart fresh handsOn again : Bool} {X : World → Array Value → Prop}
    (hX : ∀ (w w' : World) (args : Array Value), w.heap = w'.heap → X w args → X w' args) (own : ownKnob C.prog.godebug = none) (started : os.Started) (noInit : C.prog.inits.idxOf? f = none) (hfn : C.prog.funcs[f]? = some fn)
    (wit : ∃ (w : World) (tape : Tape) (i : Input), w.os = os ∧ (w.forCall tape i).Shaped C.prog ∧ i.vars = [] ∧ Input.okWide C.prog (w.forCall tape i) .any w.heap.size f i ∧
      ((s.pre enc C.prog fn conds apart (w.forCall tape i).memory i.args ∧ X (w.forCall tape i).memory i.args) ∧ sizedMet enc C.prog fn (OpenSpec.ofChange s) apart (w.forCall tape i).memory i.args) ∧ a.holds C.prog (lone (Frame.enter C.prog f i.args .normal) [] (w.forCall tape i)))
    (con : ∀ (W : World) (base : Nat) (args : Array Value) (ds gs : List (DataW H)) (before : List MemPlace),
      (∀ (j : Nat) t v, fn.params[j]? = some t → args[j]? = some v → Value.okWide C.prog W .any base t v) → DataW.Whole enc C.prog fn.params.toList s.vars apart W args.toList ds gs before → X W args → W.ShapedOpen C.prog →
      Calls C.prog f args W fun e W' => ∃ v, e = .returned v ∧ s.post enc C.prog fn apart fresh handsOn again W args v W') :
    ReturnsInHanded a C os f .any (fun w args => (s.pre enc C.prog fn conds apart w args ∧ X w args) ∧ sizedMet enc C.prog fn (OpenSpec.ofChange s) apart w args) (s.post enc C.prog fn apart fresh handsOn again) := by
  refine returnsInHanded_of_calls own started noInit wit ?_
  intro w tape i _ hsh _ hok hpre _
  obtain ⟨_, _, _, fn', hfn', _, _, _, _, hval⟩ := hok
  obtain rfl : fn' = fn := Option.some.inj (hfn'.symm.trans hfn)
  obtain ⟨⟨⟨ds, gs, before, hw, hc⟩, hx⟩, _⟩ := hpre
  refine (con (w.forCall tape i) w.heap.size i.args ds gs before hval (DataW.Whole.of_heap (w' := w.forCall tape i) (by rfl) hw) (hX _ _ _ (by rfl) hx) hsh).mono fun e W' ⟨v, he, hp⟩ => ?_
  subst he
  exact ChangeSpec.post_blind hp
end Go.Proofs.YtbfgieolehbedaaDoor
