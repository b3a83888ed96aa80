/- A region that draws its order, in a round of a range over a function: by the laws for regions outside. Of no function of the program. -/
import Derived.Test.YthmdkbeccohjkaaDoorSsq
import Derived.Deep.RegionHeld3
namespace Go.Proofs.YthmdkbeccohjkaaDoor
set_option linter.unusedSimpArgs false
open Go.ChangeShapes Go.WideShapes Go.ChangeAt Go.RowKit Go.Shelf
set_option linter.unusedVariables false

theorem oper_in_round {P : Program} {n l : Nat} {o : Oper} {a : Act} {w : World} {K : Act → World → Prop} {Q : Exit → Act → World → Prop} (hd : ∀ c, o.op ≠ .defer c) (h : o.wp P a w K Q) : o.wpIn (Fence.wide.inRound l) n P a w K Q := by
  refine ⟨fun _ _ => trivial, ?_⟩
  rw [Oper.semAt_eq _ _ _ hd]
  unfold Oper.wp at h
  generalize (execOp a.eval o).run P w = r at h ⊢
  cases r with
  | ok x w' =>
    cases x with
    | enter f args => exact ⟨(fun hx => by cases hx), callsIn_wide.2 h⟩
    | row row args =>
      refine ⟨(fun hx => by cases hx), fun c cs _ => ?_⟩
      obtain ⟨v, w2, hr, hs⟩ := h c cs
      exact ⟨v, w2, hr, stepsIn_wide.2 hs⟩
    | _ => first | exact h | exact h.elim
  | halt x w' => cases x <;> first | exact h | exact h.elim
theorem anyIn_of_held {P : Program} {md : Region.Mode} {ops : Array Oper} {Q : Exit → Act → World → Prop} {S : World → Prop} {n l : Nat} (hq : ¬ LetsOut Q) (hd : ∀ (i : Nat) (o : Oper), ops[i]? = some o → ∀ c, o.op ≠ Op.defer c) :
    ∀ (fuel : Nat) (listed : Array Bool) (a : Act) (w : World), wpAnyH P md ops Q S fuel listed a w → wpAnyIn (Fence.wide.inRound l) n P md ops Q fuel listed a w
  | 0, _, _, _, h => h
  | fuel + 1, listed, a, w, h => ⟨h.1, fun i hi => by
    have hh := h.2 i hi
    unfold wpOp at hh
    unfold wpOpIn
    cases ho : ops[i]? with
    | none => rw [ho] at hh; exact anyIn_of_held hq hd fuel _ _ _ hh.2
    | some o =>
      rw [ho] at hh
      dsimp only at hh ⊢
      split
      · rename_i hw
        rw [if_pos hw] at hh
        rcases hh with hh | hh
        · exact oper_in_round (hd i o ho) (Oper.wp_mono (fun a' w' h' => anyIn_of_held hq hd fuel _ _ _ h'.2) hh)
        · exact absurd hh.2 hq
      · rename_i hw
        rw [if_neg hw] at hh
        exact ⟨fun _ _ => trivial, anyIn_of_held hq hd fuel _ _ _ hh.2⟩⟩
theorem wpIn_region_held {P : Program} {ops : Array Oper} {Q : Exit → Act → World → Prop} {S : World → Prop} {n l id : Nat} {a : Act} {w : World} (hm : P.follows .mixedOrders = true) (hq : ¬ LetsOut Q)
    (hd : (ops.all fun o => match o.op with | .defer _ => false | _ => true) = true) (hS : S w.drew)
    (h : S w.drew → wpAnyH P .any ops Q S ops.size (Array.replicate ops.size false) a w.drew) : (Code.region id ops true).wpIn (Fence.wide.inRound l) n P Q a w :=
  wpIn_region_any hm (anyIn_of_held hq (fun i o ho c hc => by
    have hlt := (Array.getElem?_eq_some_iff.1 ho).1
    have he := (Array.getElem?_eq_some_iff.1 ho).2
    have := (Array.all_eq_true.1 hd) i hlt
    rw [he, hc] at this
    cases this) _ _ _ _ (h hS))
theorem goesOn_out {α : Type} {Kp : World → World → Prop} {I : List α → World → Prop} {xs : List α} {W : World} : ¬ LetsOut (goesOn Kp I xs W) := fun ⟨_, _, h⟩ => h
/-- The iterator of strings.SplitSeq keeps the word of an iterator with a variable. -/
theorem split_var (n : Nat) (hn : 1 ≤ n) (b L : Nat) (c : UInt8) (t : List UInt8) (w : World) (hL : L ≤ 1048576) (ht : t.length ≤ L) (hV : Vars w b (baL t) c) :
    SeqVar Fence.wide n Tryd.prog 109 #[.pointer (some ⟨b + 1, 0, none⟩), .pointer (some ⟨b, 0, none⟩), .pointer (some ⟨b + 2, 0, none⟩)] (encS (L := L)) (KpV b) (fun ys => ys.map (fun x => x.1) = pcs t c) (L + 1) b w := by
  intro l J W hW hJ hY h0
  have hlt := fun (k : Nat) (o : Obj) (h : w.heap[k]? = some o) => (hW.block k (Array.getElem?_eq_some_iff.1 h).1).trans h
  exact split1_in n hn l b L c t hL ht J (fun ys A s h => hJ ys A _ (some b) h (grownBy_setCell' A b _) (fun r e => by cases e; exact .inl rfl)) hY W ⟨hlt _ _ hV.1, hlt _ _ hV.2.1, hlt _ _ hV.2.2⟩ h0
end Go.Proofs.YthmdkbeccohjkaaDoor
