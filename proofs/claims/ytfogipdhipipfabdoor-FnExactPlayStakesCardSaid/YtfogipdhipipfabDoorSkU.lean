/- Paths of purses: pure part, contracts of a play. -/
import Derived.Test.YtfogipdhipipfabDoorSk
import Derived.Test.YtfogipdhipipfabDoorBoxW
import Derived.Test.YtfogipdhipipfabDoorRowI
import Derived.Test.YtfogipdhipipfabDoorPt
namespace Go.Proofs.YtfogipdhipipfabDoor
set_option linter.unusedSimpArgs false
open Go.ChangeShapes Go.WideShapes Go.ChangeAt Go.RowKit
set_option linter.unusedVariables false

theorem behindH_any (p g s : Int) (w : World) (h0 : 0 ≤ p) (h1 : p ≤ 16) (h2 : 0 ≤ s) (h3 : s ≤ 16) :
    Calls Tryd.prog 39 #[sk p g, .int .i64 s, .string ⟨#[104]⟩] w fun e w' => e = .returned (sk (p + s) g) ∧ Below w.heap.size w w' := by
  have hw : IntKind.i64.wrap (p + s) = p + s := IntWalk.i64_in _ (by omega)
  have hne : (@BEq.beq (List UInt8) _ (ByteArray.toList ⟨#[104]⟩) (ByteArray.toList ⟨#[116]⟩)) = false := by kernel_rfl
  go_enter Tryd.func39, Tryd.ntmps39
  go_wp2
  refine bodyPost_ret (v := sk (p + s) g) (by simp [results, Tryd.results39, go_sem]) rfl ⟨rfl, ?_⟩
  repeat (first | assumption | with_reducible exact Below.refl _ _ | refine bel_alloc ?_ _ | refine bel_drewN ?_ _ | refine Below.drew ?_ | (refine Below.setCell ?_ (by simp) _) | (refine bel_trans ?_ (by assumption)))
theorem behindT_any (p g s : Int) (w : World) (h0 : 0 ≤ p) (h1 : p ≤ 16) (h2 : 0 ≤ s) (h3 : s ≤ 16) :
    Calls Tryd.prog 39 #[sk p g, .int .i64 s, .string ⟨#[116]⟩] w fun e w' => e = .returned (sk (p - s) g) ∧ Below w.heap.size w w' := by
  have hw : IntKind.i64.wrap (-s) = -s := IntWalk.i64_in _ (by omega)
  have hw2 : IntKind.i64.wrap (p + -s) = p - s := by rw [show p + -s = p - s from by omega]; exact IntWalk.i64_in _ (by omega)
  have heq : (@BEq.beq (List UInt8) _ (ByteArray.toList ⟨#[116]⟩) (ByteArray.toList ⟨#[116]⟩)) = true := by kernel_rfl
  go_enter Tryd.func39, Tryd.ntmps39
  go_wp2
  refine bodyPost_ret (v := sk (p - s) g) (by simp [results, Tryd.results39, go_sem]) rfl ⟨rfl, ?_⟩
  repeat (first | assumption | with_reducible exact Below.refl _ _ | refine bel_alloc ?_ _ | refine bel_drewN ?_ _ | refine Below.drew ?_ | (refine Below.setCell ?_ (by simp) _) | (refine bel_trans ?_ (by assumption)))
/-- The purse behind a toss. -/
def mvP (c : UInt8) (p s : Int) : Int := if c = 104 then p + s else p - s
def sgnT (t : ByteArray) (k : Nat) : UInt8 := t.data.toList.getD k 0
theorem sgnT_get (t : ByteArray) (k : Nat) (hk : k < t.size) : t[k] = sgnT t k := by
  unfold sgnT
  rw [List.getD_eq_getElem?_getD, List.getElem?_eq_getElem (by simpa using hk)]
  rfl
theorem extT (t : ByteArray) (k : Nat) (hk : k < t.size) : t.extract k (k + 1) = ⟨#[sgnT t k]⟩ := by
  have e : (t.extract k (k + 1)).data.toList = [sgnT t k] := by
    unfold sgnT
    simp only [ByteArray.data_extract, Array.toList_extract, List.extract_eq_take_drop]
    rw [List.getD_eq_getElem?_getD]
    have hl : k < t.data.toList.length := by simpa using hk
    rw [show k + 1 - k = 1 from by omega, List.getElem?_eq_getElem hl, List.drop_eq_getElem_cons hl]
    rfl
  apply ByteArray.ext
  apply Array.toList_inj.1
  rw [e]
theorem sgnT_two (t : ByteArray) (k : Nat) (hk : k < t.size) (h : allT t = true) : sgnT t k = 104 ∨ sgnT t k = 116 := by
  have := (tosB_iff _).1 (allT_at t k hk h)
  rw [sgnT_get t k hk] at this
  rcases this with h | h
  · left; apply UInt8.toNat.inj; simpa using h
  · right; apply UInt8.toNat.inj; simpa using h
theorem behind_any (c : UInt8) (p g s : Int) (w : World) (hc : c = 104 ∨ c = 116) (h0 : 0 ≤ p) (h1 : p ≤ 16) (h2 : 0 ≤ s) (h3 : s ≤ 16) :
    Calls Tryd.prog 39 #[sk p g, .int .i64 s, .string ⟨#[c]⟩] w fun e w' => e = .returned (.agg #[.int .i64 (mvP c p s), .int .i64 g]) ∧ Below w.heap.size w w' := by
  rcases hc with rfl | rfl
  · exact behindH_any p g s w h0 h1 h2 h3
  · exact behindT_any p g s w h0 h1 h2 h3
theorem skToss_any (c : UInt8) (p s : Int) (w : World) (hc : c = 104 ∨ c = 116) (h0 : 0 ≤ p) (h1 : p ≤ 16) (h2 : 0 ≤ s) (h3 : s ≤ 16) :
    Calls Tryd.prog 35 #[.int .i64 p, .int .i64 s, .int .u8 (c.toNat : Int)] w fun e w' => e = .returned (.int .i64 (mvP c p s)) ∧ w = w' := by
  have hw : IntKind.i64.wrap (p + s) = p + s := IntWalk.i64_in _ (by omega)
  have hw2 : IntKind.i64.wrap (p - s) = p - s := IntWalk.i64_in _ (by omega)
  rcases hc with rfl | rfl
  · rw [show (((104 : UInt8).toNat : Nat) : Int) = 104 from rfl]
    go_enter Tryd.func35, Tryd.ntmps35
    go_wp2
    go_ret
    exact ⟨rfl, rfl⟩
  · rw [show (((116 : UInt8).toNat : Nat) : Int) = 116 from rfl]
    go_enter Tryd.func35, Tryd.ntmps35
    go_wp2
    go_ret
    exact ⟨rfl, rfl⟩
theorem skG_mv {p g s : Int} (c : UInt8) (h : skG p g = true) (h0 : 0 ≤ s) (h1 : s ≤ bd p g) : skG (mvP c p s) g = true := by
  obtain ⟨a, b, d, e⟩ := sk_in h
  obtain ⟨x, y, z, u⟩ := bd_in h
  unfold mvP
  split <;> exact sk_of (by omega) (by omega) (by omega) (by omega)
/-- The purse of bold play behind so many tosses. -/
def boP (t : ByteArray) (p g : Int) : Nat → Int
  | 0 => p
  | k + 1 => mvP (sgnT t k) (boP t p g k) (bd (boP t p g k) g)
theorem boP_good (t : ByteArray) {p g : Int} (h : skG p g = true) : ∀ k, skG (boP t p g k) g = true
  | 0 => h
  | k + 1 => skG_mv _ (boP_good t h k) (bd_in (boP_good t h k)).1 (Int.le_refl _)
def boL (t : ByteArray) (p g : Int) (k : Nat) : List Int := (List.range (k + 1)).map (boP t p g)
theorem boL_succ (t : ByteArray) (p g : Int) (k : Nat) : boL t p g k ++ [boP t p g (k + 1)] = boL t p g (k + 1) := by
  unfold boL
  rw [List.range_succ (n := k + 1), List.map_append]
  rfl
theorem boL_len (t : ByteArray) (p g : Int) (k : Nat) : (boL t p g k).length = k + 1 := by simp [boL]
theorem IRow.one (w : World) (x : Int) : IRow (w.alloc (.cells #[.int .i64 x] 3)) w.heap.size (.slice (some ⟨w.heap.size, 0, none⟩) 1 1) [x] := by
  have := World.ownsRow_lit (base := w.heap.size) (e := 3) (size := 1) w #[.int .i64 x] 1 (Nat.le_refl _) (by unfold maxLen; omega) (by simp)
  unfold IRow
  simpa using this
theorem IRow.setOther {W W' : World} {b k : Nat} {v : Value} {xs : List Int} (h : IRow W b v xs) (hg : W.grownBy W' (some k)) (hk : k < b) : IRow W' b v xs := by
  refine World.ownsRow.kept h hg ?_
  cases hv : v.ownBlock with
  | none => exact .inl rfl
  | some j =>
    refine .inr fun he => ?_
    have := (World.ownsRow.lt h j hv).1
    cases he
    omega
theorem BoxW.set0 {w : World} {k : Nat} {x y : Value} (h : BoxW w k x y) (u : Value) : BoxW (w.setCell ⟨k, 0, none⟩ u) k u y ∧ w.grownBy (w.setCell ⟨k, 0, none⟩ u) (some k) := by
  obtain ⟨⟨h0, h1, h2⟩, h3, h4⟩ := h
  refine ⟨⟨⟨?_, ?_, ?_⟩, ?_, ?_⟩, grown_one w k 0 u⟩
  all_goals simp [go_sem, h0, h1, h2, h3, h4]
theorem bel_undrawU {W w1 : World} (h : Below W.drew.heap.size W.drew w1) : Below W.heap.size W w1 := ⟨h.os, h.tape, h.output, h.size, h.block⟩
end Go.Proofs.YtfogipdhipipfabDoor
