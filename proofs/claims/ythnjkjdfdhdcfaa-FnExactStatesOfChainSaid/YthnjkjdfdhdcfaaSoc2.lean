/- Contracts of StatesOfChain of the model. -/
import Derived.Test.YthnjkjdfdhdcfaaSoc
namespace Go.Proofs.Ythnjkjdfdhdcfaa
open Go.ChangeShapes Go.WideShapes Go.ChangeAt Go.RowKit
set_option linter.unusedVariables false

def rowsS (a b c : Int) : List (List Int) := [[c - a, a], [b, c - b]]
def lS (a b c : Int) : Int := if good a b c then c else 0
def mS (a b c : Int) : List (List Int) := if good a b c then rowsS a b c else []
theorem IRow.lit2 (W : World) (x y : Int) : IRow (W.alloc (.cells #[.int .i64 x, .int .i64 y] 3)) W.heap.size (.slice (some ⟨W.heap.size, 0, none⟩) 2 2) [x, y] := by
  have h := World.ownsRow_lit (base := W.heap.size) (e := 3) (size := 1) W #[.int .i64 x, .int .i64 y] 2 (Nat.le_refl _) (by simp [maxLen]) (by simp)
  simpa [IRow] using h
theorem OwnM.lit2 (W : World) (x y u z : Int) (k0 k1 : Nat) (h0 : k0 = W.heap.size) (h1 : k1 = W.heap.size + 1) :
    OwnM (((W.alloc (.cells #[.int .i64 x, .int .i64 y] 3)).alloc (.cells #[.int .i64 u, .int .i64 z] 3)).alloc (.cells #[.slice (some ⟨k0, 0, none⟩) 2 2, .slice (some ⟨k1, 0, none⟩) 2 2] 34)) W.heap.size (W.heap.size + 3) (.slice (some ⟨W.heap.size + 2, 0, none⟩) 2 2) [[x, y], [u, z]] := by
  subst h0 h1
  generalize hA : W.alloc (.cells #[.int .i64 x, .int .i64 y] 3) = A
  have rA : IRow A W.heap.size (.slice (some ⟨W.heap.size, 0, none⟩) 2 2) [x, y] := by rw [← hA]; exact IRow.lit2 W x y
  have sA : A.heap.size = W.heap.size + 1 := by rw [← hA]; simp
  clear hA
  generalize hB : A.alloc (.cells #[.int .i64 u, .int .i64 z] 3) = B
  have rA' : IRow B W.heap.size (.slice (some ⟨W.heap.size, 0, none⟩) 2 2) [x, y] := by rw [← hB]; exact World.ownsRow.alloc rA _
  have rB : IRow B W.heap.size (.slice (some ⟨W.heap.size + 1, 0, none⟩) 2 2) [u, z] := by
    rw [← hB, ← sA]; exact IRow.mono (IRow.lit2 A u z) (by omega)
  have sB : B.heap.size = W.heap.size + 2 := by rw [← hB]; simp; omega
  clear hB
  have hO := World.ownsRow_lit (base := W.heap.size) (e := 34) (size := 1) B #[.slice (some ⟨W.heap.size, 0, none⟩) 2 2, .slice (some ⟨W.heap.size + 1, 0, none⟩) 2 2] 2 (by omega) (by simp [maxLen]) (by simp)
  rw [sB] at hO
  refine ⟨by simp; omega, [.slice (some ⟨W.heap.size, 0, none⟩) 2 2, .slice (some ⟨W.heap.size + 1, 0, none⟩) 2 2], hO, fun k hk => ?_, fun i => ?_, fun i j hij k hk => ?_⟩
  · simp [Value.ownBlock] at hk; omega
  · match i with
    | 0 => exact ⟨World.ownsRow.alloc rA' _, fun k hk => by simp [Value.ownBlock] at hk; omega⟩
    | 1 => exact ⟨World.ownsRow.alloc rB _, fun k hk => by simp [Value.ownBlock] at hk; omega⟩
    | i + 2 => exact ⟨IRow.nil _ _, fun k hk => by simp [Value.ownBlock] at hk⟩
  · match i, j with
    | 0, 1 => simp [Value.ownBlock] at hk ⊢; omega
    | 0, j + 2 => simp [Value.ownBlock]
    | 1, j + 2 => simp [Value.ownBlock]
    | i + 2, j => simp [Value.ownBlock] at hk

theorem specSoc_any (a b c : Int) (w : World) :
    Calls Try.prog 64 #[chn a b c] w fun e w' => ∃ v, e = .returned (.tuple #[sts (lS a b c) v, .bool (good a b c)]) ∧ OwnM w' w.heap.size w'.heap.size v (mS a b c) ∧ Below w.heap.size w w' := by
  cases hg : good a b c with
  | false =>
    have e1 : lS a b c = 0 := by simp [lS, hg]
    have e2 : mS a b c = [] := by simp [mS, hg]
    rw [e1, e2]
    go_enter Try.func64, Try.ntmps64
    go_wp2_with fail
    refine (cnGood_any a b c _).mono ?_
    rw [hg]
    rintro e w1 ⟨rfl, hb1⟩
    have hs1 := hb1.size
    obtain ⟨hc, hf⟩ := bcell hb1
    simp at hs1
    have hbl := bel_trans (bel_alloc (bel_alloc (Below.refl _ w) _) _) hb1
    go_wp2
    refine bodyPost_ret (v := .tuple #[sts 0 nilS, .bool false]) (by simp [results, Try.results64, go_sem, hc, hs1]) rfl ⟨_, rfl, OwnM.empty _ (Nat.le_refl _), ?_⟩
    refine Below.setCell ?_ (by first | (dsimp only; omega) | simp) _
    refine Below.setCell ?_ (by first | (dsimp only; omega) | simp) _
    exact hbl
  | true =>
    have HR := Lib.hid (inR_of hg)
    have hr := HR.out
    unfold inR at hr
    obtain ⟨h0, h1, h2, h3, h4, h5⟩ := hr
    have e1 : lS a b c = c := by simp [lS, hg]
    have e2 : mS a b c = rowsS a b c := by simp [mS, hg]
    rw [e1, e2]
    have bx := Lib.hid (Box3.new w (.int .i64 a) (.int .i64 b) (.int .i64 c) 63)
    go_enter Try.func64, Try.ntmps64
    go_wp2_with fail
    refine (cnGood_any a b c _).mono ?_
    rw [hg]
    rintro e w1 ⟨rfl, hb1⟩
    have hs1 := hb1.size
    obtain ⟨hc, hf⟩ := bcell hb1
    have hbl := bel_trans (bel_alloc (bel_alloc (Below.refl _ w) _) _) hb1
    have bx1 := (bx.out.keep (bel_alloc (Below.refl _ _) (.cells #[.int .i64 0, nilS] 27))).keep hb1
    have r0 : w1.cell? ⟨w.heap.size + 1, 0, none⟩ = some (.int .i64 0) := by rw [hc _ _ (by simp)]; simp [go_sem]
    have r1 : w1.cell? ⟨w.heap.size + 1, 1, none⟩ = some nilS := by rw [hc _ _ (by simp)]; simp [go_sem]
    have f0 : w1.frozen? ⟨w.heap.size + 1, 0, none⟩ = false := by rw [hf _ _ (by simp)]; simp [go_sem]
    have f1 : w1.frozen? ⟨w.heap.size + 1, 1, none⟩ = false := by rw [hf _ _ (by simp)]; simp [go_sem]
    simp at hs1
    obtain ⟨b0, b1, b2, b3⟩ := bx1
    have n5 : w.heap.size + 1 < w1.heap.size := by omega
    clear hc hf hb1 bx
    go_wp2
    generalize hW : (w1.setCell ⟨w.heap.size + 1, 0, none⟩ (.int .i64 c)).setCell ⟨w.heap.size + 1, 1, none⟩ (.slice (some ⟨w1.heap.size + 1 + 1, 0, none⟩) 2 2) = W
    have sW : W.heap.size = w1.heap.size := by rw [← hW]; simp [World.setCell]
    have cW0 : W.cell? ⟨w.heap.size + 1, 0, none⟩ = some (.int .i64 c) := by rw [← hW]; simp [go_sem, r0, r1, f0, f1]
    have cW1 : W.cell? ⟨w.heap.size + 1, 1, none⟩ = some (.slice (some ⟨w1.heap.size + 1 + 1, 0, none⟩) 2 2) := by rw [← hW]; simp [go_sem, r0, r1, f0, f1]
    have bW : Below w.heap.size w W := by
      rw [← hW]
      refine Below.setCell ?_ (by first | (dsimp only; omega) | simp) _
      refine Below.setCell ?_ (by first | (dsimp only; omega) | simp) _
      exact hbl
    have n6 : w.heap.size + 1 < W.heap.size := by omega
    rw [← sW] at *
    clear hW
    have q := OwnM.lit2 W (c - a) a b (c - b) W.heap.size (W.heap.size + 1) rfl rfl
    have q2 := OwnM.more (OwnM.low q (lo' := w.heap.size) (by omega)) (by simp) (Nat.le_refl _)
    have bZ := bel_alloc (bel_alloc (bel_alloc (Below.refl _ W) (.cells #[.int .i64 (c - a), .int .i64 a] 3)) (.cells #[.int .i64 b, .int .i64 (c - b)] 3)) (.cells #[.slice (some ⟨W.heap.size, 0, none⟩) 2 2, .slice (some ⟨W.heap.size + 1, 0, none⟩) 2 2] 34)
    have cZ0 := (bZ.cell (p := ⟨w.heap.size + 1, 0, none⟩) n6).trans cW0
    have cZ1 := (bZ.cell (p := ⟨w.heap.size + 1, 1, none⟩) n6).trans cW1
    have bQ := bel_trans bW bZ
    refine bodyPost_ret (v := .tuple #[sts c (.slice (some ⟨W.heap.size + 1 + 1, 0, none⟩) 2 2), .bool true]) (by simp [results, Try.results64, go_sem, cZ0, cZ1]) rfl ⟨_, rfl, q2, bQ⟩
end Go.Proofs.Ythnjkjdfdhdcfaa
