/- Contracts of the methods of a weather: a chain with a day. -/
import Derived.Test.YtggflgmjncjmbaaDays
import Derived.Deep.RegionHeld3
namespace Go.Proofs.Ytggflgmjncjmbaa
set_option linter.unusedSimpArgs false
open Go.ChangeShapes Go.WideShapes Go.ChangeAt Go.RowKit
set_option linter.unusedVariables false

abbrev wth (a b c d : Int) : Value := .agg #[.int .i64 a, .int .i64 b, .int .i64 c, .int .u8 d]
/-- The chance that the other weather follows, in parts of c. -/
def chg (a b d : Int) : Int := if d = 100 then a else b

theorem chg_dry (a b : Int) : chg a b 100 = a := by simp [chg]
theorem chg_wet (a b : Int) : chg a b 119 = b := by simp [chg]

def Box4 (w : World) (k : Nat) (x y z u : Value) : Prop := w.cell? ⟨k, 0, none⟩ = some x ∧ w.cell? ⟨k, 1, none⟩ = some y ∧ w.cell? ⟨k, 2, none⟩ = some z ∧ w.cell? ⟨k, 3, none⟩ = some u ∧ k < w.heap.size
theorem Box4.new (w : World) (x y z u : Value) (t : TypeId) : Box4 (w.alloc (.cells #[x, y, z, u] t)) w.heap.size x y z u := by
  refine ⟨?_, ?_, ?_, ?_, ?_⟩ <;> simp [go_sem]
theorem Box4.keep {w w1 : World} {k : Nat} {x y z u : Value} (h : Box4 w k x y z u) (hb : Below w.heap.size w w1) : Box4 w1 k x y z u :=
  ⟨(hb.cell (p := ⟨k, 0, none⟩) h.2.2.2.2).trans h.1, (hb.cell (p := ⟨k, 1, none⟩) h.2.2.2.2).trans h.2.1, (hb.cell (p := ⟨k, 2, none⟩) h.2.2.2.2).trans h.2.2.1, (hb.cell (p := ⟨k, 3, none⟩) h.2.2.2.2).trans h.2.2.2.1, Nat.lt_of_lt_of_le h.2.2.2.2 hb.size⟩

theorem changing_any (a b c d : Int) (w : World) (hd : d = 100 ∨ d = 119) :
    Calls Try.prog 108 #[wth a b c d] w fun e w' => e = .returned (.int .i64 (chg a b d)) ∧ Below w.heap.size w w' := by
  rcases hd with rfl | rfl
  · go_enter Try.func108, Try.ntmps108
    go_wp2
    go_ret
    exact ⟨by rw [chg_dry]; rfl, bel_alloc (Below.refl _ _) _⟩
  · go_enter Try.func108, Try.ntmps108
    go_wp2
    go_ret
    exact ⟨by rw [chg_wet]; rfl, bel_alloc (Below.refl _ _) _⟩

def dayV (d : Int) : Prop := d = 100 ∨ d = 119
def inR (a b c : Int) : Prop := 0 ≤ a ∧ a ≤ c ∧ 0 ≤ b ∧ b ≤ c ∧ 1 ≤ c ∧ c ≤ 10
theorem chg_in {a b c : Int} (h : inR a b c) (d : Int) : 0 ≤ chg a b d ∧ chg a b d ≤ c := by
  unfold inR at h; unfold chg; split <;> omega

/-- What a drawn region knows of the block k that the call has made, and of the world w in which the call began. -/
theorem held_new {w : World} {x y z u : Value} {t : TypeId} : let W := (w.alloc (.cells #[x, y, z, u] t)).drew
    W.cell? ⟨w.heap.size, 0, none⟩ = some x ∧ W.cell? ⟨w.heap.size, 1, none⟩ = some y ∧ W.cell? ⟨w.heap.size, 2, none⟩ = some z ∧ W.cell? ⟨w.heap.size, 3, none⟩ = some u ∧ w.heap.size < W.heap.size ∧ Below w.heap.size w W := by
  have bx := Box4.new w x y z u t
  exact ⟨bx.1, bx.2.1, bx.2.2.1, bx.2.2.2.1, bx.2.2.2.2, (bel_alloc (Below.refl _ _) _).drew⟩
theorem held_keep {w W w1 : World} {k : Nat} {x y z u : Value} (h : W.cell? ⟨k, 0, none⟩ = some x ∧ W.cell? ⟨k, 1, none⟩ = some y ∧ W.cell? ⟨k, 2, none⟩ = some z ∧ W.cell? ⟨k, 3, none⟩ = some u ∧ k < W.heap.size ∧ Below w.heap.size w W)
    (hb : Below W.heap.size W w1) : w1.cell? ⟨k, 0, none⟩ = some x ∧ w1.cell? ⟨k, 1, none⟩ = some y ∧ w1.cell? ⟨k, 2, none⟩ = some z ∧ w1.cell? ⟨k, 3, none⟩ = some u ∧ k < w1.heap.size ∧ Below w.heap.size w w1 := by
  have b : Box4 w1 k x y z u := Box4.keep ⟨h.1, h.2.1, h.2.2.1, h.2.2.2.1, h.2.2.2.2.1⟩ hb
  exact ⟨b.1, b.2.1, b.2.2.1, b.2.2.2.1, b.2.2.2.2, bel_trans h.2.2.2.2.2 hb⟩

theorem held_below {w W : World} {k : Nat} {x y z u : Value} (h : W.cell? ⟨k, 0, none⟩ = some x ∧ W.cell? ⟨k, 1, none⟩ = some y ∧ W.cell? ⟨k, 2, none⟩ = some z ∧ W.cell? ⟨k, 3, none⟩ = some u ∧ k < W.heap.size ∧ Below w.heap.size w W) : Below w.heap.size w W := h.2.2.2.2.2

set_option maxHeartbeats 400000 in
theorem staying_any (a b c d : Int) (w : World) (hd : dayV d) (hr : inR a b c) :
    Calls Try.prog 110 #[wth a b c d] w fun e w' => e = .returned (.int .i64 (c - chg a b d)) ∧ Below w.heap.size w w' := by
  obtain ⟨h0, h1⟩ := chg_in hr d
  have hc : 1 ≤ c ∧ c ≤ 10 := by unfold inR at hr; omega
  obtain ⟨hc0, hc1⟩ := hc
  generalize hx : chg a b d = x at *
  have Hx := Lib.hid hx
  clear hx
  have hw : IntKind.i64.wrap (c - x) = c - x := IntWalk.i64_in _ (by omega)
  go_enter Try.func110, Try.ntmps110
  go_wp2_with fail
  go_region_held3 (fun w' => w'.cell? ⟨w.heap.size, 0, none⟩ = some (.int .i64 a) ∧ w'.cell? ⟨w.heap.size, 1, none⟩ = some (.int .i64 b) ∧ w'.cell? ⟨w.heap.size, 2, none⟩ = some (.int .i64 c) ∧ w'.cell? ⟨w.heap.size, 3, none⟩ = some (.int .u8 d) ∧ w.heap.size < w'.heap.size ∧ Below w.heap.size w w')
    (first | exact held_new | exact held_keep (by assumption) hb1 | go_keep)
    (first | (go_at_call 108; refine (changing_any _ _ _ _ _ hd).mono ?_; rintro e w1 ⟨rfl, hb1⟩; rw [Hx.out]))
  go_wp2
  go_ret
  exact ⟨rfl, held_below (by assumption)⟩

theorem turned_any (a b c d : Int) (w : World) (hd : dayV d) :
    Calls Try.prog 109 #[wth a b c d] w fun e w' => e = .returned (wth a b c (219 - d)) ∧ Below w.heap.size w w' := by
  rcases hd with rfl | rfl
  · go_enter Try.func109, Try.ntmps109
    go_wp2
    refine bodyPost_ret (v := wth a b c 119) (by simp [results, Try.results109, go_sem]) rfl ⟨rfl, ?_⟩
    exact bel_alloc (bel_alloc (Below.refl _ _) _) _
  · go_enter Try.func109, Try.ntmps109
    go_wp2
    refine bodyPost_ret (v := wth a b c 100) (by simp [results, Try.results109, go_sem]) rfl ⟨rfl, ?_⟩
    exact bel_alloc (bel_alloc (Below.refl _ _) _) _

/-- The chance that the day e follows the day d, in parts of c. -/
def stp (a b c d e : Int) : Int := if d = e then c - chg a b d else chg a b d

set_option maxHeartbeats 400000 in
theorem stepTo_any (a b c d f : Int) (w : World) (hd : dayV d) (hf : dayV f) (hr : inR a b c) :
    Calls Try.prog 104 #[wth a b c d, wth a b c f] w fun e w' => e = .returned (.int .i64 (stp a b c d f)) ∧ Below w.heap.size w w' := by
  by_cases h : d = f
  · subst h
    have hs : stp a b c d d = c - chg a b d := by simp [stp]
    rw [hs]
    clear hs
    go_enter Try.func104, Try.ntmps104
    go_wp2_with fail
    refine (staying_any _ _ _ _ _ hd hr).mono ?_
    rintro e w1 ⟨rfl, hb1⟩
    go_wp2_with fail
    go_ret
    exact ⟨rfl, bel_trans (bel_alloc (bel_alloc (Below.refl _ _) _) _) hb1⟩
  · have hs : stp a b c d f = chg a b d := by simp [stp, h]
    have hn : (d == f) = false := by simpa using h
    rw [hs]
    clear hs
    go_enter Try.func104, Try.ntmps104
    go_wp2_with fail
    refine (changing_any _ _ _ _ _ hd).mono ?_
    rintro e w1 ⟨rfl, hb1⟩
    go_wp2_with fail
    go_ret
    exact ⟨rfl, bel_trans (bel_alloc (bel_alloc (Below.refl _ _) _) _) hb1⟩
end Go.Proofs.Ytggflgmjncjmbaa
