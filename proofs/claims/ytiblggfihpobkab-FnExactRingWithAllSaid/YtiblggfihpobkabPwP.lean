/- Lists of prime words: what is of no program, and contracts of the library's functions over numbers. -/
import Derived.Test.YtiblggfihpobkabWoPi
import Derived.Test.YtiblggfihpobkabWoOf
namespace Go.Proofs.Ytiblggfihpobkab
set_option linter.unusedSimpArgs false
open Go.ChangeShapes Go.WideShapes Go.ChangeAt Go.RowKit
set_option linter.unusedVariables false

/-- x is one of the numbers. -/
def hasI (ls : List Int) (x : Int) : Bool := ls.contains x
def one (k : Nat) : ByteArray := alpha.extract k (k + 1)
theorem one_list (k : Nat) (hk : k < 26) : (one k).data.toList = [ltr k] := alpha_one k hk
theorem one_size (k : Nat) (hk : k < 26) : (one k).size = 1 := by rw [← len_list, one_list k hk]; rfl
/-- The word s, if it is one of the words asked for. -/
def hit (ls : List Int) (s : ByteArray) : List ByteArray := if hasI ls (s.size : Int) && isPr s then [s] else []
/-- The words asked for that begin with s and have at most d letters more, in the order in which they are looked at. -/
def dfs (n : Nat) (ls : List Int) : Nat → ByteArray → List ByteArray
  | 0, s => hit ls s
  | d + 1, s => hit ls s ++ (List.range n).flatMap fun k => dfs n ls d (s ++ one k)
def kids (n : Nat) (ls : List Int) (d : Nat) (s : ByteArray) (k : Nat) : List ByteArray := (List.range k).flatMap fun k => dfs n ls d (s ++ one k)
theorem kids_succ (n : Nat) (ls : List Int) (d : Nat) (s : ByteArray) (k : Nat) : kids n ls d s (k + 1) = kids n ls d s k ++ dfs n ls d (s ++ one k) := by
  unfold kids
  rw [List.range_succ, List.flatMap_append]
  simp
/-- The greatest of the first k + 1 numbers. -/
def mxI (ls : List Int) : Nat → Int
  | 0 => ls.getD 0 0
  | k + 1 => max (mxI ls k) (ls.getD (k + 1) 0)
/-- The cells of a slice of numbers that nobody writes. -/
def Cel (W : World) (g : Nat) (ls : List Int) : Prop := ∀ j, j < ls.length → W.cell? ⟨g, j, none⟩ = some (.int .i64 (ls.getD j 0))
theorem Cel.keep {W W' : World} {g B : Nat} {ls : List Int} (h : Cel W g ls) (hb : Below B W W') (hg : g < B) : Cel W' g ls := fun j hj => (hb.cell (p := ⟨g, j, none⟩) hg).trans (h j hj)
theorem has_no {ls : List Int} {x : Int} (h : ∀ j, j < ls.length → ¬ x = ls.getD j 0)   : hasI ls x = false := by
  unfold hasI
  rw [← Bool.not_eq_true, List.contains_iff_mem, List.mem_iff_getElem]
  rintro ⟨j, hj, e⟩
  exact h j hj (by rw [List.getD_eq_getElem?_getD, List.getElem?_eq_getElem hj]; exact e.symm)
theorem has_yes {ls : List Int} {x : Int} {j : Nat} (hj : j < ls.length) (h : x = ls.getD j 0) : hasI ls x = true := by
  unfold hasI
  rw [List.contains_iff_mem, h, List.getD_eq_getElem?_getD, List.getElem?_eq_getElem hj]
  exact List.getElem_mem _
set_option maxRecDepth 100000 in
set_option maxHeartbeats 1600000 in
theorem indexI_any (ls : List Int) (g cap : Nat) (x : Int) (w : World) (hC : Cel w g ls) (h1 : 1 ≤ ls.length) (h8 : ls.length ≤ 1000) :
    Calls Try.prog 84 #[.slice (some ⟨g, 0, none⟩) ls.length cap, .int .i64 x] w fun e w' => (∃ i : Int, e = .returned (.int .i64 i) ∧ decide (0 ≤ i) = hasI ls x) ∧ w = w' := by
  have HC := Lib.hid hC
  clear hC
  generalize hN : ls.length = N at *
  have HN := Lib.hid hN
  clear hN
  go_enter Try.func84, Try.ntmps84
  go_wp2_with fail
  go_loop [8] (fun i => ∃ k : Nat, k ≤ N ∧ i = .int .i64 k ∧ Hid (∀ j, j < k → ¬ x = ls.getD j 0)) (fun i => N - (intOf i).toNat)
  case atStart => exact ⟨0, by omega, rfl, fun _ h => by omega⟩
  case round =>
    obtain ⟨k, hk, rfl, hno⟩ := hrel
    by_cases hlt : k < N
    · have c0 := HC.out k (by rw [HN.out]; exact hlt)
      by_cases hx : x = ls.getD k 0
      · have hc : Hid (hasI ls x = true) := Lib.hid (has_yes (by rw [HN.out]; exact hlt) hx)
        rw [← hx] at c0
        clear hx
        go_wp2_with fail
        go_ret
        exact ⟨⟨(k : Int), rfl, by rw [hc.out]; simp⟩, rfl⟩
      · have hno2 : Hid (∀ j, j < k + 1 → ¬ x = ls.getD j 0) := Lib.hid fun j hj => by
          by_cases e : j = k
          · rw [e]; exact hx
          · exact hno.out j (by omega)
        generalize ls.getD k 0 = y at *
        have hxb : (x == y) = false := by simpa using hx
        go_wp2_with fail
        exact ⟨⟨k + 1, by omega, by go_num, hno2⟩, by simp [intOf]; omega⟩
    · have hc : Hid (hasI ls x = false) := Lib.hid (has_no fun j hj => hno.out j (by rw [HN.out] at hj; omega))
      go_wp2_with fail
      go_ret
      exact ⟨⟨-1, rfl, by rw [hc.out]; simp⟩, rfl⟩
theorem containsI_any (ls : List Int) (g cap : Nat) (x : Int) (w : World) (hC : Cel w g ls) (h1 : 1 ≤ ls.length) (h8 : ls.length ≤ 1000) :
    Calls Try.prog 71 #[.slice (some ⟨g, 0, none⟩) ls.length cap, .int .i64 x] w fun e w' => e = .returned (.bool (hasI ls x)) ∧ w = w' := by
  have HC := Lib.hid hC
  clear hC
  go_enter Try.func71, Try.ntmps71
  go_wp2_with fail
  refine (indexI_any ls g cap x _ HC.out h1 h8).mono ?_
  rintro e w' ⟨⟨i, rfl, hi⟩, rfl⟩
  go_wp2_with fail
  go_ret
  exact ⟨by rw [← hi]; rfl, rfl⟩
set_option maxRecDepth 100000 in
set_option maxHeartbeats 1600000 in
theorem maxI_any (ls : List Int) (g cap : Nat) (w : World) (hC : Cel w g ls) (h1 : 1 ≤ ls.length) (h8 : ls.length ≤ 1000) :
    Calls Try.prog 73 #[.slice (some ⟨g, 0, none⟩) ls.length cap] w fun e w' => e = .returned (.int .i64 (mxI ls (ls.length - 1))) ∧ w = w' := by
  have HC := Lib.hid hC
  have c00 := hC 0 (by omega)
  have m0 : Hid (mxI ls 0 = ls.getD 0 0) := rfl
  clear hC
  generalize hx0 : ls.getD 0 0 = x0 at *
  generalize hN : ls.length = N at *
  have HN := Lib.hid hN
  clear hN
  go_enter Try.func73, Try.ntmps73
  go_wp2_with fail
  go_loop [3, 4] (fun x i => ∃ k : Nat, k + 1 ≤ N ∧ i = .int .i64 ((k : Int) + 1) ∧ x = .int .i64 (mxI ls k)) (fun _ i => N - (intOf i).toNat)
  case atStart => exact ⟨0, by omega, rfl, by rw [m0.out]⟩
  case round =>
    obtain ⟨k, hk, rfl, rfl⟩ := hrel
    by_cases hlt : k + 1 < N
    · have c0 := HC.out (k + 1) (by rw [HN.out]; exact hlt)
      have hst : Hid (mxI ls (k + 1) = max (mxI ls k) (ls.getD (k + 1) 0)) := rfl
      generalize ls.getD (k + 1) 0 = y at *
      generalize mxI ls k = x at *
      go_wp2_with fail
      exact ⟨⟨k + 1, by omega, by go_num, by rw [hst.out]⟩, by simp [intOf]; omega⟩
    · obtain rfl : k = N - 1 := by omega
      go_wp2_with fail
      go_ret
      exact ⟨rfl, rfl⟩
end Go.Proofs.Ytiblggfihpobkab
