/- The word with a rank: the contract of the model. -/
import Derived.Test.YtiblggfihpobkabWoPw
namespace Go.Proofs.Ytiblggfihpobkab
set_option linter.unusedSimpArgs false
open Go.ChangeShapes Go.WideShapes Go.ChangeAt Go.RowKit
set_option linter.unusedVariables false

def ltr (k : Nat) : UInt8 := UInt8.ofNat (97 + k)
/-- The letters of the word of L letters with the rank r. -/
def wdL (n : Nat) : Nat → Nat → List UInt8
  | 0, _ => []
  | L + 1, r => wdL n L (r / n) ++ [ltr (r % n)]
theorem wdL_len (n : Nat) : ∀ L r, (wdL n L r).length = L
  | 0, _ => rfl
  | L + 1, r => by unfold wdL; rw [List.length_append, wdL_len n L]; rfl
def wdB (n L r : Nat) : ByteArray := ⟨(wdL n L r).toArray⟩
theorem wdB_list (n L r : Nat) : (wdB n L r).data.toList = wdL n L r := rfl
theorem wdB_size (n L r : Nat) : (wdB n L r).size = L := by
  rw [← len_list, wdB_list, wdL_len]
def oneChk : Bool := (List.range 26).all fun k => (alpha.data.toList.take (k + 1)).drop k == [ltr k]
theorem oneChk_ok : oneChk = true := by kernel_rfl
theorem alpha_one (k : Nat) (hk : k < 26) : (alpha.extract k (k + 1)).data.toList = [ltr k] := by
  have h := oneChk_ok
  unfold oneChk at h
  rw [List.all_eq_true] at h
  have h1 := h k (List.mem_range.2 hk)
  rw [ext_list]
  exact eq_of_beq h1
theorem rem_nat2 (a b : Nat) : (a : Int).tmod (b : Int) = ((a % b : Nat) : Int) := by rw [Int.tmod_eq_emod_of_nonneg (by omega)]; rfl
theorem quo_nat2 (a b : Nat) : (a : Int).tdiv (b : Int) = ((a / b : Nat) : Int) := by rw [Int.tdiv_eq_ediv_of_nonneg (by omega)]; rfl
set_option maxRecDepth 100000 in
set_option maxHeartbeats 1600000 in
theorem woOf_any (n L r : Nat) (w : World) (n1 : 1 ≤ n) (n2 : n ≤ 26) (h8 : L ≤ 8) (hr : r ≤ 1000000000000) :
    Calls Try.prog 50 #[.int .i64 n, .int .i64 L, .int .i64 r] w fun e w' => e = .returned (.string (wdB n L r)) ∧ w = w' := by
  have hn0 : ¬ (n : Int) = 0 := by omega
  have hnn : ¬ n = 0 := by omega
  have hnb : ((n : Int) == 0) = false := by simpa using hn0
  have hnc : (n == 0) = false := by simpa using hnn
  go_enter Try.func50, Try.ntmps50
  go_wp2_with fail
  go_loop [1, 2, 7, 8] (fun i x o _ => ∃ (m q : Nat) (out : ByteArray), m ≤ L ∧ q ≤ 1000000000000 ∧ out.size + m = L ∧ i = .int .i64 m ∧ x = .int .i64 q ∧ o = .string out ∧ Hid (wdL n m q ++ out.data.toList = wdL n L r)) (fun i _ _ _ => (intOf i).toNat)
  case atStart => exact ⟨L, r, ⟨#[]⟩, Nat.le_refl _, hr, by show 0 + L = L; omega, rfl, rfl, rfl, Lib.hid (List.append_nil _)⟩
  case round =>
    obtain ⟨m, q, out, hm, hq, hsz, rfl, rfl, rfl, hinv⟩ := hrel
    cases m with
    | zero =>
      have hfin : Hid (out = wdB n L r) := Lib.hid (ba_eq.2 (by rw [wdB_list]; exact hinv.out))
      go_wp2_with fail
      go_ret
      exact ⟨by rw [← hfin.out]; rfl, rfl⟩
    | succ j =>
      obtain ⟨k, hk⟩ : ∃ k, k = q % n := ⟨_, rfl⟩
      obtain ⟨d, hd⟩ : ∃ d, d = q / n := ⟨_, rfl⟩
      have htm := rem_nat2 q n
      have hem : (q : Int) % (n : Int) = ((q % n : Nat) : Int) := rfl
      have htd := quo_nat2 q n
      have hed : (q : Int) / (n : Int) = ((q / n : Nat) : Int) := rfl
      rw [← hk] at htm hem
      rw [← hd] at htd hed
      have hk26 : k < 26 := by rw [hk]; exact Nat.lt_of_lt_of_le (Nat.mod_lt _ (by omega)) n2
      have hdq : d ≤ 1000000000000 := by rw [hd]; exact Nat.le_trans (Nat.div_le_self _ _) hq
      have h1 := alpha_one k hk26
      have hs1 : (alpha.extract k (k + 1)).size = 1 := by rw [← len_list, h1]; rfl
      have hinv2 : Hid (wdL n j d ++ (alpha.extract k (k + 1) ++ out).data.toList = wdL n L r) := by
        refine Lib.hid ?_
        rw [ByteArray.data_append, Array.toList_append, h1, ← hinv.out, hk, hd]
        show _ = (wdL n j (q / n) ++ [ltr (q % n)]) ++ out.data.toList
        rw [List.append_assoc]
      have hsz2 : Hid ((alpha.extract k (k + 1) ++ out).size + j = L) := by
        refine Lib.hid ?_
        rw [ByteArray.size_append, hs1]
        omega
      have t1 : ¬ 9223372036854775807 < (alpha.extract k (k + 1)).size + out.size := by omega
      have ha : alpha = (⟨#[97, 98, 99, 100, 101, 102, 103, 104, 105, 106, 107, 108, 109, 110, 111, 112, 113, 114, 115, 116, 117, 118, 119, 120, 121, 122]⟩ : ByteArray) := rfl
      have hw1 : IntKind.i64.wrap (k : Int) = (k : Int) := IntWalk.i64_in _ (by omega)
      have hw2 : IntKind.i64.wrap (d : Int) = (d : Int) := IntWalk.i64_in _ (by omega)
      have Hk := Lib.hid hk
      have Hd := Lib.hid hd
      clear hk hd h1 hs1
      rw [ha] at t1 hinv2 hsz2
      clear ha
      go_wp2_with fail
      exact ⟨⟨j, d, _, by omega, hdq, hsz2.out, by go_num, rfl, rfl, hinv2⟩, by simp [intOf]⟩
end Go.Proofs.Ytiblggfihpobkab
