/- Lists of prime words: the search finds them in the order of their ranks. -/
import Derived.Test.YtiblggfihpobkabPwP
namespace Go.Proofs.Ytiblggfihpobkab
set_option linter.unusedSimpArgs false
open Go.ChangeShapes Go.WideShapes Go.ChangeAt Go.RowKit
set_option linter.unusedVariables false

def hit1 (t : ByteArray) : List ByteArray := if isPr t then [t] else []
theorem wd_lead (n : Nat) (n1 : 1 ≤ n) : ∀ d k r, k < n → r < n ^ d → wdL n (d + 1) (k * n ^ d + r) = ltr k :: wdL n d r
  | 0, k, r, hk, hr => by
    rw [Nat.pow_zero] at hr
    obtain rfl : r = 0 := by omega
    rw [Nat.pow_zero, Nat.mul_one, Nat.add_zero]
    show wdL n 0 (k / n) ++ [ltr (k % n)] = _
    rw [Nat.mod_eq_of_lt hk]
    rfl
  | d + 1, k, r, hk, hr => by
    have h1 : (k * n ^ (d + 1) + r) / n = k * n ^ d + r / n := by
      rw [Nat.pow_succ, ← Nat.mul_assoc, Nat.add_comm, Nat.add_mul_div_right _ _ (by omega), Nat.add_comm]
    have h2 : (k * n ^ (d + 1) + r) % n = r % n := by
      rw [Nat.pow_succ, ← Nat.mul_assoc, Nat.add_comm, Nat.add_mul_mod_self_right]
    have h3 : r / n < n ^ d := by
      rw [Nat.div_lt_iff_lt_mul (by omega), ← Nat.pow_succ]
      exact hr
    show wdL n (d + 1) ((k * n ^ (d + 1) + r) / n) ++ [ltr ((k * n ^ (d + 1) + r) % n)] = _
    rw [h1, h2, wd_lead n n1 d k (r / n) hk h3]
    rfl
theorem range_mul {α : Type} (f : Nat → List α) (m : Nat) : ∀ n, (List.range (n * m)).flatMap f = (List.range n).flatMap fun k => (List.range m).flatMap fun r => f (k * m + r)
  | 0 => by simp
  | n + 1 => by
    rw [Nat.succ_mul, List.range_add, List.flatMap_append, range_mul f m n, List.range_succ, List.flatMap_append]
    congr 1
    rw [List.flatMap_map]
    simp
theorem flat_congr {α β : Type} {f g : α → List β} : ∀ l : List α, (∀ x ∈ l, f x = g x) → l.flatMap f = l.flatMap g
  | [], _ => rfl
  | a :: l, h => by
    rw [List.flatMap_cons, List.flatMap_cons, h a (by simp), flat_congr l (fun x hx => h x (by simp [hx]))]
theorem wdB_zero (n r : Nat) : wdB n 0 r = ByteArray.empty := rfl
theorem app_empty (s : ByteArray) : s ++ ByteArray.empty = s := by
  rw [ba_eq, ByteArray.data_append, Array.toList_append]
  show s.data.toList ++ [] = _
  rw [List.append_nil]
theorem dfs_all (n L : Nat) (n1 : 1 ≤ n) (n2 : n ≤ 26) : ∀ d s, s.size + d = L → dfs n [(L : Int)] d s = (List.range (n ^ d)).flatMap fun r => hit1 (s ++ wdB n d r)
  | 0, s, hs => by
    show hit [(L : Int)] s = _
    rw [Nat.pow_zero, show List.range 1 = [0] from rfl, List.flatMap_singleton, wdB_zero, app_empty]
    unfold hit hit1 hasI
    rw [show [(L : Int)].contains (s.size : Int) = true from by simp; omega]
    rfl
  | d + 1, s, hs => by
    show hit [(L : Int)] s ++ kids n [(L : Int)] d s n = _
    have h0 : hit [(L : Int)] s = [] := by
      unfold hit hasI
      rw [show [(L : Int)].contains (s.size : Int) = false from by simp; omega]
      rfl
    rw [h0, List.nil_append, Nat.pow_succ, Nat.mul_comm, range_mul]
    unfold kids
    refine flat_congr _ fun k hk => ?_
    have hk2 := List.mem_range.1 hk
    rw [dfs_all n L n1 n2 d (s ++ one k) (by rw [ByteArray.size_append, one_size k (by omega)]; omega)]
    refine flat_congr _ fun r hr => ?_
    have hr2 := List.mem_range.1 hr
    congr 1
    rw [ba_eq, ByteArray.data_append, ByteArray.data_append, ByteArray.data_append, Array.toList_append, Array.toList_append, Array.toList_append, one_list k (by omega), wdB_list, wdB_list, wd_lead n n1 d k r hk2 hr2, List.append_assoc]
    rfl
/-- The prime words among the first r. -/
def pwL (n L r : Nat) : List ByteArray := (List.range r).flatMap fun k => hit1 (wdB n L k)
theorem pwL_succ (n L r : Nat) : pwL n L (r + 1) = pwL n L r ++ hit1 (wdB n L r) := by
  unfold pwL
  rw [List.range_succ, List.flatMap_append]
  simp
theorem pwL_len (n L : Nat) : ∀ r, (pwL n L r).length ≤ r
  | 0 => by simp [pwL]
  | r + 1 => by
    rw [pwL_succ, List.length_append]
    have := pwL_len n L r
    unfold hit1
    split <;> simp <;> omega
theorem empty_app (t : ByteArray) : ByteArray.empty ++ t = t := by
  rw [ba_eq, ByteArray.data_append, Array.toList_append]
  rfl
theorem pw_eq (n L : Nat) (n1 : 1 ≤ n) (n2 : n ≤ 26) : dfs n [(L : Int)] L ByteArray.empty = pwL n L (n ^ L) := by
  rw [dfs_all n L n1 n2 L ByteArray.empty (by show 0 + L = L; omega)]
  unfold pwL
  refine flat_congr _ fun r _ => ?_
  rw [empty_app]
/-- How many texts the search can find. -/
def dn (n : Nat) : Nat → Nat
  | 0 => 1
  | d + 1 => 1 + n * dn n d
theorem hit_len (ls : List Int) (s : ByteArray) : (hit ls s).length ≤ 1 := by
  unfold hit
  split <;> simp
theorem dfs_len (n : Nat) (ls : List Int) : ∀ d s, (dfs n ls d s).length ≤ dn n d
  | 0, s => hit_len ls s
  | d + 1, s => by
    show (hit ls s ++ kids n ls d s n).length ≤ 1 + n * dn n d
    rw [List.length_append]
    have h1 := hit_len ls s
    have h2 : ∀ k, (kids n ls d s k).length ≤ k * dn n d := by
      intro k
      induction k with
      | zero => simp [kids]
      | succ k ih =>
        rw [kids_succ, List.length_append, Nat.succ_mul]
        have := dfs_len n ls d (s ++ one k)
        omega
    have := h2 n
    omega
def dnChk : Bool := (List.range 27).all fun n => (List.range 9).all fun L => !(decide (n ^ L ≤ 300)) || decide (dn n L ≤ 1000)
theorem dnChk_ok : dnChk = true := by kernel_rfl
theorem dn_le (n L : Nat) (n2 : n ≤ 26) (l2 : L ≤ 8) (h : n ^ L ≤ 300) : dn n L ≤ 1000 := by
  have c := dnChk_ok
  unfold dnChk at c
  rw [List.all_eq_true] at c
  have c1 := c n (List.mem_range.2 (by omega))
  rw [List.all_eq_true] at c1
  have c2 := c1 L (List.mem_range.2 (by omega))
  simpa [h] using c2
end Go.Proofs.Ytiblggfihpobkab
