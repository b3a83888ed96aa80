/- The mean number of letters until a word is typed: contracts of the program and of its model. -/
import Derived.Test.YtiblggfihpobkaaWoOo
import Derived.Test.YtiblggfihpobkaaWoPw
namespace Go.Proofs.Ytiblggfihpobkaa
set_option linter.unusedSimpArgs false
open Go.ChangeShapes Go.WideShapes Go.ChangeAt Go.RowKit
set_option linter.unusedVariables false

/-- The sum of the powers over the first i numbers. -/
def mnI (n : Nat) (ks : List Int) : Nat → Int
  | 0 => 0
  | i + 1 => mnI n ks i + (n : Int) ^ (ks.getD i 0).toNat
def ovL (s : ByteArray) : List Int := selR (ovlB s) 1 (s.size - 1)
def ovA (s : ByteArray) : List Int := ovL s ++ [(s.size : Int)]
theorem ovL_len (s : ByteArray) : (ovL s).length ≤ s.size - 1 := selR_len _ _ _
theorem ovA_len (s : ByteArray) : (ovA s).length = (ovL s).length + 1 := by simp [ovA]
theorem ovL_in (s : ByteArray) (i : Nat) (hi : i < (ovL s).length) : ∃ k : Nat, (ovL s).getD i 0 = k ∧ 1 ≤ k ∧ k ≤ s.size := by
  have hm : (ovL s).getD i 0 ∈ ovL s := by rw [List.getD_eq_getElem?_getD, List.getElem?_eq_getElem hi]; exact List.getElem_mem _
  obtain ⟨k, e, l, u⟩ := selR_mem _ _ _ _ hm
  exact ⟨k, e, l, by omega⟩
theorem ovA_in (s : ByteArray) (h1 : 1 ≤ s.size) (i : Nat) (hi : i < (ovA s).length) : ∃ k : Nat, (ovA s).getD i 0 = k ∧ 1 ≤ k ∧ k ≤ s.size := by
  have hm : (ovA s).getD i 0 ∈ ovA s := by rw [List.getD_eq_getElem?_getD, List.getElem?_eq_getElem hi]; exact List.getElem_mem _
  unfold ovA at hm
  rw [List.mem_append] at hm
  rcases hm with hm | hm
  · obtain ⟨k, e, l, u⟩ := selR_mem _ _ _ _ hm
    exact ⟨k, e, l, by omega⟩
  · rw [List.mem_singleton] at hm
    exact ⟨s.size, hm, h1, Nat.le_refl _⟩
theorem mnI_app (n : Nat) (ks t : List Int) : ∀ i, i ≤ ks.length → mnI n (ks ++ t) i = mnI n ks i
  | 0, _ => rfl
  | i + 1, h => by
    unfold mnI
    rw [mnI_app n ks t i (by omega), List.getD_eq_getElem?_getD, List.getD_eq_getElem?_getD, List.getElem?_append_left (by omega)]
theorem mnI_in {n : Nat} (n1 : 1 ≤ n) (n2 : n ≤ 26) (ks : List Int) (h : ∀ i, i < ks.length → ∃ k : Nat, ks.getD i 0 = k ∧ k ≤ 8) : ∀ i, i ≤ ks.length → 0 ≤ mnI n ks i ∧ mnI n ks i ≤ i * 208827064576
  | 0, _ => by simp [mnI]
  | i + 1, hi => by
    obtain ⟨a, b⟩ := mnI_in n1 n2 ks h i (by omega)
    obtain ⟨k, e, k8⟩ := h i (by omega)
    obtain ⟨c, d⟩ := pw_le8 n n1 n2 k k8
    unfold mnI
    rw [e, Int.toNat_natCast]
    omega
/-- The mean number of letters until a word is typed. -/
def mnV (n : Nat) (s : ByteArray) : Int := (n : Int) ^ s.size + mnI n (ovL s) (ovL s).length
theorem mnV_all (n : Nat) (s : ByteArray) : mnI n (ovA s) (ovA s).length = mnV n s := by
  rw [ovA_len]
  unfold mnI
  unfold ovA
  rw [mnI_app n _ _ _ (Nat.le_refl _), List.getD_eq_getElem?_getD, List.getElem?_append_right (Nat.le_refl _), Nat.sub_self]
  show _ + (n : Int) ^ ((s.size : Int)).toNat = _
  rw [Int.toNat_natCast, Int.add_comm]
  rfl
set_option maxRecDepth 100000 in
set_option maxHeartbeats 1600000 in
theorem woMean_any (n : Nat) (s : ByteArray) (w : World) (n1 : 1 ≤ n) (n2 : n ≤ 26) (h1 : 1 ≤ s.size) (h8 : s.size ≤ 8) :
    Calls Try.prog 8 #[.int .i64 n, .string s] w fun e w' => e = .returned (.int .i64 (mnV n s)) ∧ Below w.heap.size w w' := by
  have hlo := ovL_len s
  have hfin : Hid (mnV n s = (n : Int) ^ s.size + mnI n (ovL s) (ovL s).length) := rfl
  obtain ⟨q0, q1⟩ := pw_le8 n n1 n2 s.size h8
  go_enter Try.func8, Try.ntmps8
  go_wp2_with fail
  refine (woPower_any n s.size _ n1 n2 (by omega)).mono ?_
  rintro e w0 ⟨rfl, rfl⟩
  go_wp2_with fail
  refine (woOvl_any s _ h1 h8).mono ?_
  rintro e w1 ⟨v, rfl, r1, b1⟩
  have R1 : Hid (IRow w1 w.heap.size v (ovL s)) := Lib.hid r1
  clear r1
  generalize hP : (n : Int) ^ s.size = P at *
  rcases R1.out.form with ⟨hx, A0, cap0, rfl⟩ | ⟨hx, gb, cap, rfl, hbg, hgl, hlc, hcm⟩
  · have hf2 : Hid (mnV n s = P) := by rw [hx] at hfin; exact Lib.hid (by rw [hfin.out]; simp [mnI])
    clear hfin hx
    go_wp2_with fail
    go_loop [5, 15] (fun x i => i = .int .i64 0 ∧ x = .int .i64 P) (fun _ _ => 0)
    case atStart => exact ⟨rfl, rfl⟩
    case round =>
      obtain ⟨rfl, rfl⟩ := hrel
      go_wp2_with fail
      go_ret
      exact ⟨by rw [hf2.out]; rfl, b1⟩
  · have HI := R1
    unfold maxLen at hcm
    generalize hN : (ovL s).length = N at *
    have HN := Lib.hid hN
    clear hN
    go_wp2_with fail
    go_loop [5, 15] (fun x i => ∃ k : Nat, k ≤ N ∧ i = .int .i64 k ∧ x = .int .i64 (P + mnI n (ovL s) k)) (fun _ i => N - (intOf i).toNat)
    case atStart => exact ⟨0, by omega, rfl, by simp [mnI]⟩
    case round =>
      obtain ⟨i, hi, rfl, rfl⟩ := hrel
      by_cases hlt : i < N
      · obtain ⟨k, hk, k1, k2⟩ := ovL_in s i (by rw [HN.out]; exact hlt)
        have hrow := HI.out
        rw [← HN.out] at hrow
        have c0 := hrow.at_ i (by rw [HN.out]; exact hlt)
        rw [hk] at c0
        have hnx : Hid (mnI n (ovL s) (i + 1) = mnI n (ovL s) i + (n : Int) ^ k) := by
          refine Lib.hid ?_
          show mnI n (ovL s) i + (n : Int) ^ ((ovL s).getD i 0).toNat = _
          rw [hk]; rfl
        obtain ⟨s0, s1⟩ := mnI_in n1 n2 (ovL s) (fun j hj => by obtain ⟨k, e, _, l⟩ := ovL_in s j hj; exact ⟨k, e, by omega⟩) i (by rw [HN.out]; omega)
        obtain ⟨t0, t1⟩ := pw_le8 n n1 n2 k (by omega)
        have hw2 : IntKind.i64.wrap (P + mnI n (ovL s) i + (n : Int) ^ k) = P + mnI n (ovL s) i + (n : Int) ^ k := IntWalk.i64_in _ (by omega)
        clear hrow
        have Hk := Lib.hid hk
        clear hk
        go_wp2_with fail
        refine (woPower_any n k _ n1 n2 (by omega)).mono ?_
        rintro e w5 ⟨rfl, rfl⟩
        go_wp2_with fail
        exact ⟨⟨i + 1, by omega, by go_num, by rw [hnx.out, Int.add_assoc]⟩, by simp [intOf]; omega⟩
      · have hin : i = N := by omega
        have Hin := Lib.hid hin
        clear hin
        go_wp2_with fail
        go_ret
        exact ⟨by rw [hfin.out, ← Hin.out]; rfl, b1⟩
set_option maxRecDepth 100000 in
set_option maxHeartbeats 1600000 in
theorem implMean_any (n : Nat) (s : ByteArray) (w : World) (n1 : 1 ≤ n) (n2 : n ≤ 26) (h1 : 1 ≤ s.size) (h8 : s.size ≤ 8) :
    Calls Try.prog 11 #[.int .i64 n, .string s] w fun e w' => e = .returned (.int .i64 (mnV n s)) ∧ Below w.heap.size w w' := by
  have hlo := ovL_len s
  have hla := ovA_len s
  have hfin := Lib.hid (mnV_all n s)
  go_enter Try.func11, Try.ntmps11
  go_wp2_with fail
  refine (implOvl_any s _ h1 h8).mono ?_
  rintro e w1 ⟨v, rfl, r1, b1⟩
  have hb1s := b1.size
  have R1 : Hid (IRow w1 w.heap.size v (ovL s)) := Lib.hid r1
  clear r1
  go_wp2_with (at_builtin; refine wpList_push1 rfl (.tmp 9) (.tmp 12) rfl _ _ _ R1.out (by omega) hb1s (s.size : Int) rfl rfl ?_)
  intro v' w2 hI2 hb2
  have hI2' : IRow w2 w.heap.size v' (ovA s) := hI2
  rcases hI2'.form with ⟨hx, _⟩ | ⟨hx, gb, cap, rfl, hbg, hgl, hlc, hcm⟩
  · rw [hx] at hla; simp at hla
  · have HI := Lib.hid hI2'
    have bl2 := Lib.hid (b1.trans hb2)
    unfold maxLen at hcm
    have hN8 : (ovA s).length ≤ 8 := by omega
    clear hI2 hI2' hb2 b1 R1 hla
    generalize hN : (ovA s).length = N at *
    have HN := Lib.hid hN
    clear hN
    go_wp2_with fail
    go_loop [5, 15] (fun x i => ∃ k : Nat, k ≤ N ∧ i = .int .i64 k ∧ x = .int .i64 (mnI n (ovA s) k)) (fun _ i => N - (intOf i).toNat)
    case atStart => exact ⟨0, by omega, rfl, rfl⟩
    case round =>
      obtain ⟨i, hi, rfl, rfl⟩ := hrel
      by_cases hlt : i < N
      · obtain ⟨k, hk, k1, k2⟩ := ovA_in s h1 i (by rw [HN.out]; exact hlt)
        have hrow := HI.out
        rw [← HN.out] at hrow
        have c0 := hrow.at_ i (by rw [HN.out]; exact hlt)
        rw [hk] at c0
        have hnx : Hid (mnI n (ovA s) (i + 1) = mnI n (ovA s) i + (n : Int) ^ k) := by
          refine Lib.hid ?_
          show mnI n (ovA s) i + (n : Int) ^ ((ovA s).getD i 0).toNat = _
          rw [hk]; rfl
        obtain ⟨s0, s1⟩ := mnI_in n1 n2 (ovA s) (fun j hj => by obtain ⟨k, e, _, l⟩ := ovA_in s h1 j hj; exact ⟨k, e, by omega⟩) i (by rw [HN.out]; omega)
        obtain ⟨t0, t1⟩ := pw_le8 n n1 n2 k (by omega)
        have hw2 : IntKind.i64.wrap (mnI n (ovA s) i + (n : Int) ^ k) = mnI n (ovA s) i + (n : Int) ^ k := IntWalk.i64_in _ (by omega)
        clear hrow
        have Hk := Lib.hid hk
        clear hk
        go_wp2_with fail
        refine (powerW_any n k _ n1 n2 (by omega)).mono ?_
        rintro e w5 ⟨rfl, rfl⟩
        go_wp2_with fail
        exact ⟨⟨i + 1, by omega, by go_num, by rw [hnx.out]⟩, by simp [intOf]; omega⟩
      · have hin : i = N := by omega
        have Hin := Lib.hid hin
        clear hin
        go_wp2_with fail
        go_ret
        exact ⟨by rw [← hfin.out, ← Hin.out]; rfl, bl2.out⟩
end Go.Proofs.Ytiblggfihpobkaa
