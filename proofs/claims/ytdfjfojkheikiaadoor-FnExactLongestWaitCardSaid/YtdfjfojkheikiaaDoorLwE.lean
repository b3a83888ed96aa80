/- The longest and the shortest waits: the contracts of the model. -/
import Derived.Test.YtdfjfojkheikiaaDoorLwM
namespace Go.Proofs.YtdfjfojkheikiaaDoor
set_option linter.unusedSimpArgs false
open Go.ChangeShapes Go.WideShapes Go.ChangeAt Go.RowKit
set_option linter.unusedVariables false

theorem nWait_any (s : ByteArray) (w : World) (ha : allT s = true) (h1 : 1 ≤ s.size) (h8 : s.size ≤ 8) :
    Calls Tryd.prog 26 #[cn 1 2, .string s] w fun e w' => (∃ d, e = .returned (.tuple #[.int .i64 (nW s), .int .i64 d])) ∧ Below w.heap.size w w' :=
  (specWait_any 1 2 s w coin12 ha h1 h8).mono fun e w' ⟨a, b⟩ => ⟨⟨_, a⟩, b⟩
def mxW (most : Bool) (n : Nat) : Int := bst most (wAt (allTx n)) (allTx n).length
def exW (most : Bool) (n : Nat) : List ByteArray := grp (allTx n) (mxW most n) (allTx n).length
def RowSI (xs : List ByteArray) (m : Int) (w : World) (e : Ending) (w' : World) : Prop := ∃ v, e = .returned (.tuple #[v, .int .i64 m]) ∧ SRow w' w.heap.size v xs ∧ Below w.heap.size w w'
theorem SRow.formL {w : World} {b : Nat} {v : Value} {xs : List ByteArray} (h : SRow w b v xs) : ∃ A cap, v = .slice A xs.length cap ∧ xs.length ≤ cap ∧ cap ≤ maxLen := by
  rcases h.2 with ⟨h, h0⟩ | ⟨g, cap', cur, h, _, _, hh, hq, _⟩
  · exact ⟨none, 0, by rw [h, h0], by omega, by simp [maxLen]⟩
  · exact ⟨_, cap', h, hh, hq⟩
theorem tx8 (n : Nat) (h8 : n ≤ 8) : 2 ^ n ≤ 256 := by
  have : 2 ^ n ≤ 2 ^ 8 := Nat.pow_le_pow_right (by omega) h8
  simpa using this
set_option maxRecDepth 100000 in
set_option maxHeartbeats 3200000 in
theorem ptEx_true (n : Nat) (w : World) (h1 : 1 ≤ n) (h8 : n ≤ 8) :
    Calls Tryd.prog 16 #[.int .i64 n, .bool true] w (RowSI (exW true n) (mxW true n) w) := by
  have hall := Lib.hid (fun (i : Nat) (hi : i < (allTx n).length) => (show (allTx n).getD i noT ∈ allTx n from by rw [List.getD_eq_getElem?_getD, List.getElem?_eq_getElem hi]; exact List.getElem_mem _))
  have hmem := Lib.hid (fun (x : ByteArray) (hx : x ∈ allTx n) => allTx_mem n x hx)
  unfold exW mxW
  have hlen := allTx_len n
  have h256 := tx8 n h8
  rw [← hlen] at h256
  clear hlen
  have htx := Lib.hid (fun W => ptAll_any n W (by omega))
  generalize allTx n = l at *
  go_enter Tryd.func16, Tryd.ntmps16
  go_wp2_with fail
  refine (htx.out _).mono ?_
  rintro e w1 ⟨v, rfl, r0, b0⟩
  obtain ⟨A0, cap0, rfl, c0a, c0b⟩ := r0.formL
  have R0 := Lib.hid r0
  clear r0
  generalize hN : l.length = N at h256 c0a ⊢
  have HN := Lib.hid hN
  have hbs := b0.size
  have hnil : ∀ W, SRow W w1.heap.size (.slice none 0 0) [] := fun W => World.ownsRow_nil _ _ _ _
  clear hN
  go_wp2_with fail
  go_loopw [6, 7, 15] (fun u x y wr => ∃ k : Nat, k ≤ N ∧ y = .int .i64 k ∧ x = .int .i64 (bst true (wAt l) k) ∧ Hid (SRow wr w1.heap.size u (grp l (bst true (wAt l) k) k)) ∧ Below w1.heap.size w1 wr) (fun _ _ y _ => N - (intOf y).toNat)
  case atStart => exact ⟨0, by omega, rfl, rfl, World.ownsRow_nil _ _ _ _, Below.refl _ _⟩
  case round =>
    obtain ⟨k, hk, rfl, rfl, hU, hb⟩ := hrel
    obtain ⟨wa, rfl⟩ : ∃ wa : World, wa = wr := ⟨_, rfl⟩
    by_cases hlt : k < N
    · have hlk : k < l.length := by rw [HN.out]; exact hlt
      have hrow := R0.out.below hb
      obtain ⟨gg, hgg⟩ : ∃ gg : Nat, A0 = some ⟨gg, 0, none⟩ := by
        rcases hrow.form with ⟨hx, _⟩ | ⟨hx, g, cap, e, _⟩
        · rw [hx] at hlk; simp at hlk
        · injection e with e1; exact ⟨g, e1⟩
      subst hgg
      have c0 := hrow.at_ k hlk
      obtain ⟨hsz, hat⟩ := hmem.out _ (hall.out k (by rw [HN.out]; exact hlt))
      obtain ⟨z0, z1⟩ := nW_in (l.getD k noT) (by omega) (by omega)
      have hzz : nW (l.getD k noT) = wAt l k := rfl
      rw [hzz] at z0 z1
      have HW := Lib.hid (fun w => nWait_any (l.getD k noT) w hat (by omega) (by omega))
      rw [hzz] at HW
      have hgy := Lib.hid (fun (m : Int) (h : wAt l k = m) => grp_yes hlk h)
      have hgn := Lib.hid (fun (m : Int) (h : wAt l k ≠ m) => grp_no hlk h)
      have hnew := Lib.hid (fun h => grp_new (most := true) hlk h)
      have hsome := fun h => grp_some (most := true) (l := l) (j := k) (by omega) h
      have hnx := Lib.hid (fun h => bst_next (most := true) (l := l) (j := k) h)
      have hst := Lib.hid (fun h0 h => bst_stay (most := true) (l := l) (j := k) h0 h)
      have hgl := grp_len l (bst true (wAt l) k) k
      generalize l.getD k noT = p at *
      generalize wAt l k = z at *
      have hki : (k : Int) < (N : Int) := by omega
      obtain ⟨Au, capu, rfl, cua, cub⟩ := hU.out.formL
      generalize hK : (grp l (bst true (wAt l) k) k).length = K at hU cua hgl hsome ⊢
      have HK := Lib.hid hK
      have hzb : ∀ i, i = bst true (wAt l) k → i = bst true (wAt l) k := fun i h => h
      clear hrow hzb hsz hat hzz hK
      generalize hB : bst true (wAt l) k = bb at *
      have HB := Lib.hid hB
      clear hB
      by_cases hc : k = 0 ∨ bfr true z bb = true
      · have hnx2 := hnx.out hc
        have hne2 := hnew.out hc
        have hres := hgy.out z rfl
        rw [hne2, List.nil_append] at hres
        have HRES := Lib.hid hres
        have HNX := Lib.hid hnx2
        have hzr : (z == z) = true := by simp
        by_cases hk0 : k = 0
        · have hK0 : K = 0 := by omega
          subst hK0
          clear hnx2 hne2 hres hsome hc hk0
          go_wp2_with fail
          refine (HW.out _).mono ?_
          rintro e w5 ⟨⟨d, rfl⟩, b5⟩
          have bb5 := bel_trans hb b5
          go_wp2_with (at_builtin; refine wpList_pushS1 _ rfl (.tmp 49) (.tmp 51) rfl w1.heap.size _ _ (hnil _) (by simp) bb5.size rfl rfl ?_)
          intro v' w6 hI hb6
          have HI := Lib.hid hI
          go_wp2_with fail
          exact ⟨⟨k + 1, by omega, by go_num, by rw [HNX.out], by rw [HNX.out, HRES.out]; exact HI, bb5.trans hb6⟩, by simp [intOf]; omega⟩
        · have hK1 := hsome (by omega)
          have hKi : ((K : Int) == 0) = false := by simp; omega
          have hcc : bfr true z bb = true := hc.resolve_left hk0
          have hd : bb < z := by unfold bfr at hcc; simpa using hcc
          have hd1 : decide (bb < z) = true := by simpa using hd
          have hd2 : decide (z < bb) = false := by simp; omega
          clear hnx2 hne2 hres hsome hc hcc
          go_wp2_with fail
          refine (HW.out _).mono ?_
          rintro e w5 ⟨⟨d, rfl⟩, b5⟩
          have bb5 := bel_trans hb b5
          go_wp2_with (at_builtin; refine wpList_pushS1 _ rfl (.tmp 49) (.tmp 51) rfl w1.heap.size _ _ (hnil _) (by simp) bb5.size rfl rfl ?_)
          intro v' w6 hI hb6
          have HI := Lib.hid hI
          go_wp2_with fail
          exact ⟨⟨k + 1, by omega, by go_num, by rw [HNX.out], by rw [HNX.out, HRES.out]; exact HI, bb5.trans hb6⟩, by simp [intOf]; omega⟩
      · have hk0 : k ≠ 0 := fun h => hc (.inl h)
        have hcc : bfr true z bb = false := by
          cases h : bfr true z bb with
          | false => rfl
          | true => exact absurd (.inr h) hc
        have hnx2 := hst.out hk0 hcc
        have HNX := Lib.hid hnx2
        have hK1 := hsome (by omega)
        have hKi : ((K : Int) == 0) = false := by simp; omega
        have hd : ¬ (bb < z) := by unfold bfr at hcc; simpa using hcc
        have hd1 : decide (bb < z) = false := by simpa using hd
        by_cases he : z = bb
        · have hres := Lib.hid (hgy.out bb he)
          have hz1 : (z == bb) = true := by simpa using he
          have hl1 : (grp l bb k).length + 1 ≤ 1000000 := by have := HK.out; omega
          have HL1 := Lib.hid hl1
          clear hnx2 hsome hc hcc he hl1
          go_wp2_with fail
          refine (HW.out _).mono ?_
          rintro e w5 ⟨⟨d, rfl⟩, b5⟩
          have bb5 := bel_trans hb b5
          have hU5 := Lib.hid (hU.out.below b5)
          have hs5 := bb5.size
          go_wp2_with (at_builtin; refine wpList_pushS1 _ rfl (.tmp 49) (.tmp 51) rfl w1.heap.size _ _ hU5.out HL1.out hs5 rfl rfl ?_)
          intro v' w6 hI hb6
          have HI := Lib.hid hI
          go_wp2_with fail
          exact ⟨⟨k + 1, by omega, by go_num, by rw [HNX.out], by rw [HNX.out, hres.out]; exact HI, bb5.trans hb6⟩, by simp [intOf]; omega⟩
        · have hres := Lib.hid (hgn.out bb he)
          have hz1 : (z == bb) = false := by simpa using he
          clear hnx2 hsome hc hcc
          go_wp2_with fail
          refine (HW.out _).mono ?_
          rintro e w5 ⟨⟨d, rfl⟩, b5⟩
          have bb5 := bel_trans hb b5
          have hU5 := Lib.hid (hU.out.below b5)
          go_wp2_with fail
          exact ⟨⟨k + 1, by omega, by go_num, by rw [HNX.out], by rw [HNX.out, hres.out]; exact hU5, bb5⟩, by simp [intOf]; omega⟩
    · obtain rfl : k = N := by omega
      obtain ⟨Au, capu, rfl, cua, cub⟩ := hU.out.formL
      generalize hK : (grp l (bst true (wAt l) k) k).length = K at hU cua ⊢
      clear hK
      have hfin := Lib.hid (hU.out.mono hbs)
      have hbf := bel_trans b0 hb
      generalize hB : bst true (wAt l) k = bb at *
      have HB := Lib.hid hB
      clear hB
      go_wp2_with fail
      go_ret2
      refine ⟨.slice Au K capu, ?_, ?_, hbf⟩
      · rw [HN.out, HB.out]; rfl
      · rw [HN.out, HB.out]; exact hfin.out
set_option maxRecDepth 100000 in
set_option maxHeartbeats 3200000 in
theorem ptEx_false (n : Nat) (w : World) (h1 : 1 ≤ n) (h8 : n ≤ 8) :
    Calls Tryd.prog 16 #[.int .i64 n, .bool false] w (RowSI (exW false n) (mxW false n) w) := by
  have hall := Lib.hid (fun (i : Nat) (hi : i < (allTx n).length) => (show (allTx n).getD i noT ∈ allTx n from by rw [List.getD_eq_getElem?_getD, List.getElem?_eq_getElem hi]; exact List.getElem_mem _))
  have hmem := Lib.hid (fun (x : ByteArray) (hx : x ∈ allTx n) => allTx_mem n x hx)
  unfold exW mxW
  have hlen := allTx_len n
  have h256 := tx8 n h8
  rw [← hlen] at h256
  clear hlen
  have htx := Lib.hid (fun W => ptAll_any n W (by omega))
  generalize allTx n = l at *
  go_enter Tryd.func16, Tryd.ntmps16
  go_wp2_with fail
  refine (htx.out _).mono ?_
  rintro e w1 ⟨v, rfl, r0, b0⟩
  obtain ⟨A0, cap0, rfl, c0a, c0b⟩ := r0.formL
  have R0 := Lib.hid r0
  clear r0
  generalize hN : l.length = N at h256 c0a ⊢
  have HN := Lib.hid hN
  have hbs := b0.size
  have hnil : ∀ W, SRow W w1.heap.size (.slice none 0 0) [] := fun W => World.ownsRow_nil _ _ _ _
  clear hN
  go_wp2_with fail
  go_loopw [6, 7, 15] (fun u x y wr => ∃ k : Nat, k ≤ N ∧ y = .int .i64 k ∧ x = .int .i64 (bst false (wAt l) k) ∧ Hid (SRow wr w1.heap.size u (grp l (bst false (wAt l) k) k)) ∧ Below w1.heap.size w1 wr) (fun _ _ y _ => N - (intOf y).toNat)
  case atStart => exact ⟨0, by omega, rfl, rfl, World.ownsRow_nil _ _ _ _, Below.refl _ _⟩
  case round =>
    obtain ⟨k, hk, rfl, rfl, hU, hb⟩ := hrel
    obtain ⟨wa, rfl⟩ : ∃ wa : World, wa = wr := ⟨_, rfl⟩
    by_cases hlt : k < N
    · have hlk : k < l.length := by rw [HN.out]; exact hlt
      have hrow := R0.out.below hb
      obtain ⟨gg, hgg⟩ : ∃ gg : Nat, A0 = some ⟨gg, 0, none⟩ := by
        rcases hrow.form with ⟨hx, _⟩ | ⟨hx, g, cap, e, _⟩
        · rw [hx] at hlk; simp at hlk
        · injection e with e1; exact ⟨g, e1⟩
      subst hgg
      have c0 := hrow.at_ k hlk
      obtain ⟨hsz, hat⟩ := hmem.out _ (hall.out k (by rw [HN.out]; exact hlt))
      obtain ⟨z0, z1⟩ := nW_in (l.getD k noT) (by omega) (by omega)
      have hzz : nW (l.getD k noT) = wAt l k := rfl
      rw [hzz] at z0 z1
      have HW := Lib.hid (fun w => nWait_any (l.getD k noT) w hat (by omega) (by omega))
      rw [hzz] at HW
      have hgy := Lib.hid (fun (m : Int) (h : wAt l k = m) => grp_yes hlk h)
      have hgn := Lib.hid (fun (m : Int) (h : wAt l k ≠ m) => grp_no hlk h)
      have hnew := Lib.hid (fun h => grp_new (most := false) hlk h)
      have hsome := fun h => grp_some (most := false) (l := l) (j := k) (by omega) h
      have hnx := Lib.hid (fun h => bst_next (most := false) (l := l) (j := k) h)
      have hst := Lib.hid (fun h0 h => bst_stay (most := false) (l := l) (j := k) h0 h)
      have hgl := grp_len l (bst false (wAt l) k) k
      generalize l.getD k noT = p at *
      generalize wAt l k = z at *
      have hki : (k : Int) < (N : Int) := by omega
      obtain ⟨Au, capu, rfl, cua, cub⟩ := hU.out.formL
      generalize hK : (grp l (bst false (wAt l) k) k).length = K at hU cua hgl hsome ⊢
      have HK := Lib.hid hK
      have hzb : ∀ i, i = bst false (wAt l) k → i = bst false (wAt l) k := fun i h => h
      clear hrow hzb hsz hat hzz hK
      generalize hB : bst false (wAt l) k = bb at *
      have HB := Lib.hid hB
      clear hB
      by_cases hc : k = 0 ∨ bfr false z bb = true
      · have hnx2 := hnx.out hc
        have hne2 := hnew.out hc
        have hres := hgy.out z rfl
        rw [hne2, List.nil_append] at hres
        have HRES := Lib.hid hres
        have HNX := Lib.hid hnx2
        have hzr : (z == z) = true := by simp
        by_cases hk0 : k = 0
        · have hK0 : K = 0 := by omega
          subst hK0
          clear hnx2 hne2 hres hsome hc hk0
          go_wp2_with fail
          refine (HW.out _).mono ?_
          rintro e w5 ⟨⟨d, rfl⟩, b5⟩
          have bb5 := bel_trans hb b5
          go_wp2_with (at_builtin; refine wpList_pushS1 _ rfl (.tmp 49) (.tmp 51) rfl w1.heap.size _ _ (hnil _) (by simp) bb5.size rfl rfl ?_)
          intro v' w6 hI hb6
          have HI := Lib.hid hI
          go_wp2_with fail
          exact ⟨⟨k + 1, by omega, by go_num, by rw [HNX.out], by rw [HNX.out, HRES.out]; exact HI, bb5.trans hb6⟩, by simp [intOf]; omega⟩
        · have hK1 := hsome (by omega)
          have hKi : ((K : Int) == 0) = false := by simp; omega
          have hcc : bfr false z bb = true := hc.resolve_left hk0
          have hd : z < bb := by unfold bfr at hcc; simpa using hcc
          have hd1 : decide (z < bb) = true := by simpa using hd
          have hd2 : decide (bb < z) = false := by simp; omega
          clear hnx2 hne2 hres hsome hc hcc
          go_wp2_with fail
          refine (HW.out _).mono ?_
          rintro e w5 ⟨⟨d, rfl⟩, b5⟩
          have bb5 := bel_trans hb b5
          go_wp2_with (at_builtin; refine wpList_pushS1 _ rfl (.tmp 49) (.tmp 51) rfl w1.heap.size _ _ (hnil _) (by simp) bb5.size rfl rfl ?_)
          intro v' w6 hI hb6
          have HI := Lib.hid hI
          go_wp2_with fail
          exact ⟨⟨k + 1, by omega, by go_num, by rw [HNX.out], by rw [HNX.out, HRES.out]; exact HI, bb5.trans hb6⟩, by simp [intOf]; omega⟩
      · have hk0 : k ≠ 0 := fun h => hc (.inl h)
        have hcc : bfr false z bb = false := by
          cases h : bfr false z bb with
          | false => rfl
          | true => exact absurd (.inr h) hc
        have hnx2 := hst.out hk0 hcc
        have HNX := Lib.hid hnx2
        have hK1 := hsome (by omega)
        have hKi : ((K : Int) == 0) = false := by simp; omega
        have hd : ¬ (z < bb) := by unfold bfr at hcc; simpa using hcc
        have hd1 : decide (z < bb) = false := by simpa using hd
        by_cases he : z = bb
        · have hres := Lib.hid (hgy.out bb he)
          have hz1 : (z == bb) = true := by simpa using he
          have hl1 : (grp l bb k).length + 1 ≤ 1000000 := by have := HK.out; omega
          have HL1 := Lib.hid hl1
          clear hnx2 hsome hc hcc he hl1
          go_wp2_with fail
          refine (HW.out _).mono ?_
          rintro e w5 ⟨⟨d, rfl⟩, b5⟩
          have bb5 := bel_trans hb b5
          have hU5 := Lib.hid (hU.out.below b5)
          have hs5 := bb5.size
          go_wp2_with (at_builtin; refine wpList_pushS1 _ rfl (.tmp 49) (.tmp 51) rfl w1.heap.size _ _ hU5.out HL1.out hs5 rfl rfl ?_)
          intro v' w6 hI hb6
          have HI := Lib.hid hI
          go_wp2_with fail
          exact ⟨⟨k + 1, by omega, by go_num, by rw [HNX.out], by rw [HNX.out, hres.out]; exact HI, bb5.trans hb6⟩, by simp [intOf]; omega⟩
        · have hres := Lib.hid (hgn.out bb he)
          have hz1 : (z == bb) = false := by simpa using he
          clear hnx2 hsome hc hcc
          go_wp2_with fail
          refine (HW.out _).mono ?_
          rintro e w5 ⟨⟨d, rfl⟩, b5⟩
          have bb5 := bel_trans hb b5
          have hU5 := Lib.hid (hU.out.below b5)
          go_wp2_with fail
          exact ⟨⟨k + 1, by omega, by go_num, by rw [HNX.out], by rw [HNX.out, hres.out]; exact hU5, bb5⟩, by simp [intOf]; omega⟩
    · obtain rfl : k = N := by omega
      obtain ⟨Au, capu, rfl, cua, cub⟩ := hU.out.formL
      generalize hK : (grp l (bst false (wAt l) k) k).length = K at hU cua ⊢
      clear hK
      have hfin := Lib.hid (hU.out.mono hbs)
      have hbf := bel_trans b0 hb
      generalize hB : bst false (wAt l) k = bb at *
      have HB := Lib.hid hB
      clear hB
      go_wp2_with fail
      go_ret2
      refine ⟨.slice Au K capu, ?_, ?_, hbf⟩
      · rw [HN.out, HB.out]; rfl
      · rw [HN.out, HB.out]; exact hfin.out
end Go.Proofs.YtdfjfojkheikiaaDoor
