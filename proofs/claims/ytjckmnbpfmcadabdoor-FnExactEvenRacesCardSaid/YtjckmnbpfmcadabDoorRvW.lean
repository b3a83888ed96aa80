/- The rivals whose odds are as asked: contracts of the program and of its model. -/
import Derived.Test.YtjckmnbpfmcadabDoorBsA
namespace Go.Proofs.YtjckmnbpfmcadabDoor
set_option linter.unusedSimpArgs false
open Go.ChangeShapes Go.WideShapes Go.ChangeAt Go.RowKit
set_option linter.unusedVariables false

def RowSB (xs : List ByteArray) (ok : Bool) (w : World) (e : Ending) (w' : World) : Prop := ∃ v, e = .returned (.tuple #[v, .bool ok]) ∧ SRow w' w.heap.size v xs ∧ Below w.heap.size w w'
def okRiv (h o : Int) (a : ByteArray) : Bool := rcG h o && racG a
def rivW (q : Int → Int → Bool) (h o : Int) (a : ByteArray) : List ByteArray := (rivT a).filter fun p => q (odF h o p a) (odO h o p a)
def ansRW (q : Int → Int → Bool) (h o : Int) (a : ByteArray) : List ByteArray := if okRiv h o a then rivW q h o a else []
theorem filt_take {α : Type} (P : α → Bool) (l : List α) (d : α) (k : Nat) (hk : k < l.length) : (l.take (k + 1)).filter P = (l.take k).filter P ++ (if P (l.getD k d) then [l.getD k d] else []) := by
  rw [List.take_succ_eq_append_getElem hk, List.filter_append, List.getD_eq_getElem?_getD, List.getElem?_eq_getElem hk]
  simp only [Option.getD_some, List.filter_cons, List.filter_nil]
theorem filt_len {α : Type} (P : α → Bool) (l : List α) (k : Nat) : ((l.take k).filter P).length ≤ l.length :=
  Nat.le_trans (List.length_filter_le _ _) (by simp; omega)
theorem rivT_len (a : ByteArray) (ha : a.size ≤ 12) : (rivT a).length ≤ 4096 := by
  have h1 : (rivT a).length ≤ (allTx a.size).length := List.length_filter_le _ _
  have h2 := pow12 a.size ha
  rw [allTx_len] at h1
  omega
theorem ansRW_len (q : Int → Int → Bool) (h o : Int) (a : ByteArray) : (ansRW q h o a).length ≤ 4096 := by
  unfold ansRW
  split
  · rename_i g
    unfold okRiv at g
    rw [Bool.and_eq_true] at g
    obtain ⟨a1, a5, _⟩ := rac_in g.2
    exact Nat.le_trans (List.length_filter_le _ _) (rivT_len a (by omega))
  · simp
theorem sl_form {w : World} {base : Nat} {v : Value} {xs : List ByteArray} (h : SRow w base v xs) : ∃ A cap, v = .slice A xs.length cap ∧ (0 < xs.length → ∃ gg, A = some ⟨gg, 0, none⟩ ∧ base ≤ gg) := by
  rcases h.form with ⟨hx, A, cap, rfl⟩ | ⟨hx, gg, cap, rfl, hbg, _⟩
  · subst hx
    exact ⟨A, cap, rfl, fun h => by simp at h⟩
  · exact ⟨_, cap, rfl, fun _ => ⟨gg, rfl, hbg⟩⟩

set_option maxRecDepth 100000 in
set_option maxHeartbeats 3200000 in
theorem rivalsWith_any (fid : Nat) (q : Int → Int → Bool) (eg0 : ∀ args w, (callFunc fid args).run Tryd.prog w = .ok (.enter fid args) w) (hq : ∀ (f s : Int) (W : World), 1 ≤ f → 1 ≤ s → Calls Tryd.prog fid #[odV f s] W fun e w' => e = .returned (.bool (q f s)) ∧ Below W.heap.size W w') (h o : Int) (a : ByteArray) (w : World) (ha : a.size ≤ maxLen) :
    Calls Tryd.prog 62 #[cn h o, .string a, .func (.func fid) #[] #[]] w (RowSB (ansRW q h o a) (okRiv h o a) w) := by
  have bx0 := Lib.hid (Box2.new w (.int .i64 h) (.int .i64 o) 27)
  have bl0 : Below w.heap.size w (w.alloc (.cells #[.int .i64 h, .int .i64 o] 27)) := bel_alloc (Below.refl _ _) _
  cases h1 : rcG h o
  · rw [show ansRW q h o a = [] from by unfold ansRW okRiv; rw [h1]; rfl, show okRiv h o a = false from by unfold okRiv; rw [h1]; rfl]
    go_enter Tryd.func62, Tryd.ntmps62
    go_wp2_with fail
    refine (isRaceCoin_any h o _).mono ?_
    rintro e w1 ⟨rfl, hb1⟩
    rw [h1]
    go_wp2_with fail
    go_ret2
    exact ⟨_, rfl, SRow.nil _ _, bel_trans bl0 hb1⟩
  · cases h2 : racG a
    · rw [show ansRW q h o a = [] from by unfold ansRW okRiv; rw [h1, h2]; rfl, show okRiv h o a = false from by unfold okRiv; rw [h1, h2]; rfl]
      go_enter Tryd.func62, Tryd.ntmps62
      go_wp2_with fail
      refine (isRaceCoin_any h o _).mono ?_
      rintro e w1 ⟨rfl, hb1⟩
      rw [h1]
      go_wp2_with fail
      refine (isRacer_any a _ ha).mono ?_
      rintro e w2 ⟨rfl, hb2⟩
      rw [h2]
      go_wp2_with fail
      go_ret2
      exact ⟨_, rfl, SRow.nil _ _, bel_trans (bel_trans bl0 hb1) hb2⟩
    · rw [show ansRW q h o a = rivW q h o a from by unfold ansRW okRiv; rw [h1, h2]; rfl, show okRiv h o a = true from by unfold okRiv; rw [h1, h2]; rfl]
      obtain ⟨a1, a5, _⟩ := rac_in h2
      have hrl := rivT_len a (by omega)
      have HR := Lib.hid (fun W => rivals_any a W (by omega))
      have hfin : Hid ((rivT a).filter (fun p => q (odF h o p a) (odO h o p a)) = rivW q h o a) := rfl
      have hmem := Lib.hid (fun (p : ByteArray) (hp : p ∈ rivT a) => rac_two h2 (riv_mem hp).1 (riv_mem hp).2)
      have hft := Lib.hid (fun k hk => filt_take (fun p => q (odF h o p a) (odO h o p a)) (rivT a) noS k hk)
      have hfl := Lib.hid (fun k => filt_len (fun p => q (odF h o p a) (odO h o p a)) (rivT a) k)
      have HQ := Lib.hid hq
      have EG := Lib.hid eg0
      clear hq eg0
      go_enter Tryd.func62, Tryd.ntmps62
      go_wp2_with fail
      refine (isRaceCoin_any h o _).mono ?_
      rintro e w1 ⟨rfl, hb1⟩
      rw [h1]
      have bx1 := Lib.hid (bx0.out.keep hb1)
      have bl1 := bel_trans bl0 hb1
      go_wp2_with fail
      refine (isRacer_any a _ ha).mono ?_
      rintro e w2 ⟨rfl, hb2⟩
      rw [h2]
      have bx2 := Lib.hid (bx1.out.keep hb2)
      have bl2 := bel_trans bl1 hb2
      clear hb1 hb2
      go_wp2_with fail
      refine (HR.out _).mono ?_
      rintro e w3 ⟨v, rfl, r3, hb3⟩
      obtain ⟨A, cap, rfl, hA⟩ := sl_form r3
      have bx3 := Lib.hid (bx2.out.keep hb3)
      have bl3 := bel_trans bl2 hb3
      have R3 := Lib.hid r3
      have HAA := Lib.hid hA
      clear r3 hA hb3
      generalize rivT a = xs at *
      generalize hN : xs.length = N at *
      have HN := Lib.hid hN
      clear hN
      go_wp2_with fail
      go_loopw [8, 22] (fun u i wr => ∃ k : Nat, k ≤ N ∧ i = .int .i64 k ∧ Hid (SRow wr w3.heap.size u ((xs.take k).filter fun p => q (odF h o p a) (odO h o p a))) ∧ Below w3.heap.size w3 wr) (fun _ i _ => N - (intOf i).toNat)
      case atStart => exact ⟨0, by omega, rfl, SRow.nil _ _, Below.refl _ _⟩
      case round =>
        obtain ⟨k, hk, rfl, hU, hb⟩ := hrel
        obtain ⟨wa, rfl⟩ : ∃ wa : World, wa = wr := ⟨_, rfl⟩
        have hsa := hb.size
        by_cases hlt : k < N
        · obtain ⟨gg, rfl, hgg⟩ := HAA.out (by omega)
          have hrow := R3.out.below hb
          rw [← HN.out] at hrow
          have c0 := hrow.at_ k (by rw [HN.out]; exact hlt)
          have hfk := hft.out k hlt
          have hfl2 := hfl.out k
          have htw := hmem.out _ (getD_mem (k := k) (by rw [HN.out]; exact hlt))
          obtain ⟨d0, d1, d2⟩ := bx3.out.keep hb
          have HFK := Lib.hid hfk
          clear hrow hfk
          generalize xs.getD k noS = p at *
          obtain ⟨f1, f2, o1, o2, _⟩ := od_all h1 htw
          have HC := Lib.hid (fun W => oddsOf_any h o p a W h1 htw)
          have HQ2 := Lib.hid (fun W => HQ.out (odF h o p a) (odO h o p a) W f1 o1)
          clear htw
          have Hfl2 := Lib.hid hfl2
          clear hfl2
          cases hqq : q (odF h o p a) (odO h o p a)
          · have hz := HFK.out
            simp only [hqq, Bool.false_eq_true, if_false, List.append_nil] at hz
            have HZ := Lib.hid hz
            rw [hqq] at HQ2
            clear hz hqq HFK
            go_wp2_with fail
            refine (HC.out _).mono ?_
            rintro e w4 ⟨rfl, hb4⟩
            have eg := EG.out
            go_wp2_with fail
            clear eg
            refine (HQ2.out _).mono ?_
            rintro e w5 ⟨rfl, hb5⟩
            have hb45 := hb4.trans (hb5.mono hb4.size)
            have hU5 := Lib.hid (hU.out.below hb45)
            go_wp2_with fail
            exact ⟨⟨k + 1, by omega, by go_num, by rw [HZ.out]; exact hU5, bel_trans hb hb45⟩, by simp [intOf]; omega⟩
          · have hz := HFK.out
            simp only [hqq, if_true] at hz
            have HZ := Lib.hid hz
            rw [hqq] at HQ2
            clear hz hqq HFK
            go_wp2_with fail
            refine (HC.out _).mono ?_
            rintro e w4 ⟨rfl, hb4⟩
            have eg := EG.out
            go_wp2_with fail
            clear eg
            refine (HQ2.out _).mono ?_
            rintro e w5 ⟨rfl, hb5⟩
            have hb45 := hb4.trans (hb5.mono hb4.size)
            have hU5 := Lib.hid (hU.out.below hb45)
            have hs5 := (bel_trans hb hb45).size
            go_wp2_with (at_builtin; refine wpList_pushS1 _ rfl (.tmp 32) (.tmp 34) rfl _ _ _ hU5.out (by have := Hfl2.out; omega) hs5 rfl rfl ?_)
            intro v' w6 hI6 hb6
            go_wp2_with fail
            exact ⟨⟨k + 1, by omega, by go_num, by rw [HZ.out]; exact hI6, (bel_trans hb hb45).trans hb6⟩, by simp [intOf]; omega⟩
        · obtain rfl : k = N := by omega
          have hf := hU.out
          rw [List.take_of_length_le (by rw [HN.out]; exact Nat.le_refl _), hfin.out] at hf
          have Hf := Lib.hid (hf.mono bl3.size)
          have hbf := bel_trans bl3 hb
          clear hf
          go_wp2_with fail
          go_ret2
          exact ⟨_, rfl, Hf.out, hbf⟩
end Go.Proofs.YtjckmnbpfmcadabDoor
