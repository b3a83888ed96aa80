/- Chances within some plays: the contract of the program's within. -/
import Derived.Test.YtfogipdhipipfaaSkQ
import Derived.Shelf.RegionOpenPlain
import Derived.Deep.CutRange
namespace Go.Proofs.Ytfogipdhipipfaa
set_option linter.unusedSimpArgs false
open Go.ChangeShapes Go.WideShapes Go.ChangeAt Go.RowKit
set_option linter.unusedVariables false

theorem GpT.setHere {w : World} {h o : Int} {F F' : Nat → Int} {wr : World} (g : GpT w h o F wr) : GpT w h o F' (wr.setRow (w.heap.size + 1 + 1) (iN 17 F')) := by
  have h2 := g.big
  have hl := g.box.2.2
  have e : (wr.setRow (w.heap.size + 1 + 1) (iN 17 F')).heap[w.heap.size]? = wr.heap[w.heap.size]? := setRow_other _ _ _ _ (by omega)
  refine ⟨⟨(World.cell?_of_block (w := wr) (a := ⟨w.heap.size, 0, none⟩) e).trans g.box.1, (World.cell?_of_block (w := wr) (a := ⟨w.heap.size, 1, none⟩) e).trans g.box.2.1, by simpa [World.setRow] using hl⟩, (setRow_other _ _ _ _ (by omega)).trans g.res, setRow_heap _ _ _ _ _ _ g.here, by simpa [World.setRow] using h2, bel_setRow g.bel (by omega) _⟩
/-- The arrays of a round: what has been told before, and the stakes at hand. -/
theorem PuN.keep {wa wr wv : World} {G : Nat → Int} (h : PuN wa G wr) (hl : wa.heap.size < wr.heap.size) (hb : Below wr.heap.size wr wv) : PuN wa G wv := ⟨(hb.block _ hl).trans h.1, bel_trans h.2 hb⟩
theorem PuN.big {wa wr : World} {G : Nat → Int} (h : PuN wa G wr) : wa.heap.size < wr.heap.size := by
  rcases Nat.lt_or_ge wa.heap.size wr.heap.size with a | a
  · exact a
  · have := h.1
    rw [Array.getElem?_eq_none a] at this
    cases this
theorem sx_keep {W W1 : World} {B C D : Nat} {cs : List Value} {h o p g : Value} (x : W.rangeAt B 0 cs ∧ W.cell? ⟨C, 0, none⟩ = some h ∧ W.cell? ⟨C, 1, none⟩ = some o ∧ W.cell? ⟨D, 0, none⟩ = some p ∧ W.cell? ⟨D, 1, none⟩ = some g) (hb : Below W.heap.size W W1) (z1 : B < W.heap.size) (z2 : C < W.heap.size) (z3 : D < W.heap.size) :
    W1.rangeAt B 0 cs ∧ W1.cell? ⟨C, 0, none⟩ = some h ∧ W1.cell? ⟨C, 1, none⟩ = some o ∧ W1.cell? ⟨D, 0, none⟩ = some p ∧ W1.cell? ⟨D, 1, none⟩ = some g :=
  ⟨fun j v hv => (hb.cell (p := ⟨B, 0 + j, none⟩) z1).trans (x.1 j v hv), (hb.cell (p := ⟨C, 0, none⟩) z2).trans x.2.1, (hb.cell (p := ⟨C, 1, none⟩) z2).trans x.2.2.1, (hb.cell (p := ⟨D, 0, none⟩) z3).trans x.2.2.2.1, (hb.cell (p := ⟨D, 1, none⟩) z3).trans x.2.2.2.2⟩
theorem sx_set {W : World} {A B C D : Nat} {cs : List Value} {h o p g : Value} (x : W.rangeAt B 0 cs ∧ W.cell? ⟨C, 0, none⟩ = some h ∧ W.cell? ⟨C, 1, none⟩ = some o ∧ W.cell? ⟨D, 0, none⟩ = some p ∧ W.cell? ⟨D, 1, none⟩ = some g) (q : Nat) (v : Value) (n1 : A ≠ B) (n2 : A ≠ C) (n3 : A ≠ D) : let W1 := W.setCell ⟨A, q, none⟩ v
    W1.rangeAt B 0 cs ∧ W1.cell? ⟨C, 0, none⟩ = some h ∧ W1.cell? ⟨C, 1, none⟩ = some o ∧ W1.cell? ⟨D, 0, none⟩ = some p ∧ W1.cell? ⟨D, 1, none⟩ = some g := by
  refine ⟨fun j u hu => ?_, ?_, ?_, ?_, ?_⟩
  · rw [World.cell?_setCell_other _ _ _ _ (fun q => n1 (by injection q))]; exact x.1 j u hu
  · rw [World.cell?_setCell_other _ _ _ _ (fun q => n2 (by injection q))]; exact x.2.1
  · rw [World.cell?_setCell_other _ _ _ _ (fun q => n2 (by injection q))]; exact x.2.2.1
  · rw [World.cell?_setCell_other _ _ _ _ (fun q => n3 (by injection q))]; exact x.2.2.2.1
  · rw [World.cell?_setCell_other _ _ _ _ (fun q => n3 (by injection q))]; exact x.2.2.2.2
theorem load_here {W : World} {B : Nat} {F : Nat → Int} (h : W.heap[B]? = some (.cells (iN 17 F) 51)) : (loadVar 51 ⟨B, 0, none⟩).run Try.prog W = .ok (.agg (iN 17 F)) W :=
  run_loadVar_row W B 51 51 (iN 17 F) _ _ h Try.underlying51 rfl (by rw [iN_size]; exact pu_info)

set_option maxRecDepth 100000 in
set_option maxHeartbeats 12800000 in
theorem within_any (lf mf : Nat) (kind : Nat) (H T o : Int) (G n : Nat) (w : World) (hc : coinG H o = true) (hT : o - H = T) (h1 : 1 ≤ G) (h16 : G ≤ 16) (hn : n ≤ 6)
    (egl : ∀ args w, (callFunc lf args).run Try.prog w = .ok (.enter lf args) w) (egm : ∀ args w, (callFunc mf args).run Try.prog w = .ok (.enter mf args) w)
    (hlo : ∀ q : Nat, q ≤ G → ∀ W : World, Calls Try.prog lf #[sk q G] W fun e w' => e = .returned (.int .i64 (loN kind q G)) ∧ Below W.heap.size W w')
    (hhi : ∀ q : Nat, q ≤ G → ∀ W : World, Calls Try.prog mf #[sk q G] W fun e w' => e = .returned (.int .i64 (hiN kind q G)) ∧ Below W.heap.size W w') :
    Calls Try.prog 72 #[cn H o, .int .i64 G, .int .i64 n, .func (.func lf) #[] #[], .func (.func mf) #[] #[]] w fun e w' => e = .returned (.agg (iN 17 (wP H T kind G n))) ∧ Below w.heap.size w w' := by
  obtain ⟨r1, r2, r3, r4⟩ := coin_in hc
  have hH : 0 ≤ H ∧ 0 ≤ T ∧ H + T = o := by omega
  obtain ⟨hH, hT0, hHT⟩ := hH
  have EGL := Lib.hid egl
  have EGM := Lib.hid egm
  have HLO := Lib.hid hlo
  have HHI := Lib.hid hhi
  have hV := Lib.hid (wP_in (H := H) (T := T) kind hH hT0 G)
  have hset : (iN 17 noI).setIfInBounds G (.int .i64 1) = iN 17 (wP H T kind G 0) := iN_set 17 _ _ 1 G (by omega) (by unfold wP; rw [if_pos rfl]) (fun i _ hi => by unfold wP; rw [if_neg hi])
  have hst : Hid (GpT w H o (wP H T kind G 0) (((w.alloc (.cells #[.int .i64 H, .int .i64 o] 32)).alloc (.cells (iN 17 noI) 51)).alloc (.cells (iN 17 (wP H T kind G 0)) 51))) := by
    refine Lib.hid ?_
    have hb := Box2.new w (.int .i64 H) (.int .i64 o) 32
    generalize hw0 : w.alloc (.cells #[.int .i64 H, .int .i64 o] 32) = w0 at *
    have hs0 : w0.heap.size = w.heap.size + 1 := by rw [← hw0, ← size1]
    have hb0 : Below w.heap.size w w0 := by rw [← hw0]; exact bel_alloc (Below.refl _ _) _
    generalize hw1 : w0.alloc (.cells (iN 17 noI) 51) = w1 at *
    have hs1 : w1.heap.size = w.heap.size + 1 + 1 := by rw [← hw1, ← size1, hs0]
    have hb1 : Below w0.heap.size w0 w1 := by rw [← hw1]; exact bel_alloc (Below.refl _ _) _
    have hk := bel_alloc (Below.refl _ w1) (.cells (iN 17 (wP H T kind G 0)) 51)
    have hr1 : w1.heap[w.heap.size + 1]? = some (.cells (iN 17 noI) 51) := by rw [← hw1, ← hs0]; exact heap_alloc_new w0 _
    refine ⟨(hb.keep hb1).keep hk, (hk.block _ (by omega)).trans hr1, by rw [← hs1]; exact heap_alloc_new w1 _, ?_, bel_trans (bel_trans hb0 hb1) hk⟩
    rw [← size1]
    omega
  have x0 : (((w.alloc (.cells #[.int .i64 H, .int .i64 o] 32)).alloc (.cells (iN 17 noI) 51)).alloc (.cells (iN 17 noI) 51)).cell? ⟨w.heap.size + 1 + 1, G, none⟩ = some (.int .i64 0) := by
    have := cell_heap (b := ((w.alloc (.cells #[.int .i64 H, .int .i64 o] 32)).alloc (.cells (iN 17 noI) 51)).heap.size) (heap_alloc_new ((w.alloc (.cells #[.int .i64 H, .int .i64 o] 32)).alloc (.cells (iN 17 noI) 51)) (.cells (iN 17 noI) 51)) (iN_get 17 noI G (by omega))
    rw [← size1, ← size1] at this
    exact this
  have x1 : (((w.alloc (.cells #[.int .i64 H, .int .i64 o] 32)).alloc (.cells (iN 17 noI) 51)).alloc (.cells (iN 17 noI) 51)).frozen? ⟨w.heap.size + 1 + 1, G, none⟩ = false := by
    have := froz_heap (b := ((w.alloc (.cells #[.int .i64 H, .int .i64 o] 32)).alloc (.cells (iN 17 noI) 51)).heap.size) (q := G) (heap_alloc_new ((w.alloc (.cells #[.int .i64 H, .int .i64 o] 32)).alloc (.cells (iN 17 noI) 51)) (.cells (iN 17 noI) 51))
    rw [← size1, ← size1] at this
    exact this
  have g1 : (G : Int) < 17 := by omega
  have hwG : IntKind.i64.wrap ((G : Int) + 1) = (G : Int) + 1 := IntWalk.i64_in _ (by omega)
  clear egl egm hlo hhi
  go_enter Try.func72, Try.ntmps72
  go_wp2_with (first
    | (refine wpList_alloc_row rfl 51 rfl (iN 17 noI) (pu_zero _) ?_))
  clear x0 x1 g1
  generalize ((w.alloc (.cells #[.int .i64 H, .int .i64 o] 32)).alloc (.cells (iN 17 noI) 51)).alloc (.cells (iN 17 (wP H T kind G 0)) 51) = w1 at *
  go_loopw [19] (fun x wr => ∃ i : Nat, i ≤ n ∧ x = .int .i64 i ∧ Hid (GpT w H o (wP H T kind G i) wr)) (fun x _ => n - (intOf x).toNat)
  case atStart => exact ⟨0, by omega, rfl, hst⟩
  case round =>
    obtain ⟨i, hi, rfl, hS⟩ := hrel
    obtain ⟨wa, rfl⟩ : ∃ wa : World, wa = wr := ⟨_, rfl⟩
    by_cases hlt : i < n
    · have h2 : (H + T) ^ i ≤ 1000000 := by
        rw [hHT]
        have a : o ^ i ≤ 10 ^ i := by
          have ho : ((o.toNat : Nat) : Int) = o := Int.toNat_of_nonneg (by omega)
          rw [← ho]
          have := Nat.pow_le_pow_left (show o.toNat ≤ 10 by omega) i
          have e2 : ((o.toNat ^ i : Nat) : Int) ≤ ((10 ^ i : Nat) : Int) := by omega
          simpa using e2
        have b : (10 : Int) ^ i ≤ 1000000 := by
          match i, (show i ≤ 5 by omega) with
          | 0, _ | 1, _ | 2, _ | 3, _ | 4, _ | 5, _ => decide
        omega
      have HF : Hid (∀ q, 0 ≤ wP H T kind G i q ∧ wP H T kind G i q ≤ 1000000) := Lib.hid (fun q => ⟨(hV.out i q).1, Int.le_trans (hV.out i q).2 h2⟩)
      clear h2
      have hnx : Hid (iN 17 (wiG H T kind (wP H T kind G i) G (G + 1)) = iN 17 (wP H T kind G (i + 1))) := rfl
      generalize wP H T kind G i = F at *
      have hN0 := Lib.hid (PuN.start wa)
      have hz := Lib.hid (wiG_zero H T kind F G)
      have hbig := hS.out.big
      go_wp2_with (first
        | (refine wpList_alloc_row rfl 51 rfl (iN 17 noI) (pu_zero _) ?_))
      go_loopw [23] (fun x wr => ∃ k : Nat, k ≤ G + 1 ∧ x = .int .i64 k ∧ Hid (PuN wa (wiG H T kind F G k) wr)) (fun x _ => G + 1 - (intOf x).toNat)
      case atStart => exact ⟨0, by omega, rfl, by rw [hz.out]; exact hN0⟩
      case round =>
        obtain ⟨k, hk, rfl, hN⟩ := hrel
        obtain ⟨wb, rfl⟩ : ∃ wb : World, wb = wr := ⟨_, rfl⟩
        have hSb := Lib.hid (hS.out.keep hN.out.2)
        by_cases hkl : k < G + 1
        · have hki : (k : Int) < (G : Int) + 1 := by omega
          have bs := Lib.hid (Box2.new wb (.int .i64 k) (.int .i64 G) 25)
          have hba := bel_alloc (Below.refl _ wb) (.cells #[.int .i64 k, .int .i64 G] 25)
          have hN2 := Lib.hid (hN.out.keep hN.out.big hba)
          have eg := EGL.out
          have HL := Lib.hid (HLO.out k (by omega))
          have HM := Lib.hid (HHI.out k (by omega))
          clear hba
          go_wp2_with fail
          clear eg
          refine (HL.out _).mono ?_
          rintro e w3 ⟨rfl, hb3⟩
          have bs3 := Lib.hid (bs.out.keep hb3)
          have hN3 := Lib.hid (hN2.out.keep hN2.out.big hb3)
          rw [← wiH_zero] at hN3
          clear hb3
          have hwab := hN.out.big
          have hst0 : Hid (loN kind k G ≤ hiN kind k G ∧ hiN kind k G ≤ bdN k G) := Lib.hid (by unfold loN hiN bdN; split <;> split <;> omega)
          have hall := Lib.hid (wiH_all H T kind F G k)
          go_wp2_with fail
          go_loopw [15] (fun x wr => ∃ St : Nat, loN kind k G ≤ St ∧ St ≤ hiN kind k G + 1 ∧ x = .int .i64 St ∧ Hid (PuN wa (wiH H T kind F G k (St - loN kind k G)) wr) ∧ Hid (Box2 wr wb.heap.size (.int .i64 k) (.int .i64 G))) (fun x _ => hiN kind k G + 1 - (intOf x).toNat)
          case atStart => exact ⟨loN kind k G, Nat.le_refl _, by have := hst0.out; omega, rfl, by rw [Nat.sub_self]; exact hN3, bs3⟩
          case round =>
            obtain ⟨St, hs1, hs2, rfl, hP, hB⟩ := hrel
            obtain ⟨wc, rfl⟩ : ∃ wc : World, wc = wr := ⟨_, rfl⟩
            obtain ⟨d0, d1, d2⟩ := hB.out
            have eg := EGM.out
            by_cases hsl : St ≤ hiN kind k G
            · have hsi : (St : Int) ≤ ((hiN kind k G : Nat) : Int) := by omega
              go_wp2_with fail
              clear eg
              refine (HM.out _).mono ?_
              rintro e w5 ⟨rfl, hb5⟩
              have hP5 := Lib.hid (hP.out.keep hP.out.big hb5)
              have hB5 := Lib.hid (hB.out.keep hb5)
              clear hb5 d0 d1 d2
              go_wp2_with fail
              have hSc := Lib.hid (hS.out.keep hP5.out.2)
              obtain ⟨hx1, hx2⟩ := hst0.out
              have hx3 : k + St ≤ G ∧ St ≤ k := by unfold bdN at hx2; omega
              obtain ⟨hx3, hx4⟩ := hx3
              have hbe := Lib.hid (fun W => pbehind_any H T o F k St G W hc hT h16 hx3 hx4 HF.out)
              have hpi := (ptI_in hH hT0 HF.out k St)
              have hqi := (pmS_in hH hT0 HF.out k (loN kind k G) (St - loN kind k G))
              have hnew := Lib.hid (show pmS H T F k (loN kind k G) (St + 1 - loN kind k G) = (if pmS H T F k (loN kind k G) (St - loN kind k G) < ptI H T F k St then ptI H T F k St else pmS H T F k (loN kind k G) (St - loN kind k G)) from by
                rw [show St + 1 - loN kind k G = (St - loN kind k G) + 1 from by omega]
                show max _ (ptI H T F k (loN kind k G + (St - loN kind k G))) = _
                rw [show loN kind k G + (St - loN kind k G) = St from by omega, Int.max_def]
                split <;> split <;> omega)
              obtain ⟨x0, x1⟩ := hP5.out.cells k (by omega)
              rw [wiH_at] at x0
              obtain ⟨d0, d1, d2⟩ := hB5.out
              obtain ⟨c0, c1, c2⟩ := hSc.out.box
              obtain ⟨cs, hcs⟩ : ∃ cs : List Value, cs = (List.range 17).map (fun i => Value.int .i64 (F i)) := ⟨_, rfl⟩
              have hcl : cs.length = 17 := by rw [hcs]; simp
              have hrg : Hid (World.rangeAt w5 (w.heap.size + 1 + 1) 0 cs) := Lib.hid (by
                intro j v hv
                have hj : j < 17 := by rw [← hcl]; exact (List.getElem?_eq_some_iff.1 hv).1
                rw [hcs, List.getElem?_map, List.getElem?_range hj] at hv
                rw [Nat.zero_add, cell_heap hSc.out.here (iN_get 17 F j hj)]
                exact hv)
              have hA : Hid (iN 17 F = cs.toArray) := Lib.hid (by rw [hcs]; rfl)
              rw [hA.out] at hbe
              have hz1 : w.heap.size + 1 + 1 < w5.heap.size := hSc.out.big
              have hz2 : w.heap.size < w5.heap.size := c2
              have hz3 : wb.heap.size < w5.heap.size := d2
              have hz4 := hS.out.bel.size
              clear hcs
              have hk17 : (k : Int) < 17 := by omega
              have KR : Hid (∀ W1 : World, Below w5.heap.size w5 W1 → W1.cell? ⟨wa.heap.size, k, none⟩ = some (.int .i64 (pmS H T F k (loN kind k G) (St - loN kind k G))) ∧ W1.frozen? ⟨wa.heap.size, k, none⟩ = false ∧ Hid (PuN wa (wiH H T kind F G k (St + 1 - loN kind k G)) (W1.setCell ⟨wa.heap.size, k, none⟩ (.int .i64 (if pmS H T F k (loN kind k G) (St - loN kind k G) < ptI H T F k St then ptI H T F k St else pmS H T F k (loN kind k G) (St - loN kind k G))))) ∧ Hid (Box2 (W1.setCell ⟨wa.heap.size, k, none⟩ (.int .i64 (if pmS H T F k (loN kind k G) (St - loN kind k G) < ptI H T F k St then ptI H T F k St else pmS H T F k (loN kind k G) (St - loN kind k G)))) wb.heap.size (.int .i64 k) (.int .i64 G))) := Lib.hid (by
                intro W1 hW
                have hP6 := hP5.out.keep hP5.out.big hW
                have hB6 := hB5.out.keep hW
                obtain ⟨y0, y1⟩ := hP6.cells k (by omega)
                rw [wiH_at] at y0
                refine ⟨y0, y1, Lib.hid (hP6.set k (by omega) _ (by rw [wiH_at, hnew.out]) (fun j _ hj => wiH_old H T kind F G k _ _ j hj)), Lib.hid ?_⟩
                have e := (grown_one W1 wa.heap.size k (.int .i64 (if pmS H T F k (loN kind k G) (St - loN kind k G) < ptI H T F k St then ptI H T F k St else pmS H T F k (loN kind k G) (St - loN kind k G)))).block wb.heap.size hB6.2.2 (by simp; omega)
                exact ⟨(World.cell?_of_block (w := W1) (a := ⟨wb.heap.size, 0, none⟩) e).trans hB6.1, (World.cell?_of_block (w := W1) (a := ⟨wb.heap.size, 1, none⟩) e).trans hB6.2.1, by simpa using hB6.2.2⟩)
              clear hnew
              generalize pmS H T F k (loN kind k G) (St - loN kind k G) = X at *
              generalize ptI H T F k St = Y at *
              refine wp_region_held_drew (S := fun w' => w'.rangeAt (w.heap.size + 1 + 1) 0 cs ∧ w'.cell? ⟨w.heap.size, 0, none⟩ = some (.int .i64 H) ∧ w'.cell? ⟨w.heap.size, 1, none⟩ = some (.int .i64 o) ∧ w'.cell? ⟨wb.heap.size, 0, none⟩ = some (.int .i64 (k : Int)) ∧ w'.cell? ⟨wb.heap.size, 1, none⟩ = some (.int .i64 (G : Int))) (by kernel_rfl) (by exact ⟨hrg.out, c0, c1, d0, d1⟩) (fun hHeld => ?_)
              refine wpAnyH_take (i := 0) (oi := _) (v := ?v1) rfl (by kernel_rfl) (by kernel_rfl) (by kernel_rfl) (fun _ _ _ h => h) (Or.inl ⟨by rfl, ?y1⟩) (by assumption) ?r1
              case y1 => (intro w hSw; (try dsimp only at hSw); go_simp; try with_reducible rfl)
              try simp only [Act.put, List.setIfInBounds_toArray, List.set_cons_zero, List.set_cons_succ]
              refine wpAnyH_take (i := 1) (oi := _) (v := ?v2) rfl (by kernel_rfl) (by kernel_rfl) (by kernel_rfl) (fun _ _ _ h => h) (Or.inl ⟨by rfl, ?y2⟩) (by assumption) ?r2
              case y2 => (intro w hSw; (try dsimp only at hSw); go_simp; try with_reducible rfl)
              try simp only [Act.put, List.setIfInBounds_toArray, List.set_cons_zero, List.set_cons_succ]
              refine wpAnyH_take (i := 2) (oi := _) (v := ?v3) rfl (by kernel_rfl) (by kernel_rfl) (by kernel_rfl) (fun _ _ _ h => h) (Or.inl ⟨by rfl, ?y3⟩) (by assumption) ?r3
              case y3 => (intro w hSw; (try dsimp only at hSw); go_simp; try with_reducible rfl)
              try simp only [Act.put, List.setIfInBounds_toArray, List.set_cons_zero, List.set_cons_succ]
              refine' wpAnyH_take (i := 4) (oi := _) (v := _) rfl (by kernel_rfl) (by kernel_rfl) (by kernel_rfl) (fun _ _ _ h => h) (yieldsIf_load_mid (by rfl) _ _ rfl _ _ rfl cs _ ?hS ?hu ?hd ?hi) (by assumption) ?rest
              case hS => (intro w hSw; exact hSw.1)
              case hu => exact Try.underlying51
              case hd => rfl
              case hi => (rw [hcl]; exact pu_info)
              try simp only [Act.put, List.setIfInBounds_toArray, List.set_cons_zero, List.set_cons_succ]
              refine wpAnyH_take (i := 5) (oi := _) (v := ?v5) rfl (by kernel_rfl) (by kernel_rfl) (by kernel_rfl) (fun _ _ _ h => h) (Or.inl ⟨by rfl, ?y5⟩) (by assumption) ?r5
              case y5 => (intro w hSw; (try dsimp only at hSw); go_simp; try with_reducible rfl)
              try simp only [Act.put, List.setIfInBounds_toArray, List.set_cons_zero, List.set_cons_succ]
              refine wpAnyH_take (i := 6) (oi := _) (v := ?v6) rfl (by kernel_rfl) (by kernel_rfl) (by kernel_rfl) (fun _ _ _ h => h) (Or.inl ⟨by rfl, ?y6⟩) (by assumption) ?r6
              case y6 => (intro w hSw; (try dsimp only at hSw); go_simp; try with_reducible rfl)
              try simp only [Act.put, List.setIfInBounds_toArray, List.set_cons_zero, List.set_cons_succ]
              refine wpAnyH_take (i := 7) (oi := _) (v := ?v7) rfl (by kernel_rfl) (by kernel_rfl) (by kernel_rfl) (fun _ _ _ h => h) (Or.inl ⟨by rfl, ?y7⟩) (by assumption) ?r7
              case y7 => (intro w hSw; (try dsimp only at hSw); go_simp; try with_reducible rfl)
              try simp only [Act.put, List.setIfInBounds_toArray, List.set_cons_zero, List.set_cons_succ]
              refine wpAnyH_ready (rs := [3, 8]) (by kernel_rfl) (by simp) ?_
              refine AllReadyH.cons (o := _) rfl (fun K hK => ?_) ?_
              · (go_simp)
                refine hK.out _ _ ?_ (fun hHeld => ?_)
                · (try dsimp only); first | assumption | exact sx_keep (by assumption) hb6 hz1 hz2 hz3 | exact sx_set (by assumption) _ _ (by omega) (by omega) (by omega)
                clear hK K
                try simp only [Act.put, List.setIfInBounds_toArray, List.set_cons_zero, List.set_cons_succ]
                refine wpAnyH_ready (rs := [8]) (by kernel_rfl) (by simp) ?_
                refine AllReadyH.cons (o := _) rfl (fun K hK => ?_) ?_
                · (go_simp; go_at_call 75; refine (hbe.out _).mono ?_; rintro e w6 ⟨rfl, hb6⟩; obtain ⟨y0, y1, y2, y3⟩ := KR.out _ (bel_undrewN (n := 1) hb6))
                  refine hK.out _ _ ?_ (fun hHeld => ?_)
                  · (try dsimp only); first | assumption | exact sx_keep (by assumption) hb6 hz1 hz2 hz3 | exact sx_set (by assumption) _ _ (by omega) (by omega) (by omega)
                  clear hK K
                  try simp only [Act.put, List.setIfInBounds_toArray, List.set_cons_zero, List.set_cons_succ]
                  refine wpAnyH_take (i := 9) (oi := _) (v := ?v8) rfl (by kernel_rfl) (by kernel_rfl) (by kernel_rfl) (fun _ _ _ h => h) (Or.inl ⟨by rfl, ?y8⟩) (by assumption) ?r8
                  case y8 => (intro w hSw; (try dsimp only at hSw); go_simp; try with_reducible rfl)
                  try simp only [Act.put, List.setIfInBounds_toArray, List.set_cons_zero, List.set_cons_succ]
                  refine wpAnyH_take (i := 10) (oi := _) (v := ?v9) rfl (by kernel_rfl) (by kernel_rfl) (by kernel_rfl) (fun _ _ _ h => h) (Or.inl ⟨by rfl, ?y9⟩) (by assumption) ?r9
                  case y9 => (intro w hSw; (try dsimp only at hSw); go_simp; try with_reducible rfl)
                  try simp only [Act.put, List.setIfInBounds_toArray, List.set_cons_zero, List.set_cons_succ]
                  refine wpAnyH_ready (rs := [11]) (by kernel_rfl) (by simp) ?_
                  refine AllReadyH.cons (o := _) rfl (fun K hK => ?_) ?_
                  · (go_simp)
                    refine hK.out _ _ ?_ (fun hHeld => ?_)
                    · (try dsimp only); first | assumption | exact sx_keep (by assumption) hb6 hz1 hz2 hz3 | exact sx_set (by assumption) _ _ (by omega) (by omega) (by omega)
                    clear hK K
                    try simp only [Act.put, List.setIfInBounds_toArray, List.set_cons_zero, List.set_cons_succ]
                    refine wpAnyH_done (by kernel_rfl) ?_ _
                    go_wp2_with fail
                    exact ⟨⟨St + 1, by omega, by omega, by go_num, y2, y3⟩, by simp [intOf]; omega⟩
                  exact AllReadyH.nil
                exact AllReadyH.nil
              refine AllReadyH.cons (o := _) rfl (fun K hK => ?_) ?_
              · (go_simp; go_at_call 75; refine (hbe.out _).mono ?_; rintro e w6 ⟨rfl, hb6⟩; obtain ⟨y0, y1, y2, y3⟩ := KR.out _ (bel_undrewN (n := 1) hb6))
                refine hK.out _ _ ?_ (fun hHeld => ?_)
                · (try dsimp only); first | assumption | exact sx_keep (by assumption) hb6 hz1 hz2 hz3 | exact sx_set (by assumption) _ _ (by omega) (by omega) (by omega)
                clear hK K
                try simp only [Act.put, List.setIfInBounds_toArray, List.set_cons_zero, List.set_cons_succ]
                refine wpAnyH_ready (rs := [3]) (by kernel_rfl) (by simp) ?_
                refine AllReadyH.cons (o := _) rfl (fun K hK => ?_) ?_
                · (go_simp)
                  refine hK.out _ _ ?_ (fun hHeld => ?_)
                  · (try dsimp only); first | assumption | exact sx_keep (by assumption) hb6 hz1 hz2 hz3 | exact sx_set (by assumption) _ _ (by omega) (by omega) (by omega)
                  clear hK K
                  try simp only [Act.put, List.setIfInBounds_toArray, List.set_cons_zero, List.set_cons_succ]
                  refine wpAnyH_take (i := 9) (oi := _) (v := ?v10) rfl (by kernel_rfl) (by kernel_rfl) (by kernel_rfl) (fun _ _ _ h => h) (Or.inl ⟨by rfl, ?y10⟩) (by assumption) ?r10
                  case y10 => (intro w hSw; (try dsimp only at hSw); go_simp; try with_reducible rfl)
                  try simp only [Act.put, List.setIfInBounds_toArray, List.set_cons_zero, List.set_cons_succ]
                  refine wpAnyH_take (i := 10) (oi := _) (v := ?v11) rfl (by kernel_rfl) (by kernel_rfl) (by kernel_rfl) (fun _ _ _ h => h) (Or.inl ⟨by rfl, ?y11⟩) (by assumption) ?r11
                  case y11 => (intro w hSw; (try dsimp only at hSw); go_simp; try with_reducible rfl)
                  try simp only [Act.put, List.setIfInBounds_toArray, List.set_cons_zero, List.set_cons_succ]
                  refine wpAnyH_ready (rs := [11]) (by kernel_rfl) (by simp) ?_
                  refine AllReadyH.cons (o := _) rfl (fun K hK => ?_) ?_
                  · (go_simp)
                    refine hK.out _ _ ?_ (fun hHeld => ?_)
                    · (try dsimp only); first | assumption | exact sx_keep (by assumption) hb6 hz1 hz2 hz3 | exact sx_set (by assumption) _ _ (by omega) (by omega) (by omega)
                    clear hK K
                    try simp only [Act.put, List.setIfInBounds_toArray, List.set_cons_zero, List.set_cons_succ]
                    refine wpAnyH_done (by kernel_rfl) ?_ _
                    go_wp2_with fail
                    exact ⟨⟨St + 1, by omega, by omega, by go_num, y2, y3⟩, by simp [intOf]; omega⟩
                  exact AllReadyH.nil
                exact AllReadyH.nil
              exact AllReadyH.nil
            · have hsi : ¬ (St : Int) ≤ ((hiN kind k G : Nat) : Int) := by omega
              have hPd : Hid (PuN wa (wiG H T kind F G (k + 1)) wc) := by
                rw [← hall.out, show hiN kind k G - loN kind k G + 1 = St - loN kind k G from by have := hst0.out; omega]
                exact hP
              clear hP hs1 hs2 hsl
              go_wp2_with fail
              clear eg
              refine (HM.out _).mono ?_
              rintro e w5 ⟨rfl, hb5⟩
              have hP5 := Lib.hid (hPd.out.keep hPd.out.big hb5)
              go_wp2_with fail
              exact ⟨⟨k + 1, by omega, by go_num, hP5⟩, by simp [intOf]; omega⟩
        · have hki : ¬ (k : Int) < (G : Int) + 1 := by omega
          have hNG : Hid (PuN wa (wiG H T kind F G (G + 1)) wb) := by rw [show G + 1 = k from by omega]; exact hN
          clear hN hk hkl
          go_wp2_with (first
            | (refine wpList_load_row rfl 51 (.tmp 12) rfl wa.heap.size (by simp [Act.put, Act.eval]) _ (iN 17 (wiG H T kind F G (G + 1))) _ _ hNG.out.1 Try.underlying51 rfl (by rw [iN_size]; exact pu_info) ?_)
            | (refine wpList_store_row rfl 51 (.tmp 11) (.tmp 51) rfl (w.heap.size + 1 + 1) (iN 17 (wiG H T kind F G (G + 1))) (by simp [Act.put, Act.eval]) (by simp [Act.put, Act.eval]) _ _ hSb.out.here (by rw [iN_size]; exact pu_info) (by rw [iN_size, iN_size]) (iN_one _ _) ?_))
          rw [hnx.out]
          exact ⟨⟨i + 1, by omega, by go_num, Lib.hid hSb.out.setHere⟩, by simp [intOf]; omega⟩
    · obtain rfl : i = n := by omega
      go_wp2_with (first
        | (refine wpList_load_row rfl 51 (.tmp 11) rfl (w.heap.size + 1 + 1) (by simp [Act.put, Act.eval]) _ (iN 17 (wP H T kind G i)) _ _ hS.out.here Try.underlying51 rfl (by rw [iN_size]; exact pu_info) ?_)
        | (refine wpList_store_row rfl 51 (.tmp 10) (.tmp 53) rfl (w.heap.size + 1) (iN 17 (wP H T kind G i)) (by simp [Act.put, Act.eval]) (by simp [Act.put, Act.eval]) _ _ hS.out.res (by rw [iN_size]; exact pu_info) (by rw [iN_size, iN_size]) (iN_one _ _) ?_))
      refine bodyPost_ret (results_cell_row rfl _ _ (w.heap.size + 1) _ (iN 17 (wP H T kind G i)) _ _ (by simp [Act.put, Act.eval]) (setRow_heap _ _ _ _ _ _ hS.out.res) Try.underlying51 rfl (by rw [iN_size]; exact pu_info)) rfl ⟨rfl, ?_⟩
      exact bel_setRow hS.out.bel (by omega) _
end Go.Proofs.Ytfogipdhipipfaa
