/- The text of a puzzle that is read: both readings give back what was written. -/
import Derived.Test.YthmdkbeccohjkaaDoorJn
import Derived.Test.YthmdkbeccohjkaaDoorPtzI
namespace Go.Proofs.YthmdkbeccohjkaaDoor
set_option linter.unusedSimpArgs false
open Go.ChangeShapes Go.WideShapes Go.ChangeAt Go.RowKit
set_option linter.unusedVariables false

/-- The digits of a number up to 100. -/
def dd99 (n : Nat) : List UInt8 := if n < 10 then [UInt8.ofNat (48 + n)] else if n < 100 then [UInt8.ofNat (48 + n / 10), UInt8.ofNat (48 + n % 10)] else [49, 48, 48]
theorem dd99_eq (n : Nat) (h : n ≤ 100) : Lib.decDigits n = dd99 n := by
  unfold dd99
  rw [Lib.decDigits]
  split
  · rfl
  · split
    · rw [Lib.decDigits, dif_pos (by omega)]
      rfl
    · obtain rfl : n = 100 := by omega
      rw [Lib.decDigits]
      rw [dif_neg (by decide), Lib.decDigits]
      rfl
def chkZ (n : Nat) : Bool := decide (numI (dd99 n) = (n : Int)) && (decide (rdN (dd99 n) = (n : Int)) && (decide ((58 : UInt8) ∉ dd99 n) && (decide ((44 : UInt8) ∉ dd99 n) && decide ((46 : UInt8) ∉ dd99 n))))
set_option maxRecDepth 100000 in
theorem chkZ_all : ((List.range 101).all fun n => chkZ n) = true := by kernel_rfl
def ddZ (v : Int) : List UInt8 := dd99 v.toNat
theorem chkZ_at {v : Int} (h0 : 0 ≤ v) (h1 : v ≤ 100) : numI (ddZ v) = v ∧ rdN (ddZ v) = v ∧ (58 : UInt8) ∉ ddZ v ∧ (44 : UInt8) ∉ ddZ v ∧ (46 : UInt8) ∉ ddZ v := by
  have h := List.all_eq_true.1 chkZ_all v.toNat (by rw [List.mem_range]; omega)
  unfold chkZ at h
  simp only [Bool.and_eq_true, decide_eq_true_eq] at h
  have hv : (v.toNat : Int) = v := by omega
  rw [hv] at h
  exact h
theorem numS_listZ {v : Int} (h1 : v ≤ 100) : (numS v.toNat).data.toList = ddZ v := by
  unfold numS ddZ
  rw [← dd99_eq _ (by omega)]
/-- The text of a clue, and of a puzzle. -/
def cluL (t : Tri) : List UInt8 := jn 46 [ddZ t.1, ddZ t.2.1, ddZ t.2.2]
def pzL (o : Int) (ts : List Tri) : List UInt8 := jn 58 [ddZ o, jn 44 (ts.map cluL)]
/-- What both sides read well. -/
def TriIn (t : Tri) : Prop := 0 ≤ t.1 ∧ t.1 ≤ 100 ∧ 0 ≤ t.2.1 ∧ t.2.1 ≤ 100 ∧ 0 ≤ t.2.2 ∧ t.2.2 ≤ 100
theorem tri_in {t : Tri} (h : clG t = true) : TriIn t := by
  obtain ⟨r1, r2, r3, r4, r5, r6, _⟩ := clG_in h
  exact ⟨r1, by omega, r3, r4, r5, r6⟩
theorem cluT3_list {t : Tri} (h : TriIn t) : (cluT3 t).data.toList = cluL t := by
  obtain ⟨h1, h2, h3, h4, h5, h6⟩ := h
  unfold cluT3 cluT cluL
  simp only [app_list, numS_listZ h2, numS_listZ h4, numS_listZ h6]
  simp [jn, List.append_assoc]
theorem inter_jn : ∀ l : List (List UInt8), [44].intercalate l = jn 44 l
  | [] => by simp [List.intercalate, jn]
  | [a] => by simp [List.intercalate, jn]
  | a :: b :: l => by
    have ih := inter_jn (b :: l)
    rw [jn_two 44 a (by simp), ← ih]
    unfold List.intercalate
    rw [List.intersperse_cons_cons, List.flatten_cons, List.flatten_cons]
    simp
theorem textP_list {o : Int} {ts : List Tri} (h : pzG o ts = true) : (textP o ts).data.toList = pzL o ts := by
  obtain ⟨o1, o2, _, hc⟩ := pzG_in h
  unfold textP
  rw [outP_join _ _ _ (by simp), List.take_of_length_le (by simp), app_list, app_list, numS_listZ (by omega)]
  unfold joinC Lib.join pzL
  rw [inter_jn, List.map_map]
  have e : ts.map ((fun x : ByteArray => x.data.toList) ∘ cluT3) = ts.map cluL := List.map_congr_left fun t ht => cluT3_list (tri_in (List.all_eq_true.1 hc t ht))
  rw [e]
  simp [jn, List.append_assoc]
/-- The program's reading. -/
def cutA (l : List UInt8) : List UInt8 := (Lib.cut l [46]).1
def cutZ (l : List UInt8) : List UInt8 := (Lib.cut l [46]).2.1
def clR (c : List UInt8) : Tri := (numI (cutA c), numI (cutA (cutZ c)), numI (cutZ (cutZ c)))
def oP (l : List UInt8) : Int := numI (Lib.cut l [58]).1
def rest58 (l : List UInt8) : List UInt8 := (Lib.cut l [58]).2.1
def tsP (l : List UInt8) : List Tri := if rest58 l = [] then [] else (pcs (rest58 l) 44).map clR
/-- The model's reading. -/
def clM (c : List UInt8) : Tri := (rdN ((prtL c 46).getD 0 []), rdN ((prtL c 46).getD 1 []), rdN ((prtL c 46).getD 2 []))
def oM (l : List UInt8) : Int := rdN ((prtL l 58).getD 0 [])
def rest2 (l : List UInt8) : List UInt8 := (prtL l 58).getD 1 []
def prtM (l : List UInt8) : List (List UInt8) := if rest2 l = [] then [] else prtL (rest2 l) 44
def tsM (l : List UInt8) : List Tri := (prtM l).map clM
def threeM (l : List UInt8) : Bool := (prtM l).all fun c => decide ((prtL c 46).length = 3)
theorem clu_free {t : Tri} (h : TriIn t) : (44 : UInt8) ∉ cluL t ∧ (58 : UInt8) ∉ cluL t ∧ (∀ z ∈ [ddZ t.1, ddZ t.2.1, ddZ t.2.2], (46 : UInt8) ∉ z) ∧ cluL t ≠ [] := by
  obtain ⟨h1, h2, h3, h4, h5, h6⟩ := h
  obtain ⟨_, _, a1, a2, a3⟩ := chkZ_at h1 h2
  obtain ⟨_, _, b1, b2, b3⟩ := chkZ_at h3 h4
  obtain ⟨_, _, c1, c2, c3⟩ := chkZ_at h5 h6
  refine ⟨fun hm => ?_, fun hm => ?_, ?_, ?_⟩
  · rcases mem_jn hm with e | ⟨z, hz, hc⟩
    · revert e; decide
    · simp at hz
      rcases hz with rfl | rfl | rfl
      · exact a2 hc
      · exact b2 hc
      · exact c2 hc
  · rcases mem_jn hm with e | ⟨z, hz, hc⟩
    · revert e; decide
    · simp at hz
      rcases hz with rfl | rfl | rfl
      · exact a1 hc
      · exact b1 hc
      · exact c1 hc
  · intro z hz
    simp at hz
    rcases hz with rfl | rfl | rfl
    · exact a3
    · exact b3
    · exact c3
  · unfold cluL
    simp [jn]
theorem cut_last {b : UInt8} {x : List UInt8} (h : b ∉ x) : Lib.cut x [b] = (x, [], false) := cut_no (by rw [idx_miss h]; decide)
theorem clR_back {t : Tri} (h : TriIn t) : clR (cluL t) = t := by
  obtain ⟨_, _, hf, _⟩ := clu_free h
  obtain ⟨h1, h2, h3, h4, h5, h6⟩ := h
  obtain ⟨a0, _⟩ := chkZ_at h1 h2
  obtain ⟨b0, _⟩ := chkZ_at h3 h4
  obtain ⟨c0, _⟩ := chkZ_at h5 h6
  have e1 : Lib.cut (cluL t) [46] = (ddZ t.1, jn 46 [ddZ t.2.1, ddZ t.2.2], true) := cut_jn (by simp) (hf _ (by simp))
  have e2 : Lib.cut (jn 46 [ddZ t.2.1, ddZ t.2.2]) [46] = (ddZ t.2.1, ddZ t.2.2, true) := cut_jn (Z := [ddZ t.2.2]) (by simp) (hf _ (by simp))
  unfold clR cutA cutZ
  rw [e1, e2]
  show (numI (ddZ t.1), numI (ddZ t.2.1), numI (ddZ t.2.2)) = t
  rw [a0, b0, c0]
theorem clM_back {t : Tri} (h : TriIn t) : clM (cluL t) = t ∧ (prtL (cluL t) 46).length = 3 := by
  obtain ⟨_, _, hf, _⟩ := clu_free h
  obtain ⟨h1, h2, h3, h4, h5, h6⟩ := h
  obtain ⟨_, a0, _⟩ := chkZ_at h1 h2
  obtain ⟨_, b0, _⟩ := chkZ_at h3 h4
  obtain ⟨_, c0, _⟩ := chkZ_at h5 h6
  have e : prtL (cluL t) 46 = [ddZ t.1, ddZ t.2.1, ddZ t.2.2] := prtL_jn (by simp) hf
  unfold clM
  rw [e]
  refine ⟨?_, rfl⟩
  show (rdN (ddZ t.1), rdN (ddZ t.2.1), rdN (ddZ t.2.2)) = t
  rw [a0, b0, c0]
theorem jn_nil {b : UInt8} {Z : List (List UInt8)} (h : ∀ z ∈ Z, z ≠ []) : jn b Z = [] ↔ Z = [] := by
  match Z, h with
  | [], _ => simp [jn]
  | [x], h => simp [jn]; exact h x (by simp)
  | x :: y :: r, _ => rw [jn_two b x (by simp)]; simp
theorem pz_back {o : Int} {ts : List Tri} (h : pzG o ts = true) : oP (pzL o ts) = o ∧ tsP (pzL o ts) = ts ∧ oM (pzL o ts) = o ∧ tsM (pzL o ts) = ts ∧ threeM (pzL o ts) = true ∧ (prtL (pzL o ts) 58).length = 2 := by
  obtain ⟨o1, o2, _, hc⟩ := pzG_in h
  have hin : ∀ t ∈ ts, TriIn t := fun t ht => tri_in (List.all_eq_true.1 hc t ht)
  obtain ⟨n1, n2, n3, _, _⟩ := chkZ_at (v := o) (by omega) (by omega)
  have hf44 : ∀ z ∈ ts.map cluL, (44 : UInt8) ∉ z := by
    intro z hz
    obtain ⟨t, ht, rfl⟩ := List.mem_map.1 hz
    exact (clu_free (hin t ht)).1
  have hf58 : (58 : UInt8) ∉ jn 44 (ts.map cluL) := by
    intro hm
    rcases mem_jn hm with e | ⟨z, hz, hc'⟩
    · revert e; decide
    · obtain ⟨t, ht, rfl⟩ := List.mem_map.1 hz
      exact (clu_free (hin t ht)).2.1 hc'
  have hnil : jn 44 (ts.map cluL) = [] ↔ ts.map cluL = [] := jn_nil fun z hz => by
    obtain ⟨t, ht, rfl⟩ := List.mem_map.1 hz
    exact (clu_free (hin t ht)).2.2.2
  have e1 : Lib.cut (pzL o ts) [58] = (ddZ o, jn 44 (ts.map cluL), true) := cut_jn (Z := [jn 44 (ts.map cluL)]) (by simp) n3
  have e2 : prtL (pzL o ts) 58 = [ddZ o, jn 44 (ts.map cluL)] := prtL_jn (by simp) (by
    intro z hz
    simp at hz
    rcases hz with rfl | rfl
    · exact n3
    · exact hf58)
  have hm1 : (ts.map cluL).map clR = ts := by
    rw [List.map_map]
    conv => rhs; rw [← List.map_id ts]
    exact List.map_congr_left fun t ht => clR_back (hin t ht)
  have hm2 : (ts.map cluL).map clM = ts := by
    rw [List.map_map]
    conv => rhs; rw [← List.map_id ts]
    exact List.map_congr_left fun t ht => (clM_back (hin t ht)).1
  have hr : rest58 (pzL o ts) = jn 44 (ts.map cluL) := by unfold rest58; rw [e1]
  have hr2 : rest2 (pzL o ts) = jn 44 (ts.map cluL) := by unfold rest2; rw [e2]; rfl
  have hp : prtM (pzL o ts) = ts.map cluL := by
    unfold prtM
    rw [hr2]
    split
    · rename_i hq
      exact (hnil.1 hq).symm
    · rename_i hq
      exact prtL_jn (fun e => hq (hnil.2 e)) hf44
  refine ⟨?_, ?_, ?_, ?_, ?_, ?_⟩
  · unfold oP; rw [e1]; exact n1
  · unfold tsP
    rw [hr]
    split
    · rename_i hq
      have := hnil.1 hq
      simpa using this.symm
    · rename_i hq
      rw [pcs_jn (fun e => hq (hnil.2 e)) hf44]
      exact hm1
  · unfold oM; rw [e2]; exact n2
  · unfold tsM; rw [hp]; exact hm2
  · unfold threeM
    rw [hp, List.all_eq_true]
    intro z hz
    obtain ⟨t, ht, rfl⟩ := List.mem_map.1 hz
    simpa using (clM_back (hin t ht)).2
  · rw [e2]; rfl
/-- Whether it is a text of a puzzle, for the program and for its model. -/
def okZ (s : ByteArray) : Bool := pzG (oP s.data.toList) (tsP s.data.toList) && decide (textP (oP s.data.toList) (tsP s.data.toList) = s)
def preM (s : ByteArray) : Bool := decide (s.size ≤ 100) && decide ((prtL s.data.toList 58).length = 2)
def okW (s : ByteArray) : Bool := pzG (oM s.data.toList) (tsM s.data.toList) && decide (textP (oM s.data.toList) (tsM s.data.toList) = s)
def okY (s : ByteArray) : Bool := preM s && (threeM s.data.toList && okW s)
theorem okZ_Y {s : ByteArray} (h : okZ s = true) : okY s = true ∧ oM s.data.toList = oP s.data.toList ∧ tsM s.data.toList = tsP s.data.toList := by
  unfold okZ at h
  rw [Bool.and_eq_true, decide_eq_true_eq] at h
  obtain ⟨h1, h2⟩ := h
  have e : s.data.toList = pzL (oP s.data.toList) (tsP s.data.toList) := by
    have := textP_list h1
    rw [h2] at this
    exact this
  obtain ⟨_, _, a, b, c, d⟩ := pz_back h1
  rw [← e] at a b c d
  refine ⟨?_, a, b⟩
  obtain ⟨o1, o2, l6, hc⟩ := pzG_in h1
  have hsz := outP_size (oP s.data.toList).toNat ((tsP s.data.toList).map cluT3) (by omega) (clu_texts hc) (tsP s.data.toList).length
  have e2 : (textP (oP s.data.toList) (tsP s.data.toList)).size ≤ 4 + 12 * (tsP s.data.toList).length := hsz
  rw [h2] at e2
  have e3 : s.size ≤ 100 := by omega
  unfold okY preM okW
  rw [a, b, c, d, h1, h2]
  simp [e3]
theorem okY_Z {s : ByteArray} (h : okW s = true) : okZ s = true ∧ oM s.data.toList = oP s.data.toList ∧ tsM s.data.toList = tsP s.data.toList := by
  unfold okW at h
  rw [Bool.and_eq_true, decide_eq_true_eq] at h
  obtain ⟨h1, h2⟩ := h
  have e : s.data.toList = pzL (oM s.data.toList) (tsM s.data.toList) := by
    have := textP_list h1
    rw [h2] at this
    exact this
  obtain ⟨a, b, _⟩ := pz_back h1
  rw [← e] at a b
  refine ⟨?_, a.symm, b.symm⟩
  unfold okZ
  rw [a, b, h1, h2]
  simp
theorem okY_same (s : ByteArray) : okY s = okZ s := by
  cases h : okZ s with
  | true => exact (okZ_Y h).1
  | false =>
    cases h2 : okY s with
    | false => rfl
    | true =>
      unfold okY at h2
      simp only [Bool.and_eq_true] at h2
      rw [(okY_Z h2.2.2).1] at h
      cases h
end Go.Proofs.YthmdkbeccohjkaaDoor
