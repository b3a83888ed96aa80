/- ParseStates: the model's reading, whole. -/
import Derived.Test.YtbfgieolehbedaaDoorPsS1
import Derived.Test.YtbfgieolehbedaaDoorPsS2
namespace Go.Proofs.YtbfgieolehbedaaDoor
open Go.ChangeShapes Go.WideShapes Go.ChangeAt Go.RowKit
set_option linter.unusedVariables false
set_option linter.unusedSimpArgs false

set_option maxRecDepth 100000 in
set_option maxHeartbeats 3200000 in
theorem saParse_any (s : ByteArray) (w : World) (hs : s.size ≤ 1048576) :
    Calls Tryd.prog 15 #[.string s] w (PsAns (limQ s) (mQ s) (okM s) w) := by
  by_cases h90 : s.size ≤ 90
  · obtain ⟨p0, PZ, hPZ⟩ := prt_cons s.data.toList 59
    rcases Nat.eq_zero_or_pos PZ.length with h0 | h0
    · exact saParse_nil s w hs h90 p0 PZ hPZ h0
    · exact saParse_some s w hs h90 p0 PZ hPZ h0
  · have br0 := Lib.hid (Bx2.new w (.int .i64 0) nilS 24)
    have bl0 := Lib.hid (bel_alloc (Below.refl _ w) (.cells #[.int .i64 0, nilS] 24))
    have z5 : (90 : Int) < (s.size : Int) := by omega
    have hok : okM s = false := by unfold okM; simp [h90]
    have hl : limQ s = 0 := by unfold limQ; rw [if_neg h90]
    have hm : mQ s = [] := by unfold mQ; rw [if_neg h90]
    rw [hok, hl, hm]
    obtain ⟨r0, r1, r2, r3, r4⟩ := br0.out
    clear hok hl hm h90
    go_enter Tryd.func15, Tryd.ntmps15
    go_wp2_with fail
    obtain ⟨n0, n1, _⟩ := br0.out.set (.int .i64 0) nilS
    refine bodyPost_ret (v := .tuple #[sts 0 nilS, .bool false]) (by simp [results, Tryd.results15, go_sem, n0, n1]) rfl ?_
    exact ⟨nilS, rfl, OwnM.empty _ (Nat.le_refl _), bl0.out⟩
end Go.Proofs.YtbfgieolehbedaaDoor
