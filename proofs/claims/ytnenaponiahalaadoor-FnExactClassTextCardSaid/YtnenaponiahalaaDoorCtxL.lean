/- 'FnExactClassText' answers as its model, at every argument: the walk of the law. -/
import Derived.Test.YtnenaponiahalaaDoorKtQ
import Derived.Test.YtnenaponiahalaaDoorKlO
import Derived.Test.YtnenaponiahalaaDoorKlK
import Derived.Test.YtnenaponiahalaaDoorLwK
import Derived.RegionTactic
import Derived.Deep.RegionWith
namespace Go.Proofs.YtnenaponiahalaaDoor.CtxL
open Go.RowKit Lb Bk LwK
set_option linter.unusedSimpArgs false
set_option linter.unusedVariables false

set_option maxRecDepth 100000 in
set_option maxHeartbeats 8000000 in
theorem law_any (W : World) (hG0 : Fmt.Tab W) (f0 : Kl) (hi0 : KlK.Is f0) :
    Calls Tryd.prog 3 #[.agg #[.int .i64 f0.id, .string f0.nm, .int .i64 f0.lo, .int .i64 f0.hi, .bool f0.wo, .bool f0.me, .int .i64 f0.co, .int .i64 f0.mo]] W fun e w' => e = .returned (.bool true) ∧ Below W.heap.size W w' := by
  have hG := Lib.hid hG0
  clear hG0
  have hB := Lib.hid (show Below W.heap.size W (W.alloc (.cells #[.int .i64 f0.id, .string f0.nm, .int .i64 f0.lo, .int .i64 f0.hi, .bool f0.wo, .bool f0.me, .int .i64 f0.co, .int .i64 f0.mo] 23)) from ((Below.refl _ _).alloc (by simp) _))
  have hK0 := Lib.hid (Blk.new W 23 #[.int .i64 f0.id, .string f0.nm, .int .i64 f0.lo, .int .i64 f0.hi, .bool f0.wo, .bool f0.me, .int .i64 f0.co, .int .i64 f0.mo])
  have hF0 := Lib.hid hi0
  clear hi0
  go_enter Tryd.func3, Tryd.ntmps3
  obtain ⟨⟨p0, p1, p2, p3, p4, p5, p6, p7⟩, -⟩ := KlK.blk_cells hK0.out
  have hsn0 := KlK.sz_nn f0
  by_cases hfit0 : KlK.sz f0 ≤ 1048576
  case neg =>
    go_wp2_with fail
    refine (KlK.sz_no f0 hF0.out _ _ (by omega) (by omega) (by omega)).mono ?_
    rintro e w1 ⟨rfl, hb⟩
    replace hB := Lib.hid (hB.out.trans (hb.mono hB.out.size))
    go_wp2
    go_ret
    exact ⟨rfl, hB.out⟩
  obtain ⟨r0, hr0⟩ : ∃ r, 1048576 - KlK.sz f0 = r := ⟨_, rfl⟩
  have hz := Lib.hid (fun w => hr0 ▸ KlK.sz_yes f0 1048576 w (by omega) hfit0)
  have hneg0 : decide (r0 < 0) = false := decide_eq_false (by omega)
  have hv0 : 0 ≤ r0 := by omega
  have hw0 : r0 ≤ 1048576 := by omega
  clear hr0 hfit0
  go_wp2_with fail
  refine (hz.out _).mono ?_
  rintro e w1 ⟨rfl, hb⟩
  replace hB := Lib.hid (hB.out.trans (hb.mono hB.out.size))
  replace hK0 := Lib.hid (hK0.out.later hb)
  clear hb hz
  clear p0 p1 p2 p3 p4 p5 p6 p7
  obtain ⟨u0, u1, HS, HI⟩ := KtQ.both f0 hF0.out
  replace HS := Lib.hid HS
  replace HI := Lib.hid HI
  obtain ⟨⟨p0, p1, p2, p3, p4, p5, p6, p7⟩, -⟩ := KlK.blk_cells hK0.out
  go_wp2_with fail
  refine (KlK.to_any f0 _).mono ?_
  rintro e w1 ⟨rfl, hb⟩
  replace hB := Lib.hid (hB.out.trans (hb.mono hB.out.size))
  replace hK0 := Lib.hid (hK0.out.later hb)
  clear hb
  clear p0 p1 p2 p3 p4 p5 p6 p7
  go_wp2_with fail
  refine (HS.out  _ ).mono ?_
  rintro e w1 ⟨rfl, hb⟩
  replace hB := Lib.hid (hB.out.trans (hb.mono hB.out.size))
  replace hK0 := Lib.hid (hK0.out.later hb)
  clear hb
  obtain ⟨⟨p0, p1, p2, p3, p4, p5, p6, p7⟩, -⟩ := KlK.blk_cells hK0.out
  go_wp2_with fail
  refine (KlK.to_any f0 _).mono ?_
  rintro e w1 ⟨rfl, hb⟩
  replace hB := Lib.hid (hB.out.trans (hb.mono hB.out.size))
  replace hK0 := Lib.hid (hK0.out.later hb)
  clear hb
  clear p0 p1 p2 p3 p4 p5 p6 p7
  go_wp2_with fail
  refine (HI.out  _  (RuQ.tab_below hG.out hB.out)).mono ?_
  rintro e w1 ⟨rfl, hb⟩
  replace hB := Lib.hid (hB.out.trans (hb.mono hB.out.size))
  replace hK0 := Lib.hid (hK0.out.later hb)
  clear hb
  go_wp2
  go_ret
  exact ⟨rfl, hB.out⟩

end Go.Proofs.YtnenaponiahalaaDoor.CtxL
