/- 'FnExactParseClass' answers as its model, at every argument: the walk of the law. -/
import Derived.Test.YtnenaponiahalaaDoorKpI
import Derived.Test.YtnenaponiahalaaDoorKlS
import Derived.Test.YtnenaponiahalaaDoorKlO
import Derived.Test.YtnenaponiahalaaDoorLwK
import Derived.RegionTactic
import Derived.Deep.RegionWith
namespace Go.Proofs.YtnenaponiahalaaDoor.KpaL
open Go.RowKit Lb Bk LwK
set_option linter.unusedSimpArgs false
set_option linter.unusedVariables false

set_option maxRecDepth 100000 in
set_option maxHeartbeats 8000000 in
theorem law_any (W : World) (hG0 : KpI.Gl W) (s0 : ByteArray) (hs0 : s0.size ≤ maxLen) :
    Calls Tryd.prog 4 #[.string s0] W fun e w' => e = .returned (.bool true) ∧ Below W.heap.size W w' := by
  have hG := Lib.hid hG0
  clear hG0
  have hB := Lib.hid (show Below W.heap.size W W from (Below.refl _ _))
  unfold maxLen at hs0
  by_cases hbig0 : 1048576 < s0.size
  · go_enter Tryd.func4, Tryd.ntmps4
    go_wp2
    go_ret
    exact ⟨rfl, hB.out⟩
  go_enter Tryd.func4, Tryd.ntmps4
  have hn0 : s0.size ≤ 1048576 := by omega
  obtain ⟨u0, u1, HS, HI⟩ := KpI.both s0 hn0
  replace HS := Lib.hid HS
  replace HI := Lib.hid HI
  go_wp2_with fail
  refine (HS.out  _ ).mono ?_
  rintro e w1 ⟨rfl, hb⟩
  replace hB := Lib.hid (hB.out.trans (hb.mono hB.out.size))
  clear hb
  have hb1 : Below (w1).heap.size w1 (w1.alloc (.cells #[.int .i64 u0.id, .string u0.nm, .int .i64 u0.lo, .int .i64 u0.hi, .bool u0.wo, .bool u0.me, .int .i64 u0.co, .int .i64 u0.mo] 27)) := (Below.refl _ _).alloc (Nat.le_refl _) _
  replace hB := Lib.hid (hB.out.trans (hb1.mono hB.out.size))
  clear hb1
  have wK0 := Lib.hid (show Blk (w1.alloc (.cells #[.int .i64 u0.id, .string u0.nm, .int .i64 u0.lo, .int .i64 u0.hi, .bool u0.wo, .bool u0.me, .int .i64 u0.co, .int .i64 u0.mo] 27)) (w1.heap.size) 27 #[.int .i64 u0.id, .string u0.nm, .int .i64 u0.lo, .int .i64 u0.hi, .bool u0.wo, .bool u0.me, .int .i64 u0.co, .int .i64 u0.mo] from by simpa using Blk.new w1 27 #[.int .i64 u0.id, .string u0.nm, .int .i64 u0.lo, .int .i64 u0.hi, .bool u0.wo, .bool u0.me, .int .i64 u0.co, .int .i64 u0.mo])
  go_wp2_with fail
  refine (HI.out  _  (KpI.Gl.below hG.out hB.out)).mono ?_
  rintro e w1 ⟨rfl, hb⟩
  replace hB := Lib.hid (hB.out.trans (hb.mono hB.out.size))
  replace wK0 := Lib.hid (wK0.out.later hb)
  clear hb
  have hb1 : Below (w1).heap.size w1 (w1.alloc (.cells #[.int .i64 u0.id, .string u0.nm, .int .i64 u0.lo, .int .i64 u0.hi, .bool u0.wo, .bool u0.me, .int .i64 u0.co, .int .i64 u0.mo] 27)) := (Below.refl _ _).alloc (Nat.le_refl _) _
  replace hB := Lib.hid (hB.out.trans (hb1.mono hB.out.size))
  replace wK0 := Lib.hid (wK0.out.later hb1)
  clear hb1
  have gK0 := Lib.hid (show Blk (w1.alloc (.cells #[.int .i64 u0.id, .string u0.nm, .int .i64 u0.lo, .int .i64 u0.hi, .bool u0.wo, .bool u0.me, .int .i64 u0.co, .int .i64 u0.mo] 27)) (w1.heap.size) 27 #[.int .i64 u0.id, .string u0.nm, .int .i64 u0.lo, .int .i64 u0.hi, .bool u0.wo, .bool u0.me, .int .i64 u0.co, .int .i64 u0.mo] from by simpa using Blk.new w1 27 #[.int .i64 u0.id, .string u0.nm, .int .i64 u0.lo, .int .i64 u0.hi, .bool u0.wo, .bool u0.me, .int .i64 u0.co, .int .i64 u0.mo])
  obtain ⟨⟨p0, p1, p2, p3, p4, p5, p6, p7⟩, -⟩ := KlK.blk_cells gK0.out
  obtain ⟨⟨q0, q1, q2, q3, q4, q5, q6, q7⟩, -⟩ := KlK.blk_cells wK0.out
  go_wp2_with fail
  refine (KlK.eq_same u0 _).mono ?_
  rintro e w1 ⟨rfl, hb⟩
  replace hB := Lib.hid (hB.out.trans (hb.mono hB.out.size))
  replace wK0 := Lib.hid (wK0.out.later hb)
  replace gK0 := Lib.hid (gK0.out.later hb)
  clear hb
  clear p0 p1 p2 p3 p4 p5 p6 p7
  clear q0 q1 q2 q3 q4 q5 q6 q7
  go_wp2
  go_ret
  exact ⟨rfl, hB.out⟩

end Go.Proofs.YtnenaponiahalaaDoor.KpaL
