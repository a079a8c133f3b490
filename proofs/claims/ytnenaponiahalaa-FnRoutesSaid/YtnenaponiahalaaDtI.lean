/- DetourTime: the program. -/
import Derived.Test.YtnenaponiahalaaDtM
namespace Go.Proofs.Ytnenaponiahalaa.DtI
open Go.RowKit Lb IntS MapS MapV High Cells StepT StpF SpecB DjkB OpnI TmsI LtI
set_option linter.unusedSimpArgs false
set_option linter.unusedVariables false

set_option maxHeartbeats 2000000 in
theorem impl_any (m : Mp) (T : Nat → Nat → Int) (hT : TT m T) (p r q : Int) (a b : Option Addr) (ca cb : Nat) (w : World) (hR : m.R.length ≤ maxLen) (hC : m.C.length ≤ maxLen) (hr : IRow w a m.R) (hc : IRow w b m.C) :
    Calls Try.prog 87 #[.agg #[.int .i64 m.W, .int .i64 m.H, .slice a m.R.length ca, .slice b m.C.length cb], .int .i64 p, .int .i64 r, .int .i64 q] w (LPost w (dtN m T p r q) (dtB m T p r q)) := by
  have HB := Lib.hid ((Below.refl w.heap.size w).alloc (Nat.le_refl _) (.cells #[.int .i64 m.W, .int .i64 m.H, .slice a m.R.length ca, .slice b m.C.length cb] 26))
  have HK := Lib.hid (Blk.new w 26 #[.int .i64 m.W, .int .i64 m.H, .slice a m.R.length ca, .slice b m.C.length cb])
  have HR := Lib.hid hr
  have HC := Lib.hid hc
  obtain ⟨n1, hn1⟩ : ∃ n, ltN m T p r = n := ⟨_, rfl⟩
  obtain ⟨n2, hn2⟩ : ∃ n, ltN m T r q = n := ⟨_, rfl⟩
  obtain ⟨n3, hn3⟩ : ∃ n, ltN m T p q = n := ⟨_, rfl⟩
  obtain ⟨o1, ho1⟩ : ∃ n, ltB m T p r = n := ⟨_, rfl⟩
  obtain ⟨o2, ho2⟩ : ∃ n, ltB m T r q = n := ⟨_, rfl⟩
  obtain ⟨o3, ho3⟩ : ∃ n, ltB m T p q = n := ⟨_, rfl⟩
  have b1 := ltN_bd m T hT p r
  have b2 := ltN_bd m T hT r q
  have b3 := ltN_bd m T hT p q
  rw [hn1] at b1
  rw [hn2] at b2
  rw [hn3] at b3
  have H1 := Lib.hid (LtI.both m T hT p r).2
  have H2 := Lib.hid (LtI.both m T hT r q).2
  have H3 := Lib.hid (LtI.both m T hT p q).2
  rw [hn1, ho1] at H1
  rw [hn2, ho2] at H2
  rw [hn3, ho3] at H3
  have HV := Lib.hid (show dtB m T p r q = (o1 && (o2 && o3)) ∧ dtN m T p r q = if (o1 && (o2 && o3)) then n1 + n2 - n3 else 0 from by
    have : dtB m T p r q = (o1 && (o2 && o3)) := by unfold dtB; rw [ho1, ho2, ho3]
    exact ⟨this, by unfold dtN; rw [this, hn1, hn2, hn3]⟩)
  obtain ⟨b11, b12⟩ := b1
  obtain ⟨b21, b22⟩ := b2
  obtain ⟨b31, b32⟩ := b3
  clear hr hc hn1 hn2 hn3 ho1 ho2 ho3
  go_enter Try.func87, Try.ntmps87
  go_wp2_with fail
  refine (H1.out a b ca cb _ hR hC (RowAt.below HR.out HB.out) (RowAt.below HC.out HB.out)).mono ?_
  rintro e w1 ⟨rfl, hb1⟩
  have HB1 := Lib.hid (HB.out.trans (hb1.mono (by simp)))
  have HK1 := Lib.hid (HK.out.later hb1)
  clear hb1 HB HK
  obtain ⟨p0, p1, p2, p3, -⟩ := HK1.out.four
  go_wp2_with fail
  refine (H2.out a b ca cb _ hR hC (RowAt.below HR.out HB1.out) (RowAt.below HC.out HB1.out)).mono ?_
  rintro e w2 ⟨rfl, hb2⟩
  have HB2 := Lib.hid (HB1.out.trans (hb2.mono HB1.out.size))
  have HK2 := Lib.hid (HK1.out.later hb2)
  clear hb2 HB1 HK1 p0 p1 p2 p3
  obtain ⟨p0, p1, p2, p3, -⟩ := HK2.out.four
  go_wp2_with fail
  refine (H3.out a b ca cb _ hR hC (RowAt.below HR.out HB2.out) (RowAt.below HC.out HB2.out)).mono ?_
  rintro e w3 ⟨rfl, hb3⟩
  have HB3 := Lib.hid (HB2.out.trans (hb3.mono HB2.out.size))
  clear hb3 HB2 HK2 p0 p1 p2 p3 H1 H2 H3
  cases o1 <;> cases o2 <;> cases o3
  all_goals
    go_wp2_with fail
    go_ret2
    exact ⟨lret HV.out.2 HV.out.1, HB3.out⟩
end Go.Proofs.Ytnenaponiahalaa.DtI
