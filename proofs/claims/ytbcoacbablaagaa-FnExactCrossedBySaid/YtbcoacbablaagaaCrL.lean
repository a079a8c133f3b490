/- 'FnExactCrossedBy' answers as its model, at every argument: the walk of the law. -/
import Derived.Test.YtbcoacbablaagaaCrI
import Derived.Test.YtbcoacbablaagaaMapO
namespace Go.Proofs.Ytbcoacbablaagaa.CrL
open Go.RowKit Lb IntS MapS MapV MapO
set_option linter.unusedSimpArgs false
set_option linter.unusedVariables false

set_option maxHeartbeats 1000000 in
theorem law_any (W : World) (m : Mp) (a : Option Addr) (ca : Nat) (b : Option Addr) (cb : Nat) (hi : IsMp W m a b) (p : Int) (hp : (Lit.int IntKind.i64 p).wf = true) (q : Int) (hq : (Lit.int IntKind.i64 q).wf = true) (r : Int) (hr : (Lit.int IntKind.i64 r).wf = true) :
    Calls Try.prog 12 #[.agg #[.int .i64 m.W, .int .i64 m.H, .slice a m.R.length ca, .slice b m.C.length cb], .int .i64 p, .int .i64 q, .int .i64 r] W fun e w' => e = .returned (.bool true) ∧ Below W.heap.size W w' := by
  have hB := Lib.hid (show Below W.heap.size W (W.alloc (.cells #[.int .i64 m.W, .int .i64 m.H, .slice a m.R.length ca, .slice b m.C.length cb] 48)) from (Below.refl _ _).alloc (Nat.le_refl _) _)
  have hK := Lib.hid (Blk.new W 48 #[.int .i64 m.W, .int .i64 m.H, .slice a m.R.length ca, .slice b m.C.length cb])
  have hR := Lib.hid hi.R
  have hC := Lib.hid hi.C
  have lR := Lib.hid hi.lR
  have lC := Lib.hid hi.lC
  clear hi
  by_cases hbig : 1048576 < m.R.length + m.C.length
  · go_enter Try.func12, Try.ntmps12
    go_wp2_with fail
    refine (MapS.sz_no m a b ca cb _ lR.out lC.out hbig).mono ?_
    rintro e w1 ⟨rfl, hb1⟩
    go_wp2
    go_ret
    exact ⟨rfl, hB.out.trans (hb1.mono (by simp))⟩
  · have hsm : m.R.length + m.C.length ≤ 1048576 := by omega
    obtain ⟨x, ok, hS, hI⟩ := CrI.both_v m p q r
    have HS := Lib.hid hS
    have HI := Lib.hid hI
    clear hS hI
    go_enter Try.func12, Try.ntmps12
    go_wp2_with fail
    refine (MapS.sz_yes m a b ca cb _ hsm).mono ?_
    rintro e w1 ⟨rfl, hb1⟩
    have hB1 := Lib.hid (hB.out.trans (hb1.mono (by simp)))
    have hK1 := Lib.hid (hK.out.later hb1)
    clear hb1
    obtain ⟨p0, p1, p2, p3, -⟩ := hK1.out.four
    go_wp2_with fail
    refine (MapS.to_any m a b ca cb _ (RowAt.below hR.out hB1.out) (RowAt.below hC.out hB1.out) hsm).mono ?_
    rintro e w2 ⟨⟨v, rfl, ho2⟩, hb2⟩
    obtain ⟨a2, ca2, b2, cb2, rfl, ha2, hc2, hn2⟩ := ho2
    have hB2 := Lib.hid (hB1.out.trans (hb2.mono hB1.out.size))
    have hK2 := Lib.hid (hK1.out.later hb2)
    clear p0 p1 p2 p3 hb2 hn2
    go_wp2_with fail
    refine (HS.out a2 b2 ca2 cb2 _ lR.out lC.out (OwnI.row ha2) (OwnI.row hc2)).mono ?_
    rintro e w3 ⟨rfl, hb3⟩
    have hB3 := Lib.hid (hB2.out.trans (hb3.mono hB2.out.size))
    have hK3 := Lib.hid (hK2.out.later hb3)
    clear hb3 ha2 hc2
    obtain ⟨p0, p1, p2, p3, -⟩ := hK3.out.four
    go_wp2_with fail
    refine (MapS.to_any m a b ca cb _ (RowAt.below hR.out hB3.out) (RowAt.below hC.out hB3.out) hsm).mono ?_
    rintro e w4 ⟨⟨v, rfl, ho4⟩, hb4⟩
    obtain ⟨a4, ca4, b4, cb4, rfl, ha4, hc4, hn4⟩ := ho4
    have hB4 := Lib.hid (hB3.out.trans (hb4.mono hB3.out.size))
    have hK4 := Lib.hid (hK3.out.later hb4)
    have hA4 := Lib.hid ha4
    have hC4 := Lib.hid hc4
    clear p0 p1 p2 p3 hb4 hn4 ha4 hc4
    obtain ⟨p0, p1, p2, p3, -⟩ := hK4.out.four
    have hX4 := Lib.hid (Blk.new w4 26 #[.int .i64 m.W, .int .i64 m.H, .slice a4 m.R.length ca4, .slice b4 m.C.length cb4])
    have hZ4 := Lib.hid (show Below w4.heap.size w4 (w4.alloc (.cells #[.int .i64 m.W, .int .i64 m.H, .slice a4 m.R.length ca4, .slice b4 m.C.length cb4] 26)) from (Below.refl _ _).alloc (Nat.le_refl _) _)
    go_wp2_with fail
    refine (HI.out a4 b4 ca4 cb4 _ lR.out lC.out (RowAt.below (OwnI.row hA4.out) hZ4.out) (RowAt.below (OwnI.row hC4.out) hZ4.out)).mono ?_
    rintro e w5 ⟨rfl, hb5⟩
    have hZ5 := Lib.hid (hZ4.out.trans (hb5.mono (by simp)))
    have hB5 := Lib.hid (hB4.out.trans (hZ5.out.mono hB4.out.size))
    have hK5 := Lib.hid (hK4.out.later hZ5.out)
    have hX5 := Lib.hid (hX4.out.later hb5)
    have hA5 := Lib.hid (RowAt.below (OwnI.row hA4.out) hZ5.out)
    have hC5 := Lib.hid (RowAt.below (OwnI.row hC4.out) hZ5.out)
    have hz := hX5.out.lt
    clear p0 p1 p2 p3 hb5
    obtain ⟨p0, p1, p2, p3, -⟩ := hK5.out.four
    obtain ⟨q0, q1, q2, q3, -⟩ := hX5.out.four
    have hBd := Lib.hid (show Below W.heap.size W w5.drew from hB5.out.drew)
    have hXd := Lib.hid (show Blk w5.drew w4.heap.size 26 #[.int .i64 m.W, .int .i64 m.H, .slice a4 m.R.length ca4, .slice b4 m.C.length cb4] from hX5.out)
    have hAd := Lib.hid (show IRow w5.drew a4 m.R from hA5.out)
    have hCd := Lib.hid (show IRow w5.drew b4 m.C from hC5.out)
    go_wp2
    go_region_with (first
      | (go_at_call 44; refine (MapS.to_any m a b ca cb _ (RowAt.below hR.out hBd.out) (RowAt.below hC.out hBd.out) hsm).mono ?_; rintro e w6 ⟨⟨v, rfl, ho6⟩, hb6⟩; obtain ⟨a6, ca6, b6, cb6, rfl, ha6, hc6, hn6⟩ := ho6; have hB6 := Lib.hid (hBd.out.trans (hb6.mono hBd.out.size)); obtain ⟨r0, r1, r2, r3, -⟩ := (hXd.out.later hb6).four; have hA6 := Lib.hid (RowAt.below hAd.out hb6); have hC6 := Lib.hid (RowAt.below hCd.out hb6); have hD6 := Lib.hid ha6; have hE6 := Lib.hid hc6; clear ha6 hc6 hn6 hb6)
      | (go_at_call 46; refine (MapS.eq_same m _ _ _ _ _ _ _ _ _ hA6.out hC6.out (OwnI.row hD6.out) (OwnI.row hE6.out) lR.out lC.out).mono ?_; rintro e w7 ⟨rfl, hb7⟩; have hB7 := Lib.hid (hB6.out.trans (hb7.mono hB6.out.size)); clear hb7))
    all_goals go_wp2
    all_goals go_ret
    all_goals exact ⟨rfl, hB7.out⟩

end Go.Proofs.Ytbcoacbablaagaa.CrL
