/- 'FnExactRouteTime' answers as its model, at every argument: the walk of the law. -/
import Derived.Test.YtbcoacbablaagaaTibT
import Derived.Test.YtbcoacbablaagaaLisO
import Derived.Deep.Cut
import Derived.Deep.CutRange
import Derived.Deep.DeepCutAuto
namespace Go.Proofs.Ytbcoacbablaagaa.TimL
open Go.RowKit Lb IntS MapS MapV MapO LisO
set_option linter.unusedSimpArgs false
set_option linter.unusedVariables false

theorem own_le {w : World} {base n cap : Nat} {a : Option Addr} {zs : List Int} (h : OwnI w base (.slice a n cap) zs) : zs.length ≤ cap := by
  unfold OwnI at h
  rcases h.2 with ⟨h1, h0⟩ | ⟨g', c', cur, hv, _, _, h3, _⟩
  · omega
  · obtain ⟨-, -, rfl⟩ := Value.slice.inj hv
    omega
/-- What stands behind the comparison of the maps. -/
structure Kr (W : World) (box : Array Value) (a9 al : Option Addr) (zs : List Int) (wx : World) : Prop where
  b : Below W.heap.size W wx
  box : Blk wx W.heap.size 48 box
  own : IRow wx a9 zs
  list : IRow wx al zs

set_option maxHeartbeats 4000000 in
theorem law_any (W : World) (m : Mp) (a : Option Addr) (ca : Nat) (b : Option Addr) (cb : Nat) (hi : IsMp W m a b) (zs : List Int) (al : Option Addr) (cl : Nat) (hli : IsL W zs al) :
    Calls Try.prog 6 #[.agg #[.int .i64 m.W, .int .i64 m.H, .slice a m.R.length ca, .slice b m.C.length cb], .slice al zs.length cl] W fun e w' => e = .returned (.bool true) ∧ Below W.heap.size W w' := by
  have hB := Lib.hid (show Below W.heap.size W (W.alloc (.cells #[.int .i64 m.W, .int .i64 m.H, .slice a m.R.length ca, .slice b m.C.length cb] 48)) from (Below.refl _ _).alloc (Nat.le_refl _) _)
  have hK := Lib.hid (Blk.new W 48 #[.int .i64 m.W, .int .i64 m.H, .slice a m.R.length ca, .slice b m.C.length cb])
  have hR := Lib.hid hi.R
  have hC := Lib.hid hi.C
  have lR := Lib.hid hi.lR
  have lC := Lib.hid hi.lC
  have hZ := Lib.hid hli.row
  have hzm := hli.len
  unfold maxLen at hzm
  clear hi hli
  by_cases hzb : 1048576 < zs.length
  · go_enter Try.func6, Try.ntmps6
    go_wp2
    go_ret
    exact ⟨rfl, hB.out⟩
  by_cases hbig : 1048576 < m.R.length + m.C.length
  · go_enter Try.func6, Try.ntmps6
    go_wp2_with fail
    refine (MapS.sz_no m a b ca cb _ lR.out lC.out hbig).mono ?_
    rintro e w1 ⟨rfl, hb1⟩
    go_wp2
    go_ret
    exact ⟨rfl, hB.out.trans (hb1.mono (by simp))⟩
  · have hsm : m.R.length + m.C.length ≤ 1048576 := by omega
    have hzl : zs.length ≤ 1048576 := by omega
    obtain ⟨n, ok, hS, hI⟩ := TibT.both_v m zs hzl
    have HS := Lib.hid hS
    have HI := Lib.hid hI
    clear hS hI
    go_enter Try.func6, Try.ntmps6
    go_wp2_with fail
    refine (MapS.sz_yes m a b ca cb _ hsm).mono ?_
    rintro e w1 ⟨rfl, hb1⟩
    have hB1 := Lib.hid (hB.out.trans (hb1.mono (by simp)))
    have hK1 := Lib.hid (hK.out.later hb1)
    clear hb1
    obtain ⟨p0, p1, p2, p3, -⟩ := hK1.out.four
    go_wp2_with fail
    refine (MapS.to_any m a b ca cb _ (RowAt.below hR.out hB1.out) (RowAt.below hC.out hB1.out) hsm).mono ?_
    rintro e w2 ⟨⟨v, rfl, ho2⟩, hb2⟩
    obtain ⟨a2, ca2, b2, cb2, rfl, ha2, hc2, hn2⟩ := ho2
    have hB2 := Lib.hid (hB1.out.trans (hb2.mono hB1.out.size))
    have hK2 := Lib.hid (hK1.out.later hb2)
    have hA2 := Lib.hid (OwnI.row ha2)
    have hC2 := Lib.hid (OwnI.row hc2)
    clear p0 p1 p2 p3 hb2 hn2 ha2 hc2
    go_wp2_with fail
    refine (IntS.to_any al cl zs _ (RowAt.below hZ.out hB2.out) hzl).mono ?_
    rintro e w3 ⟨⟨v3, rfl, ho3⟩, hb3⟩
    obtain ⟨a3, c3, rfl, hr3, -⟩ := OwnI.slice ho3
    have hcp3 := Lib.hid (own_le ho3)
    have hW3 := Lib.hid hr3
    have hB3 := Lib.hid (hB2.out.trans (hb3.mono hB2.out.size))
    have hK3 := Lib.hid (hK2.out.later hb3)
    have hA3 := Lib.hid (RowAt.below hA2.out hb3)
    have hC3 := Lib.hid (RowAt.below hC2.out hb3)
    clear hb3 ho3 hr3
    go_wp2_with fail
    refine (HS.out a2 b2 a3 ca2 cb2 c3 _ hcp3.out lR.out lC.out hA3.out hC3.out hW3.out).mono ?_
    rintro e w4 ⟨rfl, hb4⟩
    have hB4 := Lib.hid (hB3.out.trans (hb4.mono hB3.out.size))
    have hK4 := Lib.hid (hK3.out.later hb4)
    clear hb4
    obtain ⟨p0, p1, p2, p3, -⟩ := hK4.out.four
    go_wp2_with fail
    refine (MapS.to_any m a b ca cb _ (RowAt.below hR.out hB4.out) (RowAt.below hC.out hB4.out) hsm).mono ?_
    rintro e w5 ⟨⟨v, rfl, ho5⟩, hb5⟩
    obtain ⟨a5, ca5, b5, cb5, rfl, ha5, hc5, hn5⟩ := ho5
    have hB5 := Lib.hid (hB4.out.trans (hb5.mono hB4.out.size))
    have hK5 := Lib.hid (hK4.out.later hb5)
    have hX5 := Lib.hid (Blk.new w5 26 #[.int .i64 m.W, .int .i64 m.H, .slice a5 m.R.length ca5, .slice b5 m.C.length cb5])
    have hZ5 := Lib.hid (show Below w5.heap.size w5 (w5.alloc (.cells #[.int .i64 m.W, .int .i64 m.H, .slice a5 m.R.length ca5, .slice b5 m.C.length cb5] 26)) from (Below.refl _ _).alloc (Nat.le_refl _) _)
    have hB6 := Lib.hid (hB5.out.trans (hZ5.out.mono hB5.out.size))
    have hA6 := Lib.hid (RowAt.below (OwnI.row ha5) hZ5.out)
    have hC6 := Lib.hid (RowAt.below (OwnI.row hc5) hZ5.out)
    have hK6 := Lib.hid (hK5.out.later hZ5.out)
    clear p0 p1 p2 p3 hb5 hn5 ha5 hc5
    go_wp2_with fail
    refine (IntS.to_any al cl zs _ (RowAt.below hZ.out hB6.out) hzl).mono ?_
    rintro e w7 ⟨⟨v7, rfl, ho7⟩, hb7⟩
    obtain ⟨a7, c7, rfl, hr7, -⟩ := OwnI.slice ho7
    have hcp7 := Lib.hid (own_le ho7)
    have hW7 := Lib.hid hr7
    have hB7 := Lib.hid (hB6.out.trans (hb7.mono hB6.out.size))
    have hK7 := Lib.hid (hK6.out.later hb7)
    have hX7 := Lib.hid (hX5.out.later hb7)
    have hA7 := Lib.hid (RowAt.below hA6.out hb7)
    have hC7 := Lib.hid (RowAt.below hC6.out hb7)
    clear hb7 ho7 hr7
    obtain ⟨q0, q1, q2, q3, -⟩ := hX7.out.four
    go_wp2_with fail
    refine (HI.out a5 b5 a7 ca5 cb5 c7 _ hcp7.out lR.out lC.out hA7.out hC7.out hW7.out).mono ?_
    rintro e w8 ⟨rfl, hb8⟩
    have hB8 := Lib.hid (hB7.out.trans (hb8.mono hB7.out.size))
    have hK8 := Lib.hid (hK7.out.later hb8)
    have hX8 := Lib.hid (hX7.out.later hb8)
    have hA8 := Lib.hid (RowAt.below hA7.out hb8)
    have hC8 := Lib.hid (RowAt.below hC7.out hb8)
    have hW8 := Lib.hid (RowAt.below hW7.out hb8)
    have hz := hX8.out.lt
    clear hb8 q0 q1 q2 q3
    obtain ⟨p0, p1, p2, p3, -⟩ := hK8.out.four
    obtain ⟨q0, q1, q2, q3, -⟩ := hX8.out.four
    have hBd := Lib.hid (show Below W.heap.size W w8.drew from hB8.out.drew)
    have hKd := Lib.hid (show Blk w8.drew W.heap.size 48 #[.int .i64 m.W, .int .i64 m.H, .slice a m.R.length ca, .slice b m.C.length cb] from hK8.out)
    have hXd := Lib.hid (show Blk w8.drew w5.heap.size 26 #[.int .i64 m.W, .int .i64 m.H, .slice a5 m.R.length ca5, .slice b5 m.C.length cb5] from hX8.out)
    have hAd := Lib.hid (show IRow w8.drew a5 m.R from hA8.out)
    have hCd := Lib.hid (show IRow w8.drew b5 m.C from hC8.out)
    have hWd := Lib.hid (show IRow w8.drew a7 zs from hW8.out)
    go_upto_region 13 with (fail)
    go_cut [50] from 46 (fun s wx => s = .bool false ∧ Kr W #[.int .i64 m.W, .int .i64 m.H, .slice a m.R.length ca, .slice b m.C.length cb] a7 al zs wx)
    case first =>
      go_region_with (first
        | (go_at_call 44; refine (MapS.to_any m a b ca cb _ (RowAt.below hR.out hBd.out) (RowAt.below hC.out hBd.out) hsm).mono ?_; rintro e w9 ⟨⟨v, rfl, ho9⟩, hb9⟩; obtain ⟨a9, ca9, b9, cb9, rfl, ha9, hc9, hn9⟩ := ho9; have hB9 := Lib.hid (hBd.out.trans (hb9.mono hBd.out.size)); obtain ⟨r0, r1, r2, r3, -⟩ := (hXd.out.later hb9).four; have hA9 := Lib.hid (RowAt.below hAd.out hb9); have hC9 := Lib.hid (RowAt.below hCd.out hb9); have hW9 := Lib.hid (RowAt.below hWd.out hb9); have hK9 := Lib.hid (hKd.out.later hb9); have hD9 := Lib.hid ha9; have hE9 := Lib.hid hc9; clear hb9 ha9 hc9 hn9)
        | (go_at_call 46; refine (MapS.eq_same m _ _ _ _ _ _ _ _ _ hA9.out hC9.out (OwnI.row hD9.out) (OwnI.row hE9.out) lR.out lC.out).mono ?_; rintro e w10 ⟨rfl, hb10⟩; have hR10 := Lib.hid (show Kr W #[.int .i64 m.W, .int .i64 m.H, .slice a m.R.length ca, .slice b m.C.length cb] a7 al zs w10 from ⟨hB9.out.trans (hb10.mono hB9.out.size), hK9.out.later hb10, RowAt.below hW9.out hb10, RowAt.below hZ.out (hB9.out.trans (hb10.mono hB9.out.size))⟩); clear hb10))
      all_goals go_wp2_with fail
      all_goals go_meet
      all_goals exact ⟨rfl, hR10.out⟩
    case rest =>
    obtain ⟨rfl, hKr⟩ := hcut
    have hR11 := Lib.hid hKr
    clear hKr p0 p1 p2 p3 q0 q1 q2 q3
    go_wp2_with fail
    refine (IntS.to_any al cl zs _ hR11.out.list hzl).mono ?_
    rintro e w12 ⟨⟨v12, rfl, ho12⟩, hb12⟩
    obtain ⟨a12, c12, rfl, hr12, -⟩ := OwnI.slice ho12
    have hB12 := Lib.hid (hR11.out.b.trans (hb12.mono hR11.out.b.size))
    have hW12 := Lib.hid (RowAt.below hR11.out.own hb12)
    have hV12 := Lib.hid hr12
    clear hb12 ho12 hr12
    go_wp2_with fail
    refine (IntS.eq_same a7 a12 c7 c12 zs _ hW12.out hV12.out (by unfold maxLen; omega)).mono ?_
    rintro e w13 ⟨rfl, hb13⟩
    have hB13 := Lib.hid (hB12.out.trans (hb13.mono hB12.out.size))
    clear hb13
    go_wp2_with fail
    go_ret
    exact ⟨rfl, hB13.out⟩

end Go.Proofs.Ytbcoacbablaagaa.TimL
