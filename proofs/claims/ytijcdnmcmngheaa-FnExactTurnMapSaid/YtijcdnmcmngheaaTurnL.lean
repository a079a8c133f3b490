/- 'FnExactTurnMap' answers as its model, at every map, in memory of its own: the walk of the law. -/
import Derived.Test.YtijcdnmcmngheaaTurnC
import Derived.Test.YtijcdnmcmngheaaLawM
namespace Go.Proofs.Ytijcdnmcmngheaa.TurnL
open Go.RowKit Lb IntS MapS MapV MapO SpecB LawM
set_option linter.unusedSimpArgs false
set_option linter.unusedVariables false

set_option maxHeartbeats 4000000 in
theorem law_any (W : World) (m : Mp) (a : Option Addr) (ca : Nat) (b : Option Addr) (cb : Nat) (hi : IsMp W m a b) :
    Calls Try.prog 11 #[.agg #[.int .i64 m.W, .int .i64 m.H, .slice a m.R.length ca, .slice b m.C.length cb]] W fun e w' => e = .returned (.bool true) ∧ Below W.heap.size W w' := by
  have hB := Lib.hid (show Below W.heap.size W (W.alloc (.cells #[.int .i64 m.W, .int .i64 m.H, .slice a m.R.length ca, .slice b m.C.length cb] 51)) from (Below.refl _ _).alloc (Nat.le_refl _) _)
  have hK := Lib.hid (Blk.new W 51 #[.int .i64 m.W, .int .i64 m.H, .slice a m.R.length ca, .slice b m.C.length cb])
  have hR := Lib.hid hi.R
  have hC := Lib.hid hi.C
  have lR := Lib.hid hi.lR
  have lC := Lib.hid hi.lC
  clear hi
  by_cases hbig : 1048576 < m.R.length + m.C.length
  · go_enter Try.func11, Try.ntmps11
    go_wp2_with fail
    refine (MapS.sz_no m a b ca cb _ lR.out lC.out hbig).mono ?_
    rintro e w1 ⟨rfl, hb1⟩
    go_wp2
    go_ret
    exact ⟨rfl, hB.out.trans (hb1.mono (by simp))⟩
  · have hsm : m.R.length + m.C.length ≤ 1048576 := by omega
    obtain ⟨m', ok, hlen, hlen2, hS, hI⟩ := TurnC.turn_v m
    have hzl : m'.R.length ≤ maxLen := by unfold maxLen; omega
    have hzl2 : m'.C.length ≤ maxLen := by unfold maxLen; omega
    have HS := Lib.hid hS
    have HI := Lib.hid hI
    clear hS hI
    go_enter Try.func11, Try.ntmps11
    go_wp2_with fail
    refine (MapS.sz_yes m a b ca cb _ hsm).mono ?_
    rintro e w1 ⟨rfl, hb1⟩
    have hB1 := Lib.hid (hB.out.trans (hb1.mono (by simp)))
    have hK1 := Lib.hid (hK.out.later hb1)
    clear hb1
    obtain ⟨p0, p1, p2, p3, -⟩ := hK1.out.four
    go_wp2_with fail
    refine (MapS.to_any m a b ca cb _ (RowAt.below hR.out hB1.out) (RowAt.below hC.out hB1.out) hsm).mono ?_
    rintro e w2 ⟨⟨v, rfl, ho2⟩, hb2⟩
    obtain ⟨a2, ca2, b2, cb2, rfl, ha2, hc2, hn2⟩ := ho2
    have hB2 := Lib.hid (hB1.out.trans (hb2.mono hB1.out.size))
    have hK2 := Lib.hid (hK1.out.later hb2)
    clear p0 p1 p2 p3 hb2 hn2
    go_wp2_with fail
    refine (HS.out a2 b2 ca2 cb2 _ lR.out lC.out (OwnI.row ha2) (OwnI.row hc2)).mono ?_
    rintro e w3 ⟨v3, rfl, ho3, hb3⟩
    obtain ⟨a3, c3, b3, d3, rfl, ha3, hb3p, -⟩ := ho3
    have hL3 := Lib.hid (show (∀ x, a3 = some x → x.block < w3.heap.size) ∧ (∀ x, b3 = some x → x.block < w3.heap.size) from ⟨fun x e => (OwnI.lt ha3 x e).2, fun x e => (OwnI.lt hb3p x e).2⟩)
    have hA := Lib.hid (show StA W m a ca b cb m' a3 c3 b3 d3 w3.heap.size (w3.alloc (.cells #[.int .i64 m'.W, .int .i64 m'.H, .slice a3 m'.R.length c3, .slice b3 m'.C.length d3] 26)) from ⟨(hB2.out.trans (hb3.mono hB2.out.size)).alloc (by have := hB2.out.size; have := hb3.size; omega) _, (hK2.out.later hb3).alloc _, Blk.new _ _ _, RowAt.below (OwnI.row ha3) ((Below.refl _ _).alloc (Nat.le_refl _) _), RowAt.below (OwnI.row hb3p) ((Below.refl _ _).alloc (Nat.le_refl _) _)⟩)
    have hWs3 := Lib.hid (show W.heap.size < w3.heap.size from (hK2.out.later hb3).lt)
    have hz3 := hWs3.out
    have hK3 := Lib.hid (hK2.out.later hb3)
    clear hb3 ha2 hc2 ha3 hb3p hB hK hB1 hK1 hB2 hK2
    obtain ⟨p0, p1, p2, p3, -⟩ := hK3.out.four
    go_wp2_with fail
    refine (MapS.to_any m a b ca cb _ (RowAt.below hR.out hA.out.hb) (RowAt.below hC.out hA.out.hb) hsm).mono ?_
    rintro e w4 ⟨⟨v, rfl, ho4⟩, hb4⟩
    obtain ⟨a4, ca4, b4, cb4, rfl, ha4, hc4, hn4⟩ := ho4
    rw [World.size_alloc] at ha4 hc4
    have hA4 := Lib.hid (hA.out.later hb4)
    have hO4 := Lib.hid (show StX m a4 ca4 b4 cb4 (w3.heap.size + 1) w4.heap.size w4.heap.size (w4.alloc (.cells #[.int .i64 m.W, .int .i64 m.H, .slice a4 m.R.length ca4, .slice b4 m.C.length cb4] 26)) from ⟨Blk.new _ _ _, ha4.below ((Below.refl _ _).alloc (Nat.le_refl _) _), hc4.below ((Below.refl _ _).alloc (Nat.le_refl _) _), hn4, fun x e => (OwnI.lt ha4 x e).2, fun x e => (OwnI.lt hc4 x e).2⟩)
    have hs34 := Lib.hid (show w3.heap.size + 1 ≤ w4.heap.size from by have := hb4.size; rwa [World.size_alloc] at this)
    have hAa := Lib.hid (hA4.out.later ((Below.refl _ _).alloc (Nat.le_refl _) (.cells #[.int .i64 m.W, .int .i64 m.H, .slice a4 m.R.length ca4, .slice b4 m.C.length cb4] 26)))
    clear p0 p1 p2 p3 hb4 ha4 hc4 hn4 hA hA4 hK3
    go_wp2_with fail
    refine (HI.out a4 b4 ca4 cb4 _ lR.out lC.out (OwnI.row hO4.out.r) (OwnI.row hO4.out.c)).mono ?_
    rintro e w5 ⟨v5, rfl, ho5, hb5⟩
    obtain ⟨a5, c5, b5, d5, rfl, ha5, hb5p, hn5⟩ := ho5
    rw [World.size_alloc] at ha5 hb5p
    have hBa := Lib.hid ((Below.refl w5.heap.size w5).alloc (Nat.le_refl _) (.cells #[.int .i64 m'.W, .int .i64 m'.H, .slice a5 m'.R.length c5, .slice b5 m'.C.length d5] 26))
    have hA5 := Lib.hid ((hAa.out.later hb5).later hBa.out)
    have hX5 := Lib.hid ((hO4.out.later hb5).later hBa.out)
    have hG5 := Lib.hid (show StX m' a5 c5 b5 d5 (w4.heap.size + 1) w5.heap.size w5.heap.size (w5.alloc (.cells #[.int .i64 m'.W, .int .i64 m'.H, .slice a5 m'.R.length c5, .slice b5 m'.C.length d5] 26)) from ⟨Blk.new _ _ _, ha5.below hBa.out, hb5p.below hBa.out, hn5, fun x e => (OwnI.lt ha5 x e).2, fun x e => (OwnI.lt hb5p x e).2⟩)
    have hs45 := Lib.hid (show w4.heap.size + 1 ≤ w5.heap.size from by have := hb5.size; rwa [World.size_alloc] at this)
    have hAw5 := Lib.hid (hAa.out.later hb5)
    have hz5 := hAw5.out.hp.lt
    obtain ⟨p0, p1, p2, p3, -⟩ := hAw5.out.hp.four
    clear hb5 ha5 hb5p hn5 hAa hO4 hBa
    go_wp2_with fail
    refine (MapS.eq_same m' a5 b5 a3 b3 c5 d5 c3 d3 _ (OwnI.row hG5.out.r) (OwnI.row hG5.out.c) hA5.out.hw hA5.out.hv hzl hzl2).mono ?_
    rintro e w6 ⟨rfl, hb6⟩
    have hA6 := Lib.hid (show StA W m a ca b cb m' a3 c3 b3 d3 w3.heap.size w6.drew from (hA5.out.later hb6).drew)
    have hX6 := Lib.hid (show StX m a4 ca4 b4 cb4 (w3.heap.size + 1) w4.heap.size w4.heap.size w6.drew from (hX5.out.later hb6).drew)
    have hG6 := Lib.hid (show StX m' a5 c5 b5 d5 (w4.heap.size + 1) w5.heap.size w5.heap.size w6.drew from (hG5.out.later hb6).drew)
    clear hb6 p0 p1 p2 p3 hA5 hX5 hG5 hAw5 hz5 hz3
    obtain ⟨p0, p1, p2, p3, -⟩ := hA6.out.hk.four
    obtain ⟨q0, q1, q2, q3, -⟩ := hX6.out.x.four
    go_upto_region 10 with (fail)
    go_cut [45] from 41 (fun s wx => s = .bool false ∧ StA W m a ca b cb m' a3 c3 b3 d3 w3.heap.size wx ∧ StX m a4 ca4 b4 cb4 (w3.heap.size + 1) w4.heap.size w4.heap.size wx ∧ StX m' a5 c5 b5 d5 (w4.heap.size + 1) w5.heap.size w5.heap.size wx)
    case first =>
      go_region_with (first
        | (go_at_call 45; refine (MapS.to_any m a b ca cb _ (RowAt.below hR.out hA6.out.hb) (RowAt.below hC.out hA6.out.hb) hsm).mono ?_; rintro e w7 ⟨⟨v, rfl, ho7⟩, hb7⟩; obtain ⟨a7, ca7, b7, cb7, rfl, ha7, hc7, hn7⟩ := ho7; have hA7 := Lib.hid (hA6.out.later hb7); have hX7 := Lib.hid (hX6.out.later hb7); have hG7 := Lib.hid (hG6.out.later hb7); obtain ⟨r0, r1, r2, r3, -⟩ := hX7.out.x.four; have hD7 := Lib.hid ha7; have hE7 := Lib.hid hc7; clear ha7 hc7 hn7 hb7)
        | (go_at_call 46; refine (MapS.eq_same m _ _ _ _ _ _ _ _ _ (OwnI.row hX7.out.r) (OwnI.row hX7.out.c) (OwnI.row hD7.out) (OwnI.row hE7.out) lR.out lC.out).mono ?_; rintro e w8 ⟨rfl, hb8⟩; have hA8 := Lib.hid (hA7.out.later hb8); have hX8 := Lib.hid (hX7.out.later hb8); have hG8 := Lib.hid (hG7.out.later hb8); clear hb8))
      all_goals go_wp2_with fail
      all_goals go_meet
      all_goals exact ⟨rfl, hA8.out, hX8.out, hG8.out⟩
    case rest =>
    obtain ⟨rfl, hA, hX, hG⟩ := hcut
    have hA8 := Lib.hid hA
    have hX8 := Lib.hid hX
    have hG8 := Lib.hid hG
    clear hA hX hG p0 p1 p2 p3 q0 q1 q2 q3 hA6 hX6 hG6
    obtain ⟨q0, q1, q2, q3, -⟩ := hX8.out.x.four
    have hs3 := hWs3.out
    have hs4 := hs34.out
    have hs5 := hs45.out
    have hs8 := hG8.out.x.lt
    go_wp2_with fail
    refine (MapS.mark_any m a4 b4 ca4 cb4 (w3.heap.size + 1) w4.heap.size wc wc hX8.out.r hX8.out.c hX8.out.n hX8.out.la hX8.out.lb hsm (by omega)).mono ?_
    rintro e w9 ⟨rfl, -, -, hc9⟩
    have hA9 := Lib.hid (hA8.out.chg hc9 (by omega) (by omega) (by omega) hL3.out.1 hL3.out.2)
    have hG9 := Lib.hid (hG8.out.chg hc9 hs4 hs5)
    clear hc9 q0 q1 q2 q3 hA8 hX8 hG8
    obtain ⟨p0, p1, p2, p3, -⟩ := hA9.out.hp.four
    obtain ⟨q0, q1, q2, q3, -⟩ := hG9.out.x.four
    go_wp2_with fail
    refine (MapS.eq_same m' a5 b5 a3 b3 c5 d5 c3 d3 _ (OwnI.row hG9.out.r) (OwnI.row hG9.out.c) hA9.out.hw hA9.out.hv hzl hzl2).mono ?_
    rintro e w10 ⟨rfl, hb10⟩
    have hA10 := Lib.hid (hA9.out.later hb10)
    have hG10 := Lib.hid (hG9.out.later hb10)
    have hs10 := hG10.out.x.lt
    clear hb10 p0 p1 p2 p3 q0 q1 q2 q3 hA9 hG9 hs8
    obtain ⟨q0, q1, q2, q3, -⟩ := hG10.out.x.four
    go_wp2_with fail
    refine (MapS.mark_any m' a5 b5 c5 d5 (w4.heap.size + 1) w5.heap.size w10 w10 hG10.out.r hG10.out.c hG10.out.n hG10.out.la hG10.out.lb (by omega) (by omega)).mono ?_
    rintro e w11 ⟨rfl, hm11, hm11p, hc11⟩
    have hA11 := Lib.hid (hA10.out.chg hc11 (by omega) (by omega) (by omega) (fun x e => by have := hL3.out.1 x e; omega) (fun x e => by have := hL3.out.2 x e; omega))
    have hM11 := Lib.hid (show StM m' a5 c5 b5 d5 w5.heap.size w11 from ⟨(hc11.block _ hG10.out.x.lt (.inr (Nat.le_refl _))).trans hG10.out.x, mrow_mark hm11 (by unfold markM; rw [markZ_length]), mrow_mark hm11p (by unfold markM; rw [markZ_length])⟩)
    clear hm11 hm11p hc11 q0 q1 q2 q3 hA10 hG10 hs10
    obtain ⟨q0, q1, q2, q3, -⟩ := hM11.out.x.four
    go_wp2_with fail
    refine (MapS.held_any m' a5 b5 c5 d5 _ hM11.out.r hM11.out.c (by omega)).mono ?_
    rintro e w12 ⟨rfl, hb12⟩
    have hA12 := Lib.hid (hA11.out.later hb12)
    have hM12 := Lib.hid (hM11.out.later hb12)
    clear hb12 q0 q1 q2 q3 hA11 hM11
    obtain ⟨p0, p1, p2, p3, -⟩ := hA12.out.hk.four
    go_wp2_with fail
    refine (MapS.to_any m a b ca cb _ (RowAt.below hR.out hA12.out.hb) (RowAt.below hC.out hA12.out.hb) hsm).mono ?_
    rintro e w13 ⟨⟨v, rfl, ho13⟩, hb13⟩
    obtain ⟨a13, ca13, b13, cb13, rfl, ha13, hc13, hn13⟩ := ho13
    have hA13 := Lib.hid (hA12.out.later hb13)
    have hM13 := Lib.hid (hM12.out.later hb13)
    clear p0 p1 p2 p3 hb13 hn13 hA12 hM12
    go_wp2_with fail
    refine (HI.out a13 b13 ca13 cb13 _ lR.out lC.out (OwnI.row ha13) (OwnI.row hc13)).mono ?_
    rintro e w14 ⟨v14, rfl, ho14, hb14⟩
    obtain ⟨a14, c14, b14, d14, rfl, ha14, hb14p, -⟩ := ho14
    have hBa := Lib.hid ((Below.refl w14.heap.size w14).alloc (Nat.le_refl _) (.cells #[.int .i64 m'.W, .int .i64 m'.H, .slice a14 m'.R.length c14, .slice b14 m'.C.length d14] 26))
    have hAw := Lib.hid (hA13.out.later hb14)
    have hA14 := Lib.hid ((hA13.out.later hb14).later hBa.out)
    have hM14 := Lib.hid ((hM13.out.later hb14).later hBa.out)
    have hH14 := Lib.hid (show IRow _ a14 m'.R ∧ IRow _ b14 m'.C from ⟨OwnI.row (ha14.below hBa.out), OwnI.row (hb14p.below hBa.out)⟩)
    have hz14 := hAw.out.hp.lt
    obtain ⟨p0, p1, p2, p3, -⟩ := hAw.out.hp.four
    clear hb14 ha14 hb14p ha13 hc13 hA13 hM13 hAw
    go_wp2_with fail
    refine (MapS.eq_same m' a14 b14 a3 b3 c14 d14 c3 d3 _ hH14.out.1 hH14.out.2 hA14.out.hw hA14.out.hv hzl hzl2).mono ?_
    rintro e w15 ⟨rfl, hb15⟩
    have hB15 := Lib.hid (hA14.out.later hb15).hb
    have hM15 := Lib.hid (hM14.out.later hb15)
    clear hb15 p0 p1 p2 p3 hA14 hM14 hH14 hBa hz14
    obtain ⟨q0, q1, q2, q3, -⟩ := hM15.out.x.four
    go_wp2_with fail
    refine (MapS.held_any m' a5 b5 c5 d5 _ hM15.out.r hM15.out.c (by omega)).mono ?_
    rintro e w16 ⟨rfl, hb16⟩
    have hB16 := Lib.hid (hB15.out.trans (hb16.mono hB15.out.size))
    clear hb16
    go_wp2
    go_ret
    exact ⟨rfl, hB16.out⟩

end Go.Proofs.Ytijcdnmcmngheaa.TurnL
