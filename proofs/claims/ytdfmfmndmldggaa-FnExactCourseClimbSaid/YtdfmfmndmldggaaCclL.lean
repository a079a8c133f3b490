/- 'FnExactCourseClimb' answers as its model, at every argument: the walk of the law. -/
import Derived.Test.YtdfmfmndmldggaaKrU
import Derived.Test.YtdfmfmndmldggaaBaA
import Derived.Test.YtdfmfmndmldggaaBaC
import Derived.RegionTactic
import Derived.Deep.RegionWith
namespace Go.Proofs.Ytdfmfmndmldggaa.CclL
open Go.RowKit Lb Bk LwK IntS
set_option linter.unusedSimpArgs false
set_option linter.unusedVariables false

set_option maxRecDepth 100000 in
set_option maxHeartbeats 8000000 in
theorem law_any (W : World) (m : Mp) (a : Option Addr) (ca : Nat) (b : Option Addr) (cb : Nat) (hi : MapO.IsMp W m a b) (a1 : Option Addr) (cap1 : Nat) (rs1 : List Ct) (hi1 : CtK.IsS W a1 rs1) (rs2 : List Int) (a2 : Option Addr) (cap2 : Nat) (hi2 : LisO.IsL W rs2 a2) :
    Calls Try.prog 7 #[.agg #[.int .i64 m.W, .int .i64 m.H, .slice a m.R.length ca, .slice b m.C.length cb], .slice a1 rs1.length cap1, .slice a2 rs2.length cap2] W fun e w' => e = .returned (.bool true) ∧ Below W.heap.size W w' := by
  have hB := Lib.hid (show Below W.heap.size W (W.alloc (.cells #[.int .i64 m.W, .int .i64 m.H, .slice a m.R.length ca, .slice b m.C.length cb] 38)) from ((Below.refl _ _).alloc (by simp) _))
  have hK0 := Lib.hid (Blk.new W 38 #[.int .i64 m.W, .int .i64 m.H, .slice a m.R.length ca, .slice b m.C.length cb])
  have hMR := Lib.hid hi.R
  have hMC := Lib.hid hi.C
  have lMR := Lib.hid hi.lR
  have lMC := Lib.hid hi.lC
  clear hi
  have hR1 := Lib.hid hi1.R
  have hF1 := Lib.hid hi1.f
  have hL1 := Lib.hid hi1.l
  clear hi1
  have hR2 := Lib.hid (show IntK.Row W a2 rs2 from hi2.row)
  have hLm2 := hi2.len
  unfold maxLen at hLm2
  clear hi2
  by_cases hbig2 : 1048576 < rs2.length
  · go_enter Try.func7, Try.ntmps7
    go_wp2
    go_ret
    exact ⟨rfl, hB.out⟩
  by_cases hbig : 1048576 < m.R.length + m.C.length
  · go_enter Try.func7, Try.ntmps7
    go_wp2_with fail
    refine (MapS.sz_no m a b ca cb _ lMR.out lMC.out hbig).mono ?_
    rintro e w1 ⟨rfl, hb⟩
    go_wp2
    go_ret
    exact ⟨rfl, hB.out.trans (hb.mono hB.out.size)⟩
  have hsm : m.R.length + m.C.length ≤ 1048576 := by omega
  obtain ⟨rM, hrM⟩ : ∃ r : Int, 1048576 - (m.R.length : Int) - (m.C.length : Int) = r := ⟨_, rfl⟩
  have hvM : 0 ≤ rM := by omega
  have hwM : rM ≤ 1048576 := by omega
  have hnegM : decide (rM < 0) = false := decide_eq_false (by omega)
  have hzM := Lib.hid (fun w => hrM ▸ MapS.sz_yes m a b ca cb w hsm)
  replace hrM := Lib.hid hrM
  clear hbig
  go_enter Try.func7, Try.ntmps7
  obtain ⟨p0, p1, p2, p3, -⟩ := MapS.Blk.four hK0.out
  go_wp2_with fail
  refine (hzM.out _).mono ?_
  rintro e w1 ⟨rfl, hb⟩
  replace hB := Lib.hid (hB.out.trans (hb.mono hB.out.size))
  replace hK0 := Lib.hid (hK0.out.later hb)
  clear hb hzM
  clear p0 p1 p2 p3
  go_wp2_with fail
  refine (CtK.szS_any a1 cap1 rs1 _ _ (CtK.Row.later hR1.out hB.out) hF1.out hL1.out (by omega) (by omega)).mono ?_
  rintro e w1 ⟨⟨r1, rfl, hr⟩, hb⟩
  replace hB := Lib.hid (hB.out.trans (hb.mono hB.out.size))
  replace hK0 := Lib.hid (hK0.out.later hb)
  clear hb
  rcases hr with rfl | ⟨h0, hr⟩
  · go_wp2
    go_ret
    exact ⟨rfl, hB.out⟩
  have ht := CtK.tot_nn rs1 rs1.length
  have hn1 : rs1.length ≤ 1048576 := by omega
  have hneg1 : decide (r1 < 0) = false := decide_eq_false (by omega)
  have hu1 : 0 ≤ r1 ∧ r1 ≤ 1048576 := by omega
  obtain ⟨hv1, hw1⟩ := hu1
  clear hr ht h0
  have hn2 : rs2.length ≤ 1048576 := by omega
  obtain ⟨u0, u1, HS, HI⟩ := KrU.climb m lMR.out lMC.out rs1 hF1.out hn1 rs2 hn2
  replace HS := Lib.hid HS
  replace HI := Lib.hid HI
  obtain ⟨p0, p1, p2, p3, -⟩ := MapS.Blk.four hK0.out
  go_wp2_with fail
  refine (MapS.to_any m a b ca cb _ (RowAt.below hMR.out hB.out) (RowAt.below hMC.out hB.out) hsm).mono ?_
  rintro e w1 ⟨⟨v, rfl, ho⟩, hb⟩
  replace hB := Lib.hid (hB.out.trans (hb.mono hB.out.size))
  replace hK0 := Lib.hid (hK0.out.later hb)
  obtain ⟨wma, wmca, wmb, wmcb, rfl, hoa, hob, hon⟩ := ho
  have wXMA := Lib.hid (show IntK.Own _ _ _ _ from hoa)
  have wXMC := Lib.hid (show IntK.Own _ _ _ _ from hob)
  clear hoa hob hon hb
  clear p0 p1 p2 p3
  go_wp2_with fail
  refine (CtK.toS_any a1 cap1 rs1 _ (CtK.Row.later hR1.out hB.out) hn1).mono ?_
  rintro e w1 ⟨v, rfl, ho, hb⟩
  replace hB := Lib.hid (hB.out.trans (hb.mono hB.out.size))
  replace hK0 := Lib.hid (hK0.out.later hb)
  replace wXMA := Lib.hid (IntK.Own.below wXMA.out hb)
  replace wXMC := Lib.hid (IntK.Own.below wXMC.out hb)
  obtain ⟨wa1, wc1, rfl, -, wl1⟩ := CtK.Own.slice ho
  have wX1 := Lib.hid ho
  clear ho hb
  go_wp2_with fail
  refine (IntK.toS_any a2 cap2 rs2 _ (IntK.Row.later hR2.out hB.out) hn2).mono ?_
  rintro e w1 ⟨v, rfl, ho, hb⟩
  replace hB := Lib.hid (hB.out.trans (hb.mono hB.out.size))
  replace hK0 := Lib.hid (hK0.out.later hb)
  replace wXMA := Lib.hid (IntK.Own.below wXMA.out hb)
  replace wXMC := Lib.hid (IntK.Own.below wXMC.out hb)
  replace wX1 := Lib.hid (CtK.Own.below wX1.out hb)
  obtain ⟨wa2, wc2, rfl, -, wl2⟩ := IntK.Own.slice ho
  have wX2 := Lib.hid ho
  clear ho hb
  go_wp2_with fail
  refine (HS.out _ _ _ _ _ _ _ _ _ (IntK.Own.row wXMA.out) (IntK.Own.row wXMC.out) (CtK.Own.le wX1.out) (CtK.Own.row wX1.out) (IntK.Own.le wX2.out) (IntK.Own.row wX2.out)).mono ?_
  rintro e w1 ⟨rfl, hb⟩
  replace hB := Lib.hid (hB.out.trans (hb.mono hB.out.size))
  replace hK0 := Lib.hid (hK0.out.later hb)
  replace wXMA := Lib.hid (IntK.Own.below wXMA.out hb)
  replace wXMC := Lib.hid (IntK.Own.below wXMC.out hb)
  replace wX1 := Lib.hid (CtK.Own.below wX1.out hb)
  replace wX2 := Lib.hid (IntK.Own.below wX2.out hb)
  clear hb
  try clear wXMA
  try clear wXMC
  try clear wX1
  try clear wX2
  obtain ⟨p0, p1, p2, p3, -⟩ := MapS.Blk.four hK0.out
  go_wp2_with fail
  refine (MapS.to_any m a b ca cb _ (RowAt.below hMR.out hB.out) (RowAt.below hMC.out hB.out) hsm).mono ?_
  rintro e w1 ⟨⟨v, rfl, ho⟩, hb⟩
  replace hB := Lib.hid (hB.out.trans (hb.mono hB.out.size))
  replace hK0 := Lib.hid (hK0.out.later hb)
  obtain ⟨xma, xmca, xmb, xmcb, rfl, hoa, hob, hon⟩ := ho
  have xXMA := Lib.hid (show IntK.Own _ _ _ _ from hoa)
  have xXMC := Lib.hid (show IntK.Own _ _ _ _ from hob)
  have xNM := Lib.hid hon
  clear hoa hob hon hb
  clear p0 p1 p2 p3
  have hb1 : Below w1.heap.size w1 (w1.alloc (.cells #[.int .i64 m.W, .int .i64 m.H, .slice xma m.R.length xmca, .slice xmb m.C.length xmcb] 26)) := (Below.refl _ _).alloc (Nat.le_refl _) _
  replace hB := Lib.hid (hB.out.trans (hb1.mono hB.out.size))
  replace hK0 := Lib.hid (hK0.out.later hb1)
  replace xXMA := Lib.hid (IntK.Own.below xXMA.out hb1)
  replace xXMC := Lib.hid (IntK.Own.below xXMC.out hb1)
  clear hb1
  obtain ⟨zb, hzb⟩ : ∃ z, w1.heap.size = z := ⟨_, rfl⟩
  have hXm := Lib.hid (show Blk (w1.alloc (.cells #[.int .i64 m.W, .int .i64 m.H, .slice xma m.R.length xmca, .slice xmb m.C.length xmcb] 26)) zb 26 #[.int .i64 m.W, .int .i64 m.H, .slice xma m.R.length xmca, .slice xmb m.C.length xmcb] from by rw [← hzb]; exact Blk.new w1 26 _)
  replace hzb := Lib.hid hzb
  go_wp2_with fail
  try rw [hzb.out]
  refine (CtK.toS_any a1 cap1 rs1 _ (CtK.Row.later hR1.out hB.out) hn1).mono ?_
  rintro e w1 ⟨v, rfl, ho, hb⟩
  obtain ⟨xa1, xc1, rfl, -, xl⟩ := CtK.Own.slice ho
  replace hB := Lib.hid (hB.out.trans (hb.mono hB.out.size))
  replace hK0 := Lib.hid (hK0.out.later hb)
  replace xXMA := Lib.hid (IntK.Own.below xXMA.out hb)
  replace xXMC := Lib.hid (IntK.Own.below xXMC.out hb)
  replace hXm := Lib.hid (hXm.out.later hb)
  have xX1 := Lib.hid ho
  clear ho hb xl
  go_wp2_with fail
  refine (IntK.toS_any a2 cap2 rs2 _ (IntK.Row.later hR2.out hB.out) hn2).mono ?_
  rintro e w1 ⟨v, rfl, ho, hb⟩
  obtain ⟨xa2, xc2, rfl, -, xl⟩ := IntK.Own.slice ho
  replace hB := Lib.hid (hB.out.trans (hb.mono hB.out.size))
  replace hK0 := Lib.hid (hK0.out.later hb)
  replace xXMA := Lib.hid (IntK.Own.below xXMA.out hb)
  replace xXMC := Lib.hid (IntK.Own.below xXMC.out hb)
  replace hXm := Lib.hid (hXm.out.later hb)
  replace xX1 := Lib.hid (CtK.Own.below xX1.out hb)
  have xX2 := Lib.hid ho
  clear ho hb xl
  obtain ⟨q0, q1, q2, q3, -⟩ := MapS.Blk.four hXm.out
  go_wp2_with fail
  refine (HI.out _ _ _ _ _ _ _ _ _ (IntK.Own.row xXMA.out) (IntK.Own.row xXMC.out) (CtK.Own.le xX1.out) (CtK.Own.row xX1.out) (IntK.Own.le xX2.out) (IntK.Own.row xX2.out)).mono ?_
  rintro e w1 ⟨rfl, hb⟩
  replace hB := Lib.hid (hB.out.trans (hb.mono hB.out.size))
  replace hK0 := Lib.hid (hK0.out.later hb)
  replace xXMA := Lib.hid (IntK.Own.below xXMA.out hb)
  replace xXMC := Lib.hid (IntK.Own.below xXMC.out hb)
  replace hXm := Lib.hid (hXm.out.later hb)
  replace xX1 := Lib.hid (CtK.Own.below xX1.out hb)
  replace xX2 := Lib.hid (IntK.Own.below xX2.out hb)
  clear hb
  clear q0 q1 q2 q3
  go_wp2_with fail
  replace hB := Lib.hid (show Below W.heap.size W (World.drew _) from hB.out.drew)
  replace hK0 := Lib.hid (hK0.out.drew)
  replace xXMA := Lib.hid (IntK.Own.drew xXMA.out)
  replace xXMC := Lib.hid (IntK.Own.drew xXMC.out)
  replace hXm := Lib.hid (hXm.out.drew)
  replace xX1 := Lib.hid (CtK.Own.drew xX1.out)
  replace xX2 := Lib.hid (IntK.Own.drew xX2.out)
  obtain ⟨p0, p1, p2, p3, -⟩ := MapS.Blk.four hK0.out
  obtain ⟨q0, q1, q2, q3, -⟩ := MapS.Blk.four hXm.out
  go_region_held3 (fun Wx : World => (Wx.cell? ⟨W.heap.size, 0, none⟩ = some (.int .i64 m.W) ∧ Wx.cell? ⟨W.heap.size, 1, none⟩ = some (.int .i64 m.H) ∧ Wx.cell? ⟨W.heap.size, 2, none⟩ = some (.slice a m.R.length ca) ∧ Wx.cell? ⟨W.heap.size, 3, none⟩ = some (.slice b m.C.length cb)) ∧ (Wx.cell? ⟨zb, 0, none⟩ = some (.int .i64 m.W) ∧ Wx.cell? ⟨zb, 1, none⟩ = some (.int .i64 m.H) ∧ Wx.cell? ⟨zb, 2, none⟩ = some (.slice xma m.R.length xmca) ∧ Wx.cell? ⟨zb, 3, none⟩ = some (.slice xmb m.C.length xmcb))) ((first | with_reducible exact ⟨⟨p0, p1, p2, p3⟩, ⟨q0, q1, q2, q3⟩⟩ | with_reducible exact ⟨MpA.f4 hK0.out, MpA.f4 hXm.out⟩)) (first
      | (go_at_call 34; refine (MapS.to_any m a b ca cb _ (RowAt.below hMR.out hB.out) (RowAt.below hMC.out hB.out) hsm).mono ?_; rintro e w2 ⟨⟨v, rfl, ho⟩, hb⟩; replace hB := Lib.hid (hB.out.trans (hb.mono hB.out.size)); replace hK0 := Lib.hid (hK0.out.later hb); replace xXMA := Lib.hid (IntK.Own.below xXMA.out hb); replace xXMC := Lib.hid (IntK.Own.below xXMC.out hb); replace hXm := Lib.hid (hXm.out.later hb); replace xX1 := Lib.hid (CtK.Own.below xX1.out hb); replace xX2 := Lib.hid (IntK.Own.below xX2.out hb); obtain ⟨ya, yca, yb, ycb, rfl, yo, yp, -⟩ := ho; have yA := Lib.hid (IntK.Own.row yo); have yC := Lib.hid (IntK.Own.row yp); clear yo yp hb)
      | (go_at_call 37; refine (MapS.eq_same m _ _ _ _ _ _ _ _ _ (IntK.Own.row xXMA.out) (IntK.Own.row xXMC.out) yA.out yC.out lMR.out lMC.out).mono ?_; rintro e w2 ⟨rfl, hb⟩; replace hB := Lib.hid (hB.out.trans (hb.mono hB.out.size)); replace hK0 := Lib.hid (hK0.out.later hb); replace xXMA := Lib.hid (IntK.Own.below xXMA.out hb); replace xXMC := Lib.hid (IntK.Own.below xXMC.out hb); replace hXm := Lib.hid (hXm.out.later hb); replace xX1 := Lib.hid (CtK.Own.below xX1.out hb); replace xX2 := Lib.hid (IntK.Own.below xX2.out hb); clear hb yA yC))
  clear p0 p1 p2 p3 q0 q1 q2 q3
  go_wp2_with fail
  refine (CtK.toS_any a1 cap1 rs1 _ (CtK.Row.later hR1.out hB.out) hn1).mono ?_
  rintro e w1 ⟨v, rfl, ho, hb⟩
  obtain ⟨ya, yc, rfl, hyr, -⟩ := CtK.Own.slice ho
  replace hB := Lib.hid (hB.out.trans (hb.mono hB.out.size))
  replace hK0 := Lib.hid (hK0.out.later hb)
  replace xXMA := Lib.hid (IntK.Own.below xXMA.out hb)
  replace xXMC := Lib.hid (IntK.Own.below xXMC.out hb)
  replace hXm := Lib.hid (hXm.out.later hb)
  replace xX1 := Lib.hid (CtK.Own.below xX1.out hb)
  replace xX2 := Lib.hid (IntK.Own.below xX2.out hb)
  clear ho hb
  go_wp2_with fail
  refine (CtK.eqS_same _ _ _ _ rs1 _ (CtK.Own.row xX1.out) hyr (by unfold maxLen; omega)).mono ?_
  rintro e w1 ⟨rfl, hb⟩
  replace hB := Lib.hid (hB.out.trans (hb.mono hB.out.size))
  replace hK0 := Lib.hid (hK0.out.later hb)
  replace xXMA := Lib.hid (IntK.Own.below xXMA.out hb)
  replace xXMC := Lib.hid (IntK.Own.below xXMC.out hb)
  replace hXm := Lib.hid (hXm.out.later hb)
  replace xX1 := Lib.hid (CtK.Own.below xX1.out hb)
  replace xX2 := Lib.hid (IntK.Own.below xX2.out hb)
  clear hb hyr
  go_wp2_with fail
  refine (IntK.toS_any a2 cap2 rs2 _ (IntK.Row.later hR2.out hB.out) hn2).mono ?_
  rintro e w1 ⟨v, rfl, ho, hb⟩
  obtain ⟨ya, yc, rfl, hyr, -⟩ := IntK.Own.slice ho
  replace hB := Lib.hid (hB.out.trans (hb.mono hB.out.size))
  replace hK0 := Lib.hid (hK0.out.later hb)
  replace xXMA := Lib.hid (IntK.Own.below xXMA.out hb)
  replace xXMC := Lib.hid (IntK.Own.below xXMC.out hb)
  replace hXm := Lib.hid (hXm.out.later hb)
  replace xX1 := Lib.hid (CtK.Own.below xX1.out hb)
  replace xX2 := Lib.hid (IntK.Own.below xX2.out hb)
  clear ho hb
  go_wp2_with fail
  refine (IntK.eqS_same _ _ _ _ rs2 _ (IntK.Own.row xX2.out) hyr (by unfold maxLen; omega)).mono ?_
  rintro e w1 ⟨rfl, hb⟩
  replace hB := Lib.hid (hB.out.trans (hb.mono hB.out.size))
  replace hK0 := Lib.hid (hK0.out.later hb)
  replace xXMA := Lib.hid (IntK.Own.below xXMA.out hb)
  replace xXMC := Lib.hid (IntK.Own.below xXMC.out hb)
  replace hXm := Lib.hid (hXm.out.later hb)
  replace xX1 := Lib.hid (CtK.Own.below xX1.out hb)
  replace xX2 := Lib.hid (IntK.Own.below xX2.out hb)
  clear hb hyr
  go_wp2
  go_ret
  exact ⟨rfl, hB.out⟩

end Go.Proofs.Ytdfmfmndmldggaa.CclL
