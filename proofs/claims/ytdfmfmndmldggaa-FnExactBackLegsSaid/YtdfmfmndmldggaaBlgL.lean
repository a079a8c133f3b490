/- 'FnExactBackLegs' answers as its model, at every argument: the walk of the law. -/
import Derived.Test.YtdfmfmndmldggaaKrW
import Derived.Test.YtdfmfmndmldggaaBaA
import Derived.Test.YtdfmfmndmldggaaBaC
import Derived.RegionTactic
import Derived.Deep.RegionWith
namespace Go.Proofs.Ytdfmfmndmldggaa.BlgL
open Go.RowKit Lb Bk LwK IntS
set_option linter.unusedSimpArgs false
set_option linter.unusedVariables false

set_option maxRecDepth 100000 in
set_option maxHeartbeats 8000000 in
theorem law_any (W : World) (m : Mp) (a : Option Addr) (ca : Nat) (b : Option Addr) (cb : Nat) (hi : MapO.IsMp W m a b) (a1 : Option Addr) (cap1 : Nat) (rs1 : List Ct) (hi1 : CtK.IsS W a1 rs1) (rs2 : List Int) (a2 : Option Addr) (cap2 : Nat) (hi2 : LisO.IsL W rs2 a2) :
    Calls Try.prog 9 #[.agg #[.int .i64 m.W, .int .i64 m.H, .slice a m.R.length ca, .slice b m.C.length cb], .slice a1 rs1.length cap1, .slice a2 rs2.length cap2] W fun e w' => e = .returned (.bool true) ∧ Below W.heap.size W w' := by
  have hB := Lib.hid (show Below W.heap.size W (W.alloc (.cells #[.int .i64 m.W, .int .i64 m.H, .slice a m.R.length ca, .slice b m.C.length cb] 38)) from ((Below.refl _ _).alloc (by simp) _))
  have hK0 := Lib.hid (Blk.new W 38 #[.int .i64 m.W, .int .i64 m.H, .slice a m.R.length ca, .slice b m.C.length cb])
  have hMR := Lib.hid hi.R
  have hMC := Lib.hid hi.C
  have lMR := Lib.hid hi.lR
  have lMC := Lib.hid hi.lC
  clear hi
  have hR1 := Lib.hid hi1.R
  have hF1 := Lib.hid hi1.f
  have hL1 := Lib.hid hi1.l
  clear hi1
  have hR2 := Lib.hid (show IntK.Row W a2 rs2 from hi2.row)
  have hLm2 := hi2.len
  unfold maxLen at hLm2
  clear hi2
  by_cases hbig2 : 1048576 < rs2.length
  · go_enter Try.func9, Try.ntmps9
    go_wp2
    go_ret
    exact ⟨rfl, hB.out⟩
  by_cases hbig : 1048576 < m.R.length + m.C.length
  · go_enter Try.func9, Try.ntmps9
    go_wp2_with fail
    refine (MapS.sz_no m a b ca cb _ lMR.out lMC.out hbig).mono ?_
    rintro e w1 ⟨rfl, hb⟩
    go_wp2
    go_ret
    exact ⟨rfl, hB.out.trans (hb.mono hB.out.size)⟩
  have hsm : m.R.length + m.C.length ≤ 1048576 := by omega
  obtain ⟨rM, hrM⟩ : ∃ r : Int, 1048576 - (m.R.length : Int) - (m.C.length : Int) = r := ⟨_, rfl⟩
  have hvM : 0 ≤ rM := by omega
  have hwM : rM ≤ 1048576 := by omega
  have hnegM : decide (rM < 0) = false := decide_eq_false (by omega)
  have hzM := Lib.hid (fun w => hrM ▸ MapS.sz_yes m a b ca cb w hsm)
  replace hrM := Lib.hid hrM
  clear hbig
  go_enter Try.func9, Try.ntmps9
  obtain ⟨p0, p1, p2, p3, -⟩ := MapS.Blk.four hK0.out
  go_wp2_with fail
  refine (hzM.out _).mono ?_
  rintro e w1 ⟨rfl, hb⟩
  replace hB := Lib.hid (hB.out.trans (hb.mono hB.out.size))
  replace hK0 := Lib.hid (hK0.out.later hb)
  clear hb hzM
  clear p0 p1 p2 p3
  go_wp2_with fail
  refine (CtK.szS_any a1 cap1 rs1 _ _ (CtK.Row.later hR1.out hB.out) hF1.out hL1.out (by omega) (by omega)).mono ?_
  rintro e w1 ⟨⟨r1, rfl, hr⟩, hb⟩
  replace hB := Lib.hid (hB.out.trans (hb.mono hB.out.size))
  replace hK0 := Lib.hid (hK0.out.later hb)
  clear hb
  rcases hr with rfl | ⟨h0, hr⟩
  · go_wp2
    go_ret
    exact ⟨rfl, hB.out⟩
  have ht := CtK.tot_nn rs1 rs1.length
  have hn1 : rs1.length ≤ 1048576 := by omega
  have hneg1 : decide (r1 < 0) = false := decide_eq_false (by omega)
  have hu1 : 0 ≤ r1 ∧ r1 ≤ 1048576 := by omega
  obtain ⟨hv1, hw1⟩ := hu1
  clear hr ht h0
  have hn2 : rs2.length ≤ 1048576 := by omega
  obtain ⟨u0, u1, hul0, HS, HI⟩ := KrW.back m lMR.out lMC.out rs1 hF1.out hn1 rs2 hn2
  replace HS := Lib.hid HS
  replace HI := Lib.hid HI
  have hum0 : u0.length ≤ maxLen := by unfold maxLen; omega
  obtain ⟨p0, p1, p2, p3, -⟩ := MapS.Blk.four hK0.out
  go_wp2_with fail
  refine (MapS.to_any m a b ca cb _ (RowAt.below hMR.out hB.out) (RowAt.below hMC.out hB.out) hsm).mono ?_
  rintro e w1 ⟨⟨v, rfl, ho⟩, hb⟩
  replace hB := Lib.hid (hB.out.trans (hb.mono hB.out.size))
  replace hK0 := Lib.hid (hK0.out.later hb)
  obtain ⟨wma, wmca, wmb, wmcb, rfl, hoa, hob, hon⟩ := ho
  have wXMA := Lib.hid (show IntK.Own _ _ _ _ from hoa)
  have wXMC := Lib.hid (show IntK.Own _ _ _ _ from hob)
  clear hoa hob hon hb
  clear p0 p1 p2 p3
  go_wp2_with fail
  refine (CtK.toS_any a1 cap1 rs1 _ (CtK.Row.later hR1.out hB.out) hn1).mono ?_
  rintro e w1 ⟨v, rfl, ho, hb⟩
  replace hB := Lib.hid (hB.out.trans (hb.mono hB.out.size))
  replace hK0 := Lib.hid (hK0.out.later hb)
  replace wXMA := Lib.hid (IntK.Own.below wXMA.out hb)
  replace wXMC := Lib.hid (IntK.Own.below wXMC.out hb)
  obtain ⟨wa1, wc1, rfl, -, wl1⟩ := CtK.Own.slice ho
  have wX1 := Lib.hid ho
  clear ho hb
  go_wp2_with fail
  refine (IntK.toS_any a2 cap2 rs2 _ (IntK.Row.later hR2.out hB.out) hn2).mono ?_
  rintro e w1 ⟨v, rfl, ho, hb⟩
  replace hB := Lib.hid (hB.out.trans (hb.mono hB.out.size))
  replace hK0 := Lib.hid (hK0.out.later hb)
  replace wXMA := Lib.hid (IntK.Own.below wXMA.out hb)
  replace wXMC := Lib.hid (IntK.Own.below wXMC.out hb)
  replace wX1 := Lib.hid (CtK.Own.below wX1.out hb)
  obtain ⟨wa2, wc2, rfl, -, wl2⟩ := IntK.Own.slice ho
  have wX2 := Lib.hid ho
  clear ho hb
  go_wp2_with fail
  refine (HS.out _ _ _ _ _ _ _ _ _ (IntK.Own.row wXMA.out) (IntK.Own.row wXMC.out) (CtK.Own.le wX1.out) (CtK.Own.row wX1.out) (IntK.Own.le wX2.out) (IntK.Own.row wX2.out)).mono ?_
  rintro e w1 ⟨v0, rfl, ho0, hb⟩
  replace hB := Lib.hid (hB.out.trans (hb.mono hB.out.size))
  replace hK0 := Lib.hid (hK0.out.later hb)
  replace wXMA := Lib.hid (IntK.Own.below wXMA.out hb)
  replace wXMC := Lib.hid (IntK.Own.below wXMC.out hb)
  replace wX1 := Lib.hid (CtK.Own.below wX1.out hb)
  replace wX2 := Lib.hid (IntK.Own.below wX2.out hb)
  obtain ⟨wa0, wc0, rfl, wr0, wl0⟩ := IntK.Own.slice ho0
  have wW0 := Lib.hid wr0
  clear ho0 wr0
  clear hb
  try clear wXMA
  try clear wXMC
  try clear wX1
  try clear wX2
  obtain ⟨z0, hz0⟩ : ∃ z, w1.heap.size = z := ⟨_, rfl⟩
  have hhi0 := Lib.hid (show ∀ x, wa0 = some x → x.block < z0 from fun x e => hz0 ▸ (wl0 x e).2)
  clear wl0
  have hWz := Lib.hid (show W.heap.size ≤ z0 from hz0 ▸ hB.out.size)
  have hKz0 := Lib.hid (show (W.heap.size) < z0 from hz0 ▸ hK0.out.lt)
  have hZ := Lib.hid (show z0 ≤ w1.heap.size from Nat.le_of_eq hz0.symm)
  clear hz0
  obtain ⟨p0, p1, p2, p3, -⟩ := MapS.Blk.four hK0.out
  go_wp2_with fail
  refine (MapS.to_any m a b ca cb _ (RowAt.below hMR.out hB.out) (RowAt.below hMC.out hB.out) hsm).mono ?_
  rintro e w1 ⟨⟨v, rfl, ho⟩, hb⟩
  have hZo := hZ.out
  replace hB := Lib.hid (hB.out.trans (hb.mono hB.out.size))
  replace hK0 := Lib.hid (hK0.out.later hb)
  replace wW0 := Lib.hid (IntK.Row.later wW0.out hb)
  replace hZ := Lib.hid (Nat.le_trans hZ.out hb.size)
  obtain ⟨xma, xmca, xmb, xmcb, rfl, hoa, hob, hon⟩ := ho
  have xXMA := Lib.hid (show IntK.Own _ _ _ _ from hoa)
  have xXMC := Lib.hid (show IntK.Own _ _ _ _ from hob)
  have xNM := Lib.hid hon
  clear hoa hob hon hb
  clear p0 p1 p2 p3
  obtain ⟨zb, hzb⟩ : ∃ z, w1.heap.size = z := ⟨_, rfl⟩
  have xloMA := Lib.hid (show ∀ x, xma = some x → x.block < zb from fun x e => hzb ▸ (MapS.OwnI.lt xXMA.out x e).2)
  have xloMC := Lib.hid (show ∀ x, xmb = some x → x.block < zb from fun x e => hzb ▸ (MapS.OwnI.lt xXMC.out x e).2)
  replace xXMA := Lib.hid (show IntK.Own _ z0 _ _ from IntS.rebase xXMA.out hZo)
  replace xXMC := Lib.hid (show IntK.Own _ z0 _ _ from IntS.rebase xXMC.out hZo)
  clear hZo
  have hz0b := Lib.hid (show z0 ≤ zb from hzb ▸ hZ.out)
  have hb1 : Below w1.heap.size w1 (w1.alloc (.cells #[.int .i64 m.W, .int .i64 m.H, .slice xma m.R.length xmca, .slice xmb m.C.length xmcb] 26)) := (Below.refl _ _).alloc (Nat.le_refl _) _
  replace hB := Lib.hid (hB.out.trans (hb1.mono hB.out.size))
  replace hK0 := Lib.hid (hK0.out.later hb1)
  replace wW0 := Lib.hid (IntK.Row.later wW0.out hb1)
  replace hZ := Lib.hid (Nat.le_trans hZ.out hb1.size)
  replace xXMA := Lib.hid (IntK.Own.below xXMA.out hb1)
  replace xXMC := Lib.hid (IntK.Own.below xXMC.out hb1)
  clear hb1
  have hXm := Lib.hid (show Blk (w1.alloc (.cells #[.int .i64 m.W, .int .i64 m.H, .slice xma m.R.length xmca, .slice xmb m.C.length xmcb] 26)) zb 26 #[.int .i64 m.W, .int .i64 m.H, .slice xma m.R.length xmca, .slice xmb m.C.length xmcb] from by rw [← hzb]; exact Blk.new w1 26 _)
  have hZb := Lib.hid (show zb + 1 ≤ (w1.alloc (.cells #[.int .i64 m.W, .int .i64 m.H, .slice xma m.R.length xmca, .slice xmb m.C.length xmcb] 26)).heap.size from by rw [World.size_alloc, hzb]; exact Nat.le_refl _)
  replace hzb := Lib.hid hzb
  go_wp2_with fail
  try rw [hzb.out]
  refine (CtK.toS_any a1 cap1 rs1 _ (CtK.Row.later hR1.out hB.out) hn1).mono ?_
  rintro e w1 ⟨v, rfl, ho, hb⟩
  obtain ⟨xa1, xc1, rfl, -, xl⟩ := CtK.Own.slice ho
  have xlo1 := Lib.hid (show ∀ x, xa1 = some x → z0 ≤ x.block from fun x e => Nat.le_trans hZ.out (xl x e).1)
  have xlb1 := Lib.hid (show ∀ x, xa1 = some x → zb + 1 ≤ x.block from fun x e => Nat.le_trans hZb.out (xl x e).1)
  replace hB := Lib.hid (hB.out.trans (hb.mono hB.out.size))
  replace hK0 := Lib.hid (hK0.out.later hb)
  replace wW0 := Lib.hid (IntK.Row.later wW0.out hb)
  replace hZ := Lib.hid (Nat.le_trans hZ.out hb.size)
  replace xXMA := Lib.hid (IntK.Own.below xXMA.out hb)
  replace xXMC := Lib.hid (IntK.Own.below xXMC.out hb)
  replace hXm := Lib.hid (hXm.out.later hb)
  replace hZb := Lib.hid (Nat.le_trans hZb.out hb.size)
  have xup1 := Lib.hid (show ∀ x, xa1 = some x → x.block < w1.heap.size from fun x e => (xl x e).2)
  have xX1 := Lib.hid ho
  clear ho hb xl
  go_wp2_with fail
  refine (IntK.toS_any a2 cap2 rs2 _ (IntK.Row.later hR2.out hB.out) hn2).mono ?_
  rintro e w1 ⟨v, rfl, ho, hb⟩
  obtain ⟨xa2, xc2, rfl, -, xl⟩ := IntK.Own.slice ho
  have xlo2 := Lib.hid (show ∀ x, xa2 = some x → z0 ≤ x.block from fun x e => Nat.le_trans hZ.out (xl x e).1)
  have xlb2 := Lib.hid (show ∀ x, xa2 = some x → zb + 1 ≤ x.block from fun x e => Nat.le_trans hZb.out (xl x e).1)
  have xne2_1 := Lib.hid (show ∀ x y, xa2 = some x → xa1 = some y → y.block ≠ x.block from fun x y hx hy e => by have h1 := xup1.out y hy; have h2 := (xl x hx).1; omega)
  replace hB := Lib.hid (hB.out.trans (hb.mono hB.out.size))
  replace hK0 := Lib.hid (hK0.out.later hb)
  replace wW0 := Lib.hid (IntK.Row.later wW0.out hb)
  replace hZ := Lib.hid (Nat.le_trans hZ.out hb.size)
  replace xXMA := Lib.hid (IntK.Own.below xXMA.out hb)
  replace xXMC := Lib.hid (IntK.Own.below xXMC.out hb)
  replace hXm := Lib.hid (hXm.out.later hb)
  replace hZb := Lib.hid (Nat.le_trans hZb.out hb.size)
  replace xX1 := Lib.hid (CtK.Own.below xX1.out hb)
  replace xup1 := Lib.hid (fun x e => Nat.lt_of_lt_of_le (xup1.out x e) hb.size)
  have xup2 := Lib.hid (show ∀ x, xa2 = some x → x.block < w1.heap.size from fun x e => (xl x e).2)
  have xX2 := Lib.hid ho
  clear ho hb xl
  obtain ⟨z1, hz1⟩ : ∃ z, w1.heap.size = z := ⟨_, rfl⟩
  have xhi1 := Lib.hid (show ∀ x, xa1 = some x → x.block < z1 from fun x e => hz1 ▸ xup1.out x e)
  clear xup1
  have xhi2 := Lib.hid (show ∀ x, xa2 = some x → x.block < z1 from fun x e => hz1 ▸ xup2.out x e)
  clear xup2
  have hz01 : z0 ≤ z1 := hz1 ▸ hZ.out
  have hzb1 := Lib.hid (show zb + 1 ≤ z1 from hz1 ▸ hZb.out)
  have hY := Lib.hid (show z1 ≤ w1.heap.size from Nat.le_of_eq hz1.symm)
  clear hz1
  obtain ⟨q0, q1, q2, q3, -⟩ := MapS.Blk.four hXm.out
  go_wp2_with fail
  refine (HI.out _ _ _ _ _ _ _ _ _ (IntK.Own.row xXMA.out) (IntK.Own.row xXMC.out) (CtK.Own.le xX1.out) (CtK.Own.row xX1.out) (IntK.Own.le xX2.out) (IntK.Own.row xX2.out)).mono ?_
  rintro e w1 ⟨v0, rfl, ho0, hb⟩
  obtain ⟨ga0, gc0, rfl, -, gl0⟩ := IntK.Own.slice ho0
  have glo0 := Lib.hid (show ∀ x, ga0 = some x → z1 ≤ x.block from fun x e => Nat.le_trans hY.out (gl0 x e).1)
  replace hB := Lib.hid (hB.out.trans (hb.mono hB.out.size))
  replace hK0 := Lib.hid (hK0.out.later hb)
  replace wW0 := Lib.hid (IntK.Row.later wW0.out hb)
  replace hZ := Lib.hid (Nat.le_trans hZ.out hb.size)
  replace xXMA := Lib.hid (IntK.Own.below xXMA.out hb)
  replace xXMC := Lib.hid (IntK.Own.below xXMC.out hb)
  replace hXm := Lib.hid (hXm.out.later hb)
  replace hZb := Lib.hid (Nat.le_trans hZb.out hb.size)
  replace xX1 := Lib.hid (CtK.Own.below xX1.out hb)
  replace xX2 := Lib.hid (IntK.Own.below xX2.out hb)
  replace hY := Lib.hid (Nat.le_trans hY.out hb.size)
  have gX0 := Lib.hid ho0
  clear ho0 gl0
  clear hb
  clear q0 q1 q2 q3
  go_wp2_with fail
  refine (IntK.eqS_same _ _ _ _ u0 _ (IntK.Own.row gX0.out) wW0.out hum0).mono ?_
  rintro e w1 ⟨rfl, hb⟩
  replace hB := Lib.hid (hB.out.trans (hb.mono hB.out.size))
  replace hK0 := Lib.hid (hK0.out.later hb)
  replace wW0 := Lib.hid (IntK.Row.later wW0.out hb)
  replace hZ := Lib.hid (Nat.le_trans hZ.out hb.size)
  replace xXMA := Lib.hid (IntK.Own.below xXMA.out hb)
  replace xXMC := Lib.hid (IntK.Own.below xXMC.out hb)
  replace hXm := Lib.hid (hXm.out.later hb)
  replace hZb := Lib.hid (Nat.le_trans hZb.out hb.size)
  replace xX1 := Lib.hid (CtK.Own.below xX1.out hb)
  replace xX2 := Lib.hid (IntK.Own.below xX2.out hb)
  replace hY := Lib.hid (Nat.le_trans hY.out hb.size)
  replace gX0 := Lib.hid (IntK.Own.below gX0.out hb)
  clear hb
  go_wp2_with fail
  replace hB := Lib.hid (show Below W.heap.size W (World.drew _) from hB.out.drew)
  replace hK0 := Lib.hid (hK0.out.drew)
  replace wW0 := Lib.hid (IntK.Row.drew wW0.out)
  replace xXMA := Lib.hid (IntK.Own.drew xXMA.out)
  replace xXMC := Lib.hid (IntK.Own.drew xXMC.out)
  replace hXm := Lib.hid (hXm.out.drew)
  replace xX1 := Lib.hid (CtK.Own.drew xX1.out)
  replace xX2 := Lib.hid (IntK.Own.drew xX2.out)
  replace gX0 := Lib.hid (IntK.Own.drew gX0.out)
  obtain ⟨p0, p1, p2, p3, -⟩ := MapS.Blk.four hK0.out
  obtain ⟨q0, q1, q2, q3, -⟩ := MapS.Blk.four hXm.out
  go_region_held3 (fun Wx : World => (Wx.cell? ⟨W.heap.size, 0, none⟩ = some (.int .i64 m.W) ∧ Wx.cell? ⟨W.heap.size, 1, none⟩ = some (.int .i64 m.H) ∧ Wx.cell? ⟨W.heap.size, 2, none⟩ = some (.slice a m.R.length ca) ∧ Wx.cell? ⟨W.heap.size, 3, none⟩ = some (.slice b m.C.length cb)) ∧ (Wx.cell? ⟨zb, 0, none⟩ = some (.int .i64 m.W) ∧ Wx.cell? ⟨zb, 1, none⟩ = some (.int .i64 m.H) ∧ Wx.cell? ⟨zb, 2, none⟩ = some (.slice xma m.R.length xmca) ∧ Wx.cell? ⟨zb, 3, none⟩ = some (.slice xmb m.C.length xmcb))) ((first | with_reducible exact ⟨⟨p0, p1, p2, p3⟩, ⟨q0, q1, q2, q3⟩⟩ | with_reducible exact ⟨MpA.f4 hK0.out, MpA.f4 hXm.out⟩)) (first
      | (go_at_call 34; refine (MapS.to_any m a b ca cb _ (RowAt.below hMR.out hB.out) (RowAt.below hMC.out hB.out) hsm).mono ?_; rintro e w2 ⟨⟨v, rfl, ho⟩, hb⟩; replace hB := Lib.hid (hB.out.trans (hb.mono hB.out.size)); replace hK0 := Lib.hid (hK0.out.later hb); replace wW0 := Lib.hid (IntK.Row.later wW0.out hb); replace hZ := Lib.hid (Nat.le_trans hZ.out hb.size); replace xXMA := Lib.hid (IntK.Own.below xXMA.out hb); replace xXMC := Lib.hid (IntK.Own.below xXMC.out hb); replace hXm := Lib.hid (hXm.out.later hb); replace hZb := Lib.hid (Nat.le_trans hZb.out hb.size); replace xX1 := Lib.hid (CtK.Own.below xX1.out hb); replace xX2 := Lib.hid (IntK.Own.below xX2.out hb); replace hY := Lib.hid (Nat.le_trans hY.out hb.size); replace gX0 := Lib.hid (IntK.Own.below gX0.out hb); obtain ⟨ya, yca, yb, ycb, rfl, yo, yp, -⟩ := ho; have yA := Lib.hid (IntK.Own.row yo); have yC := Lib.hid (IntK.Own.row yp); clear yo yp hb)
      | (go_at_call 37; refine (MapS.eq_same m _ _ _ _ _ _ _ _ _ (IntK.Own.row xXMA.out) (IntK.Own.row xXMC.out) yA.out yC.out lMR.out lMC.out).mono ?_; rintro e w2 ⟨rfl, hb⟩; replace hB := Lib.hid (hB.out.trans (hb.mono hB.out.size)); replace hK0 := Lib.hid (hK0.out.later hb); replace wW0 := Lib.hid (IntK.Row.later wW0.out hb); replace hZ := Lib.hid (Nat.le_trans hZ.out hb.size); replace xXMA := Lib.hid (IntK.Own.below xXMA.out hb); replace xXMC := Lib.hid (IntK.Own.below xXMC.out hb); replace hXm := Lib.hid (hXm.out.later hb); replace hZb := Lib.hid (Nat.le_trans hZb.out hb.size); replace xX1 := Lib.hid (CtK.Own.below xX1.out hb); replace xX2 := Lib.hid (IntK.Own.below xX2.out hb); replace hY := Lib.hid (Nat.le_trans hY.out hb.size); replace gX0 := Lib.hid (IntK.Own.below gX0.out hb); clear hb yA yC))
  clear p0 p1 p2 p3 q0 q1 q2 q3
  go_wp2_with fail
  refine (CtK.toS_any a1 cap1 rs1 _ (CtK.Row.later hR1.out hB.out) hn1).mono ?_
  rintro e w1 ⟨v, rfl, ho, hb⟩
  obtain ⟨ya, yc, rfl, hyr, -⟩ := CtK.Own.slice ho
  replace hB := Lib.hid (hB.out.trans (hb.mono hB.out.size))
  replace hK0 := Lib.hid (hK0.out.later hb)
  replace wW0 := Lib.hid (IntK.Row.later wW0.out hb)
  replace hZ := Lib.hid (Nat.le_trans hZ.out hb.size)
  replace xXMA := Lib.hid (IntK.Own.below xXMA.out hb)
  replace xXMC := Lib.hid (IntK.Own.below xXMC.out hb)
  replace hXm := Lib.hid (hXm.out.later hb)
  replace hZb := Lib.hid (Nat.le_trans hZb.out hb.size)
  replace xX1 := Lib.hid (CtK.Own.below xX1.out hb)
  replace xX2 := Lib.hid (IntK.Own.below xX2.out hb)
  replace hY := Lib.hid (Nat.le_trans hY.out hb.size)
  replace gX0 := Lib.hid (IntK.Own.below gX0.out hb)
  clear ho hb
  go_wp2_with fail
  refine (CtK.eqS_same _ _ _ _ rs1 _ (CtK.Own.row xX1.out) hyr (by unfold maxLen; omega)).mono ?_
  rintro e w1 ⟨rfl, hb⟩
  replace hB := Lib.hid (hB.out.trans (hb.mono hB.out.size))
  replace hK0 := Lib.hid (hK0.out.later hb)
  replace wW0 := Lib.hid (IntK.Row.later wW0.out hb)
  replace hZ := Lib.hid (Nat.le_trans hZ.out hb.size)
  replace xXMA := Lib.hid (IntK.Own.below xXMA.out hb)
  replace xXMC := Lib.hid (IntK.Own.below xXMC.out hb)
  replace hXm := Lib.hid (hXm.out.later hb)
  replace hZb := Lib.hid (Nat.le_trans hZb.out hb.size)
  replace xX1 := Lib.hid (CtK.Own.below xX1.out hb)
  replace xX2 := Lib.hid (IntK.Own.below xX2.out hb)
  replace hY := Lib.hid (Nat.le_trans hY.out hb.size)
  replace gX0 := Lib.hid (IntK.Own.below gX0.out hb)
  clear hb hyr
  go_wp2_with fail
  refine (IntK.toS_any a2 cap2 rs2 _ (IntK.Row.later hR2.out hB.out) hn2).mono ?_
  rintro e w1 ⟨v, rfl, ho, hb⟩
  obtain ⟨ya, yc, rfl, hyr, -⟩ := IntK.Own.slice ho
  replace hB := Lib.hid (hB.out.trans (hb.mono hB.out.size))
  replace hK0 := Lib.hid (hK0.out.later hb)
  replace wW0 := Lib.hid (IntK.Row.later wW0.out hb)
  replace hZ := Lib.hid (Nat.le_trans hZ.out hb.size)
  replace xXMA := Lib.hid (IntK.Own.below xXMA.out hb)
  replace xXMC := Lib.hid (IntK.Own.below xXMC.out hb)
  replace hXm := Lib.hid (hXm.out.later hb)
  replace hZb := Lib.hid (Nat.le_trans hZb.out hb.size)
  replace xX1 := Lib.hid (CtK.Own.below xX1.out hb)
  replace xX2 := Lib.hid (IntK.Own.below xX2.out hb)
  replace hY := Lib.hid (Nat.le_trans hY.out hb.size)
  replace gX0 := Lib.hid (IntK.Own.below gX0.out hb)
  clear ho hb
  go_wp2_with fail
  refine (IntK.eqS_same _ _ _ _ rs2 _ (IntK.Own.row xX2.out) hyr (by unfold maxLen; omega)).mono ?_
  rintro e w1 ⟨rfl, hb⟩
  replace hB := Lib.hid (hB.out.trans (hb.mono hB.out.size))
  replace hK0 := Lib.hid (hK0.out.later hb)
  replace wW0 := Lib.hid (IntK.Row.later wW0.out hb)
  replace hZ := Lib.hid (Nat.le_trans hZ.out hb.size)
  replace xXMA := Lib.hid (IntK.Own.below xXMA.out hb)
  replace xXMC := Lib.hid (IntK.Own.below xXMC.out hb)
  replace hXm := Lib.hid (hXm.out.later hb)
  replace hZb := Lib.hid (Nat.le_trans hZb.out hb.size)
  replace xX1 := Lib.hid (CtK.Own.below xX1.out hb)
  replace xX2 := Lib.hid (IntK.Own.below xX2.out hb)
  replace hY := Lib.hid (Nat.le_trans hY.out hb.size)
  replace gX0 := Lib.hid (IntK.Own.below gX0.out hb)
  clear hb hyr
  obtain ⟨q0, q1, q2, q3, -⟩ := MapS.Blk.four hXm.out
  obtain ⟨mM, hmM⟩ : ∃ k : Nat, 1 + m.R.length + m.C.length = k := ⟨_, rfl⟩
  have hmMe : (1 + (m.R.length : Int) + (m.C.length : Int)) = (mM : Int) := by omega
  have hneg : decide ((mM : Int) < 0) = false := pos_cast _
  replace hmMe := Lib.hid hmMe
  replace hmM := Lib.hid (show 1 ≤ mM ∧ mM ≤ 1048577 from by omega)
  go_wp2_with fail
  refine (MapS.mark_any m xma xmb xmca xmcb z0 zb _ W xXMA.out xXMC.out xNM.out xloMA.out xloMC.out hsm hZ.out).mono ?_
  rw [hmMe.out]
  rintro e w1 ⟨rfl, -, -, hc⟩
  clear q0 q1 q2 q3
  have hmb := hmM.out.1
  have hmc9 := hmM.out.2
  clear xXMA xXMC
  replace hB := Lib.hid (hB.out.trans ((hc.below hZ.out).mono hWz.out))
  replace hK0 := Lib.hid (show Blk _ _ _ _ from (hc.block _ hK0.out.lt (.inl hKz0.out)).trans hK0.out)
  replace wW0 := Lib.hid (IntK.Row.chg hc wW0.out (fun x e => .inl (hhi0.out x e)))
  replace hZ := Lib.hid (Nat.le_trans hZ.out hc.size)
  replace hXm := Lib.hid (show Blk _ _ _ _ from (hc.block zb hXm.out.lt (.inr (Nat.le_refl _))).trans hXm.out)
  replace hZb := Lib.hid (Nat.le_trans hZb.out hc.size)
  replace xX1 := Lib.hid (CtK.Own.chg hc xX1.out (fun x e => .inr (by have h1 := xlb1.out x e; omega)))
  replace xX2 := Lib.hid (IntK.Own.chg hc xX2.out (fun x e => .inr (by have h1 := xlb2.out x e; omega)))
  replace hY := Lib.hid (Nat.le_trans hY.out hc.size)
  replace gX0 := Lib.hid (IntK.Own.chg hc gX0.out (fun x e => .inr (by have h1 := glo0.out x e; have h2 := hzb1.out; omega)))
  clear hc
  clear hXm
  obtain ⟨mx1, hmx1⟩ : ∃ m : Nat, mM + 2 * rs1.length = m := ⟨_, rfl⟩
  have hmc := Lib.hid (fun (w : World) (base : Nat) h => hmx1 ▸ CtK.markS_any base xa1 xc1 rs1 mM w h (by omega) (by omega))
  have hneg : decide ((mx1 : Int) < 0) = false := pos_cast _
  have hm1_1 : 1 ≤ mM := by omega
  have hmlo1 : 1 ≤ mx1 ∧ mx1 ≤ 3145729 := by omega
  replace hmx1 := Lib.hid hmx1
  go_wp2_with fail
  refine (hmc.out _ _ xX1.out).mono ?_
  rintro e w1 ⟨rfl, -, hg⟩
  clear xX1 hmc
  have hgs := hg.size
  replace hB := Lib.hid (below_grown hB.out hg hB.out.size (fun x e => by have h1 := xlo1.out x e; have h2 := hWz.out; omega))
  replace hK0 := Lib.hid (blk_grown hK0.out hg (fun x e => by have h1 := xlo1.out x e; have h2 := hKz0.out; omega))
  replace wW0 := Lib.hid (IntK.Row.beside wW0.out hg (ne_block (fun x y hx hy => by have h1 := hhi0.out x hx; have h2 := xlo1.out y hy; omega)))
  replace hZ := Lib.hid (Nat.le_trans hZ.out hgs)
  replace hZb := Lib.hid (Nat.le_trans hZb.out hgs)
  replace xX2 := Lib.hid (show IntK.Own _ _ _ _ from World.ownsRow.kept xX2.out hg (ne_own (fun x y hx hy => by exact (fun e => xne2_1.out x y hx hy e))))
  replace hY := Lib.hid (Nat.le_trans hY.out hgs)
  replace gX0 := Lib.hid (show IntK.Own _ _ _ _ from World.ownsRow.kept gX0.out hg (ne_own (fun x y hx hy => by have h1 := glo0.out x hx; have h2 := xhi1.out y hy; omega)))
  clear hg hgs
  obtain ⟨mx2, hmx2⟩ : ∃ m : Nat, mx1 + 1 * rs2.length = m := ⟨_, rfl⟩
  have hmc := Lib.hid (fun (w : World) (base : Nat) h => hmx2 ▸ IntK.markS_any base xa2 xc2 rs2 mx1 w h (by omega) (by omega))
  have hneg : decide ((mx2 : Int) < 0) = false := pos_cast _
  have hm1_2 : 1 ≤ mx1 := by omega
  have hmlo2 : 1 ≤ mx2 ∧ mx2 ≤ 4194305 := by omega
  replace hmx2 := Lib.hid hmx2
  go_wp2_with fail
  refine (hmc.out _ _ xX2.out).mono ?_
  rintro e w1 ⟨rfl, -, hg⟩
  clear xX2 hmc
  have hgs := hg.size
  replace hB := Lib.hid (below_grown hB.out hg hB.out.size (fun x e => by have h1 := xlo2.out x e; have h2 := hWz.out; omega))
  replace hK0 := Lib.hid (blk_grown hK0.out hg (fun x e => by have h1 := xlo2.out x e; have h2 := hKz0.out; omega))
  replace wW0 := Lib.hid (IntK.Row.beside wW0.out hg (ne_block (fun x y hx hy => by have h1 := hhi0.out x hx; have h2 := xlo2.out y hy; omega)))
  replace hZ := Lib.hid (Nat.le_trans hZ.out hgs)
  replace hZb := Lib.hid (Nat.le_trans hZb.out hgs)
  replace hY := Lib.hid (Nat.le_trans hY.out hgs)
  replace gX0 := Lib.hid (show IntK.Own _ _ _ _ from World.ownsRow.kept gX0.out hg (ne_own (fun x y hx hy => by have h1 := glo0.out x hx; have h2 := xhi2.out y hy; omega)))
  clear hg hgs
  go_wp2_with fail
  refine (IntK.eqS_same _ _ _ _ u0 _ (IntK.Own.row gX0.out) wW0.out hum0).mono ?_
  rintro e w1 ⟨rfl, hb⟩
  replace hB := Lib.hid (hB.out.trans (hb.mono hB.out.size))
  replace hK0 := Lib.hid (hK0.out.later hb)
  replace wW0 := Lib.hid (IntK.Row.later wW0.out hb)
  replace hZ := Lib.hid (Nat.le_trans hZ.out hb.size)
  replace hZb := Lib.hid (Nat.le_trans hZb.out hb.size)
  replace hY := Lib.hid (Nat.le_trans hY.out hb.size)
  replace gX0 := Lib.hid (IntK.Own.below gX0.out hb)
  clear hb
  obtain ⟨mg0, hmg0⟩ : ∃ m : Nat, 1 + 1 * u0.length = m := ⟨_, rfl⟩
  have hmc := Lib.hid (fun (w : World) (base : Nat) h => hmg0 ▸ IntK.markS_any base ga0 gc0 u0 1 w h (by omega) (by omega))
  have hneg : decide ((mg0 : Int) < 0) = false := pos_cast _
  have hhc0 := Lib.hid (fun w h => hmg0 ▸ IntK.heldS_any ga0 gc0 u0.length 1 w h (by omega) (by omega))
  replace hmg0 := Lib.hid hmg0
  go_wp2_with fail
  refine (hmc.out _ _ gX0.out).mono ?_
  rintro e w1 ⟨rfl, hmo, hg⟩
  clear gX0 hmc
  have glz0 := Lib.hid (show ∀ x, ga0 = some x → z0 ≤ x.block from fun x e => Nat.le_trans hz01 (glo0.out x e))
  have hgs := hg.size
  replace hB := Lib.hid (below_grown hB.out hg hB.out.size (fun x e => by have h1 := glz0.out x e; have h2 := hWz.out; omega))
  replace hK0 := Lib.hid (blk_grown hK0.out hg (fun x e => by have h1 := glz0.out x e; have h2 := hKz0.out; omega))
  replace wW0 := Lib.hid (IntK.Row.beside wW0.out hg (ne_block (fun x y hx hy => by have h1 := hhi0.out x hx; have h2 := glz0.out y hy; omega)))
  replace hZ := Lib.hid (Nat.le_trans hZ.out hgs)
  replace hZb := Lib.hid (Nat.le_trans hZb.out hgs)
  replace hY := Lib.hid (Nat.le_trans hY.out hgs)
  clear hg hgs
  have gM0 := Lib.hid (show IntK.Row _ ga0 (IntK.mkL 1 u0.length) from by
    have h := hmo
    obtain ⟨a', c', e, hr, -⟩ := IntK.Own.slice h
    rw [(Value.slice.inj e).1]
    exact hr)
  clear hmo
  go_wp2_with fail
  refine (hhc0.out _ gM0.out).mono ?_
  rintro e w1 ⟨rfl, hb⟩
  replace hB := Lib.hid (hB.out.trans (hb.mono hB.out.size))
  replace hK0 := Lib.hid (hK0.out.later hb)
  replace wW0 := Lib.hid (IntK.Row.later wW0.out hb)
  replace hZ := Lib.hid (Nat.le_trans hZ.out hb.size)
  replace hZb := Lib.hid (Nat.le_trans hZb.out hb.size)
  replace hY := Lib.hid (Nat.le_trans hY.out hb.size)
  replace gM0 := Lib.hid (IntK.Row.later gM0.out hb)
  clear hb
  obtain ⟨p0, p1, p2, p3, -⟩ := MapS.Blk.four hK0.out
  go_wp2_with fail
  refine (MapS.to_any m a b ca cb _ (RowAt.below hMR.out hB.out) (RowAt.below hMC.out hB.out) hsm).mono ?_
  rintro e w1 ⟨⟨v, rfl, ho⟩, hb⟩
  replace hB := Lib.hid (hB.out.trans (hb.mono hB.out.size))
  replace hK0 := Lib.hid (hK0.out.later hb)
  replace wW0 := Lib.hid (IntK.Row.later wW0.out hb)
  replace hZ := Lib.hid (Nat.le_trans hZ.out hb.size)
  replace hZb := Lib.hid (Nat.le_trans hZb.out hb.size)
  replace hY := Lib.hid (Nat.le_trans hY.out hb.size)
  replace gM0 := Lib.hid (IntK.Row.later gM0.out hb)
  obtain ⟨hma, hmca, hmb, hmcb, rfl, hoa, hob, hon⟩ := ho
  have hXMA := Lib.hid (show IntK.Own _ _ _ _ from hoa)
  have hXMC := Lib.hid (show IntK.Own _ _ _ _ from hob)
  clear hoa hob hon hb
  clear p0 p1 p2 p3
  go_wp2_with fail
  refine (CtK.toS_any a1 cap1 rs1 _ (CtK.Row.later hR1.out hB.out) hn1).mono ?_
  rintro e w1 ⟨v, rfl, ho, hb⟩
  replace hB := Lib.hid (hB.out.trans (hb.mono hB.out.size))
  replace hK0 := Lib.hid (hK0.out.later hb)
  replace wW0 := Lib.hid (IntK.Row.later wW0.out hb)
  replace hZ := Lib.hid (Nat.le_trans hZ.out hb.size)
  replace hZb := Lib.hid (Nat.le_trans hZb.out hb.size)
  replace hY := Lib.hid (Nat.le_trans hY.out hb.size)
  replace gM0 := Lib.hid (IntK.Row.later gM0.out hb)
  replace hXMA := Lib.hid (IntK.Own.below hXMA.out hb)
  replace hXMC := Lib.hid (IntK.Own.below hXMC.out hb)
  obtain ⟨ha1, hc1, rfl, -, hl1⟩ := CtK.Own.slice ho
  have hX1 := Lib.hid ho
  clear ho hb
  go_wp2_with fail
  refine (IntK.toS_any a2 cap2 rs2 _ (IntK.Row.later hR2.out hB.out) hn2).mono ?_
  rintro e w1 ⟨v, rfl, ho, hb⟩
  replace hB := Lib.hid (hB.out.trans (hb.mono hB.out.size))
  replace hK0 := Lib.hid (hK0.out.later hb)
  replace wW0 := Lib.hid (IntK.Row.later wW0.out hb)
  replace hZ := Lib.hid (Nat.le_trans hZ.out hb.size)
  replace hZb := Lib.hid (Nat.le_trans hZb.out hb.size)
  replace hY := Lib.hid (Nat.le_trans hY.out hb.size)
  replace gM0 := Lib.hid (IntK.Row.later gM0.out hb)
  replace hXMA := Lib.hid (IntK.Own.below hXMA.out hb)
  replace hXMC := Lib.hid (IntK.Own.below hXMC.out hb)
  replace hX1 := Lib.hid (CtK.Own.below hX1.out hb)
  obtain ⟨ha2, hc2, rfl, -, hl2⟩ := IntK.Own.slice ho
  have hX2 := Lib.hid ho
  clear ho hb
  go_wp2_with fail
  refine (HI.out _ _ _ _ _ _ _ _ _ (IntK.Own.row hXMA.out) (IntK.Own.row hXMC.out) (CtK.Own.le hX1.out) (CtK.Own.row hX1.out) (IntK.Own.le hX2.out) (IntK.Own.row hX2.out)).mono ?_
  rintro e w1 ⟨v0, rfl, ho0, hb⟩
  replace hB := Lib.hid (hB.out.trans (hb.mono hB.out.size))
  replace hK0 := Lib.hid (hK0.out.later hb)
  replace wW0 := Lib.hid (IntK.Row.later wW0.out hb)
  replace hZ := Lib.hid (Nat.le_trans hZ.out hb.size)
  replace hZb := Lib.hid (Nat.le_trans hZb.out hb.size)
  replace hY := Lib.hid (Nat.le_trans hY.out hb.size)
  replace gM0 := Lib.hid (IntK.Row.later gM0.out hb)
  replace hXMA := Lib.hid (IntK.Own.below hXMA.out hb)
  replace hXMC := Lib.hid (IntK.Own.below hXMC.out hb)
  replace hX1 := Lib.hid (CtK.Own.below hX1.out hb)
  replace hX2 := Lib.hid (IntK.Own.below hX2.out hb)
  obtain ⟨ha0, hc0, rfl, hr0, hl0⟩ := IntK.Own.slice ho0
  have hX0 := Lib.hid ho0
  clear ho0 hr0
  clear hb
  go_wp2_with fail
  refine (IntK.eqS_same _ _ _ _ u0 _ (IntK.Own.row hX0.out) wW0.out hum0).mono ?_
  rintro e w1 ⟨rfl, hb⟩
  replace hB := Lib.hid (hB.out.trans (hb.mono hB.out.size))
  replace hK0 := Lib.hid (hK0.out.later hb)
  replace wW0 := Lib.hid (IntK.Row.later wW0.out hb)
  replace hZ := Lib.hid (Nat.le_trans hZ.out hb.size)
  replace hZb := Lib.hid (Nat.le_trans hZb.out hb.size)
  replace hY := Lib.hid (Nat.le_trans hY.out hb.size)
  replace gM0 := Lib.hid (IntK.Row.later gM0.out hb)
  replace hXMA := Lib.hid (IntK.Own.below hXMA.out hb)
  replace hXMC := Lib.hid (IntK.Own.below hXMC.out hb)
  replace hX0 := Lib.hid (IntK.Own.below hX0.out hb)
  clear hb
  go_wp2_with fail
  refine (hhc0.out _ gM0.out).mono ?_
  rintro e w1 ⟨rfl, hb⟩
  replace hB := Lib.hid (hB.out.trans (hb.mono hB.out.size))
  replace hK0 := Lib.hid (hK0.out.later hb)
  replace wW0 := Lib.hid (IntK.Row.later wW0.out hb)
  replace hZ := Lib.hid (Nat.le_trans hZ.out hb.size)
  replace hZb := Lib.hid (Nat.le_trans hZb.out hb.size)
  replace hY := Lib.hid (Nat.le_trans hY.out hb.size)
  replace gM0 := Lib.hid (IntK.Row.later gM0.out hb)
  replace hXMA := Lib.hid (IntK.Own.below hXMA.out hb)
  replace hXMC := Lib.hid (IntK.Own.below hXMC.out hb)
  replace hX0 := Lib.hid (IntK.Own.below hX0.out hb)
  clear hb
  go_wp2
  go_ret
  exact ⟨rfl, hB.out⟩

end Go.Proofs.Ytdfmfmndmldggaa.BlgL
