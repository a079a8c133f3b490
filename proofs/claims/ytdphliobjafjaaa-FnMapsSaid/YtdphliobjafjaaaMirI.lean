/- Mirroring a map: the program's text. -/
import Derived.Test.YtdphliobjafjaaaMirB
namespace Go.Proofs.Ytdphliobjafjaaa.MirI
open Go.RowKit Lb IntS MapS MapV SpecB Emp TurnI MirB
set_option linter.unusedSimpArgs false
set_option linter.unusedVariables false

theorem rev_any (g o k cap : Nat) (zs : List Int) (w : World) (h : RowB w g zs) (hk : o + k ≤ zs.length) (h36 : zs.length ≤ 36) :
    Calls Try.prog 58 #[.slice (some ⟨g, o, none⟩) k cap] w fun e w' => e = .returned (.tuple #[]) ∧ RowB w' g (revSeg zs o k) ∧ w.grownBy w' (some g) := by
  have hl : ((zs.drop o).take k).length = k := by simp; omega
  have hc := h.cell
  have hz : ((zs.drop o).take k).length ≤ 9223372036854775807 := by omega
  have hr := Try.slices_Reverse_int g o cap ((zs.drop o).take k) w (seg_holds h o k hk) hz
  rw [hl] at hr
  refine hr.mono ?_
  rintro e w' ⟨he, n, rfl⟩
  obtain ⟨r1, r2⟩ := rev_row h o k n hk
  exact ⟨he, r1, r2⟩

set_option maxRecDepth 100000 in
set_option maxHeartbeats 4000000 in
theorem mir_raw (ww hh : Nat) (R C : List Int) (a b : Option Addr) (ca cb : Nat) (w : World) (g : GoodM ⟨ww, hh, R, C⟩ ww hh) (hr : IRow w a R) (hc : IRow w b C) :
    Calls Try.prog 20 #[.agg #[.int .i64 ww, .int .i64 hh, .slice a R.length ca, .slice b C.length cb]] w (MPost w ⟨ww, hh, gath (fromM ww) (ww * hh) R, gath (fromM ww) (ww * hh) C⟩ true) := by
  have v1 := g.w1
  have v6 := g.w6
  have h1 := g.h1
  have h6 := g.h6
  have n36 := g.n36
  have hR : R.length ≤ maxLen := by have := g.R; unfold maxLen; simp only at this; omega
  have hC : C.length ≤ maxLen := by have := g.C; unfold maxLen; simp only at this; omega
  have hRl := Lib.hid (show R.length = ww * hh from g.R)
  have hCl := Lib.hid (show C.length = ww * hh from g.C)
  have HB := Lib.hid (((Below.refl w.heap.size w).alloc (Nat.le_refl _) (.cells #[.int .i64 ww, .int .i64 hh, .slice a R.length ca, .slice b C.length cb] 26)).alloc (by simp) (.cells #[.int .i64 0, .int .i64 0, .slice none 0 0, .slice none 0 0] 26))
  have hk := okB_yes (m := ⟨ww, hh, R, C⟩) (by
    refine ⟨⟨by show (1 : Int) ≤ ww; omega, by show (ww : Int) ≤ 6; omega, by show (1 : Int) ≤ hh; omega, by show (hh : Int) ≤ 6; omega, ?_, by show C.length = R.length; rw [hRl.out, hCl.out]⟩, fun i hi => g.cell i (by rw [← hRl.out]; exact hi)⟩
    show (R.length : Int) = (ww : Int) * (hh : Int)
    rw [hRl.out, Int.natCast_mul])
  have HK0 := Lib.hid ((Blk.new w 26 #[.int .i64 ww, .int .i64 hh, .slice a R.length ca, .slice b C.length cb]).alloc (.cells #[.int .i64 0, .int .i64 0, .slice none 0 0, .slice none 0 0] 26))
  have HQ0 := Lib.hid (Blk.new (w.alloc (.cells #[.int .i64 ww, .int .i64 hh, .slice a R.length ca, .slice b C.length cb] 26)) 26 #[.int .i64 0, .int .i64 0, .slice none 0 0, .slice none 0 0])
  clear g
  go_enter Try.func20, Try.ntmps20
  go_wp2_with fail
  refine (MapV.impl_any ⟨ww, hh, R, C⟩ a b ca cb _ hR hC (RowAt.below hr HB.out) (RowAt.below hc HB.out)).mono ?_
  rw [hk]
  rintro e w1 ⟨rfl, hb1⟩
  have HK1 := Lib.hid (HK0.out.later hb1)
  have HQ1 := Lib.hid (HQ0.out.later hb1)
  have hs1 := hb1.size
  simp only [World.size_alloc] at hs1
  have HB1 := Lib.hid (HB.out.trans (hb1.mono (by simp; omega)))
  clear hb1 hk HK0 HQ0 HB
  obtain ⟨p0, p1, p2, p3, -⟩ := HK1.out.four
  go_wp2_with fail
  refine (emp_any ww hh (ww * hh) _ rfl n36 v6 h6).mono ?_
  rintro e w2 ⟨g1, g2, rfl, hr1, hr2, hg1, hg2, hne, hb2⟩
  have hl1 := Blk.lt hr1
  have hl2 := Blk.lt hr2
  have hw12 := hb2.size
  have HW0 := Lib.hid (show Wrt w g1 g2 w2.heap.size ww hh (ww * hh) (List.replicate (ww * hh) 0) (List.replicate (ww * hh) 0) #[.int .i64 ww, .int .i64 hh, .slice a R.length ca, .slice b C.length cb] (w2.alloc (.cells #[.int .i64 ww, .int .i64 hh, .slice (some ⟨g1, 0, none⟩) (ww * hh) (ww * hh), .slice (some ⟨g2, 0, none⟩) (ww * hh) (ww * hh)] 26)) from by
    refine ⟨hr1.alloc _, hr2.alloc _, Blk.new _ _ _, (HK1.out.later hb2).alloc _, ?_, (HB1.out.trans (hb2.mono HB1.out.size)).alloc (by omega) _, by omega, by omega, by omega, hne, by omega, by omega⟩
    have := HQ1.out
    rw [World.size_alloc] at this
    exact (this.later hb2).alloc _)
  have HKx := Lib.hid (HK1.out.later hb2)
  clear hr1 hr2 hg1 hg2 hne hb2 hl1 hl2 p0 p1 p2 p3
  obtain ⟨p0, p1, p2, p3, -⟩ := HKx.out.four
  have hzz : w.heap.size < w2.heap.size := HKx.out.lt
  have n1 : 1 ≤ ww * hh := Nat.mul_pos v1 h1
  rcases RowAt.below hr HW0.out.b with h0 | ⟨b1, off1, rfl, hc1⟩
  · have := hRl.out; omega
  rcases RowAt.below hc HW0.out.b with h0 | ⟨b2, off2, rfl, hc2⟩
  · have := hCl.out; omega
  have HS1 := Lib.hid (src_cells hc1)
  have HS2 := Lib.hid (src_cells hc2)
  have HU := Lib.hid (And.intro hc1 hc2)
  have hkap : (Try.prog.info? 3).map (·.size) = some 1 := by kernel_rfl
  have HR1 := Lib.hid HW0.out.r
  have HN1 := Lib.hid (show (R.map (Value.int .i64)).length = Nat.min R.length (ww * hh) from by rw [List.length_map, hRl.out]; exact (Nat.min_self _).symm)
  have HF1 := Lib.hid (show 0 + (R.map (Value.int .i64)).length ≤ ((List.replicate (ww * hh) (0 : Int)).map (Value.int .i64)).toArray.size from by simp [hRl.out])
  have HO1 := Lib.hid (ints_oneCell .i64 R)
  clear hc1 hc2
  have hL1 := Lib.hid (show R.length = (List.replicate (ww * hh) (0 : Int)).length from by rw [List.length_replicate]; exact hRl.out)
  have hL2 := Lib.hid (show C.length = (List.replicate (ww * hh) (0 : Int)).length from by rw [List.length_replicate]; exact hCl.out)
  go_upto_region 5 with (refine wpList_copy_own (o := ⟨some 21, _, _, _, _, _⟩) rfl (.tmp 18) (.tmp 20) 24 24 rfl 3 Try.underlying24 hkap g1 0 (ww * hh) (ww * hh) ⟨b1, off1, none⟩ R.length ca (by rfl) (by rfl) _ 3 HR1.out _ HN1.out HS1.out HF1.out HO1.out ?_; have hcp := copied HR1.out hL1.out; generalize World.setRow _ g1 _ = w5 at hcp ⊢; have HW5 := Lib.hid (MirB.Wrt.grownR HW0.out hcp.1 hcp.2); clear hcp p0 p1 p2 p3; obtain ⟨p0, p1, p2, p3, -⟩ := HW5.out.box.four; obtain ⟨q0, q1, q2, q3, -⟩ := HW5.out.out.four)
  have hz5 := HW5.out.box.lt
  have HR2 := Lib.hid HW5.out.c
  have HN2 := Lib.hid (show (C.map (Value.int .i64)).length = Nat.min C.length (ww * hh) from by rw [List.length_map, hCl.out]; exact (Nat.min_self _).symm)
  have HF2 := Lib.hid (show 0 + (C.map (Value.int .i64)).length ≤ ((List.replicate (ww * hh) (0 : Int)).map (Value.int .i64)).toArray.size from by simp [hCl.out])
  have HO2 := Lib.hid (ints_oneCell .i64 C)
  have HT2 : Hid (∀ j v, (C.map (Value.int .i64))[j]? = some v → w5.cell? ((⟨b2, off2, none⟩ : Addr).add j) = some v) := by
    rcases RowAt.below hc HW5.out.b with h0 | ⟨b3, off3, e3, hc3⟩
    · have := hCl.out; omega
    · cases e3
      exact src_cells hc3
  go_wp2_with (refine wpList_copy_own (o := ⟨some 26, _, _, _, _, _⟩) rfl (.tmp 23) (.tmp 25) 24 24 rfl 3 Try.underlying24 hkap g2 0 (ww * hh) (ww * hh) ⟨b2, off2, none⟩ C.length cb (by rfl) (by rfl) _ 3 HR2.out _ HN2.out HT2.out HF2.out HO2.out ?_; have hcp := copied HR2.out hL2.out; generalize World.setRow _ g2 _ = w6 at hcp ⊢; have HW6 := Lib.hid (MirB.Wrt.grownC HW5.out hcp.1 hcp.2); clear hcp p0 p1 p2 p3 q0 q1 q2 q3; obtain ⟨p0, p1, p2, p3, -⟩ := HW6.out.box.four; obtain ⟨q0, q1, q2, q3, -⟩ := HW6.out.out.four)
  have hz6 := HW6.out.box.lt
  clear HW0 HW5 HR1 HR2 HS1 HS2 HT2 HU
  go_loopg [29] hh (fun k si wr => ∃ r : Nat, r ≤ hh ∧ k = hh - r ∧ si = .int .i64 r ∧ Wrt w g1 g2 w2.heap.size ww hh (ww * hh) (rows ww (ww * hh) R r) (rows ww (ww * hh) C r) #[.int .i64 ww, .int .i64 hh, .slice (some ⟨b1, off1, none⟩) R.length ca, .slice (some ⟨b2, off2, none⟩) C.length cb] wr)
  case atStart => exact ⟨0, Nat.zero_le _, rfl, rfl, by rw [rows_zero _ _ _ hRl.out, rows_zero _ _ _ hCl.out]; exact HW6.out⟩
  case round =>
    obtain ⟨r, hrh, hkr, rfl, hW⟩ := hrel
    have HW := Lib.hid hW
    clear hW HW6 p0 p1 p2 p3 q0 q1 q2 q3
    obtain ⟨p0, p1, p2, p3, -⟩ := HW.out.box.four
    by_cases hlt : r < hh
    · have hrw : r * ww + ww ≤ ww * hh := by
        have := Nat.mul_le_mul_right ww (show r + 1 ≤ hh from hlt)
        rw [Nat.add_mul, Nat.one_mul] at this
        rwa [Nat.mul_comm ww hh]
      go_upto_region 9 with (fail)
      go_cut [6, 7] from 32 to 52 (fun sf st wx => sf = .int .i64 (r * ww : Nat) ∧ st = .int .i64 (r * ww + ww : Nat) ∧ Wrt w g1 g2 w2.heap.size ww hh (ww * hh) (rows ww (ww * hh) R r) (rows ww (ww * hh) C r) #[.int .i64 ww, .int .i64 hh, .slice (some ⟨b1, off1, none⟩) R.length ca, .slice (some ⟨b2, off2, none⟩) C.length cb] wx)
      case first =>
        have E0 : ((r : Int) * (ww : Int)) = ((r * ww : Nat) : Int) := by rw [Int.natCast_mul]
        have E1 : IntKind.i64.wrap ((r * ww : Nat) : Int) = ((r * ww : Nat) : Int) := IntWalk.i64_in _ (by omega)
        have E5 : IntKind.i64.wrap ((r : Int) + 1) = (r : Int) + 1 := IntWalk.i64_in _ (by omega)
        have E6 : ((r : Int) + 1) * (ww : Int) = ((r * ww + ww : Nat) : Int) := by rw [Int.add_mul, Int.one_mul, E0]; omega
        have E7 : IntKind.i64.wrap ((r * ww + ww : Nat) : Int) = ((r * ww + ww : Nat) : Int) := IntWalk.i64_in _ (by omega)
        have H0 := Lib.hid E0
        have H1 := Lib.hid E1
        have H5 := Lib.hid E5
        have H6 := Lib.hid E6
        have H7 := Lib.hid E7
        clear E0 E1 E5 E6 E7
        go_quiet (fail)
        go_wp2_with fail
        go_meet
        exact ⟨by rw [H0.out], by rw [H6.out]; congr 1; unfold wrap64; omega, HW.out.drewN _⟩
      case rest =>
      obtain ⟨rfl, rfl, hW9⟩ := hcut
      have HW9 := Lib.hid hW9
      clear hW9 p0 p1 p2 p3 HW
      obtain ⟨p0, p1, p2, p3, -⟩ := HW9.out.box.four
      obtain ⟨q0, q1, q2, q3, -⟩ := HW9.out.out.four
      have hcap : ¬ ww * hh = r * ww := by
        have := Nat.mul_pos v1 (show 0 < 1 by omega)
        omega
      go_wp2_with fail
      refine (rev_any g1 (r * ww) ww _ _ _ HW9.out.r (by rw [rows_length]; exact hrw) (by rw [rows_length]; exact n36)).mono ?_
      rintro e w10 ⟨rfl, hr10, hg10⟩
      rw [rows_step ww hh r v1 hlt] at hr10
      have HW10 := Lib.hid (MirB.Wrt.grownR HW9.out hr10 hg10)
      clear hr10 hg10 p0 p1 p2 p3 q0 q1 q2 q3
      obtain ⟨p0, p1, p2, p3, -⟩ := HW10.out.box.four
      obtain ⟨q0, q1, q2, q3, -⟩ := HW10.out.out.four
      go_wp2_with fail
      refine (rev_any g2 (r * ww) ww _ _ _ HW10.out.c (by rw [rows_length]; exact hrw) (by rw [rows_length]; exact n36)).mono ?_
      rintro e w11 ⟨rfl, hr11, hg11⟩
      rw [rows_step ww hh r v1 hlt] at hr11
      have HW11 := Lib.hid (MirB.Wrt.grownC HW10.out hr11 hg11)
      clear hr11 hg11 p0 p1 p2 p3 q0 q1 q2 q3 HW10 HW9
      go_wp2_with fail
      go_roundg (hh - (r + 1))
      case measure => omega
      case rel => exact ⟨r + 1, by omega, rfl, by go_num, HW11.out⟩
    · obtain rfl : r = hh := by omega
      have HWn := HW.out
      rw [rows_all _ _ v1, rows_all _ _ v1] at HWn
      have HZ := Lib.hid HWn
      clear HWn HW p0 p1 p2 p3
      obtain ⟨q0, q1, q2, q3, f0, f1, f2, f3⟩ := HZ.out.out.four
      obtain ⟨r0, r1, r2, r3, l0, l1, l2, l3⟩ := HZ.out.res.four
      have hgl : (gath (fromM ww) (ww * r) R).length = ww * r := gath_length _ _ _
      have hgl2 : (gath (fromM ww) (ww * r) C).length = ww * r := gath_length _ _ _
      have HL := Lib.hid (And.intro hgl hgl2)
      clear hgl hgl2
      go_wp2
      refine bodyPost_ret (v := .tuple #[.agg #[.int .i64 ww, .int .i64 r, .slice (some ⟨g1, 0, none⟩) (ww * r) (ww * r), .slice (some ⟨g2, 0, none⟩) (ww * r) (ww * r)], .bool true]) (by simp [results, Try.results20, go_sem, q0, q1, q2, q3, r0, r1, r2, r3]) rfl ⟨_, rfl, ⟨some ⟨g1, 0, none⟩, ww * r, some ⟨g2, 0, none⟩, ww * r, ?_, ?_, ?_, ?_⟩, ?_⟩
      · rw [HL.out.1, HL.out.2]
      · have h1 := HZ.out.h1
        have h := HZ.out.r.own (base := w.heap.size + 1 + 1) (by omega) (by rw [HL.out.1]; unfold maxLen; omega)
        unfold OwnI at h
        rw [HL.out.1] at h
        refine rebase (b := w.heap.size + 1 + 1) ?_ (by omega)
        repeat (refine ownsRow_setCell_below ?_ (by simp) _)
        rw [HL.out.1]
        exact h
      · have h1 := HZ.out.h2
        have h := HZ.out.c.own (base := w.heap.size + 1 + 1) (by omega) (by rw [HL.out.2]; unfold maxLen; omega)
        unfold OwnI at h
        rw [HL.out.2] at h
        refine rebase (b := w.heap.size + 1 + 1) ?_ (by omega)
        repeat (refine ownsRow_setCell_below ?_ (by simp) _)
        rw [HL.out.2]
        exact h
      · intro x y hx hy
        cases hx
        cases hy
        exact HZ.out.n1
      · repeat (refine Below.setCell ?_ (by simp) _)
        exact HZ.out.b

end Go.Proofs.Ytdphliobjafjaaa.MirI
