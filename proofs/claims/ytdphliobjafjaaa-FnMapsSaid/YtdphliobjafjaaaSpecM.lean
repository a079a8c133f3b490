/- Mirroring a map: the model's text. -/
import Derived.Test.YtdphliobjafjaaaSpecB
namespace Go.Proofs.Ytdphliobjafjaaa.SpecM
open Go.RowKit Lb IntS MapS MapV SpecB
set_option linter.unusedSimpArgs false
set_option linter.unusedVariables false

set_option maxRecDepth 100000 in
set_option maxHeartbeats 4000000 in
theorem mir_raw (ww hh : Nat) (R C : List Int) (a b : Option Addr) (ca cb : Nat) (w : World) (g : GoodM ⟨ww, hh, R, C⟩ ww hh) (hr : IRow w a R) (hc : IRow w b C) :
    Calls Try.prog 21 #[.agg #[.int .i64 ww, .int .i64 hh, .slice a R.length ca, .slice b C.length cb]] w (MPost w ⟨ww, hh, gath (fromM ww) (ww * hh) R, gath (fromM ww) (ww * hh) C⟩ true) := by
  obtain ⟨t0, hi, hz0, hz1, hz2⟩ := info_parts iInfo
  have v1 := g.w1
  have w6 := g.w6
  have h1 := g.h1
  have h6 := g.h6
  have n36 := g.n36
  have hR : R.length ≤ maxLen := by have := g.R; unfold maxLen; simp only at this; omega
  have hC : C.length ≤ maxLen := by have := g.C; unfold maxLen; simp only at this; omega
  have hRl := Lib.hid (show R.length = ww * hh from g.R)
  have hCl := Lib.hid (show C.length = ww * hh from g.C)
  have HB := Lib.hid (((Below.refl w.heap.size w).alloc (Nat.le_refl _) (.cells #[.int .i64 ww, .int .i64 hh, .slice a R.length ca, .slice b C.length cb] 26)).alloc (by simp) (.cells #[.int .i64 0, .int .i64 0, .slice none 0 0, .slice none 0 0] 26))
  have hk := okB_yes (m := ⟨ww, hh, R, C⟩) (by
    refine ⟨⟨by show (1 : Int) ≤ ww; omega, by show (ww : Int) ≤ 6; omega, by show (1 : Int) ≤ hh; omega, by show (hh : Int) ≤ 6; omega, ?_, by show C.length = R.length; rw [hRl.out, hCl.out]⟩, fun i hi => g.cell i (by rw [← hRl.out]; exact hi)⟩
    show (R.length : Int) = (ww : Int) * (hh : Int)
    rw [hRl.out, Int.natCast_mul])
  have HK0 := Lib.hid ((Blk.new w 26 #[.int .i64 ww, .int .i64 hh, .slice a R.length ca, .slice b C.length cb]).alloc (.cells #[.int .i64 0, .int .i64 0, .slice none 0 0, .slice none 0 0] 26))
  have HQ0 := Lib.hid (Blk.new (w.alloc (.cells #[.int .i64 ww, .int .i64 hh, .slice a R.length ca, .slice b C.length cb] 26)) 26 #[.int .i64 0, .int .i64 0, .slice none 0 0, .slice none 0 0])
  clear g
  go_enter Try.func21, Try.ntmps21
  go_wp2_with fail
  refine (MapV.spec_any ⟨ww, hh, R, C⟩ a b ca cb _ hR hC (RowAt.below hr HB.out) (RowAt.below hc HB.out)).mono ?_
  rw [hk]
  rintro e w1 ⟨rfl, hb1⟩
  have HK1 := Lib.hid (HK0.out.later hb1)
  have HQ1 := Lib.hid (HQ0.out.later hb1)
  have hs1 := hb1.size
  simp only [World.size_alloc] at hs1
  have HB1 := Lib.hid (HB.out.trans (hb1.mono (by simp; omega)))
  clear hb1 hk HK0 HQ0 HB
  obtain ⟨p0, p1, p2, p3, -⟩ := HK1.out.four
  have hs : w.heap.size + 1 < w1.heap.size := by omega
  have e0 : w1.heap.size = w1.heap.size := rfl
  have HT0 := Lib.hid (show Two w w1.heap.size ww hh (gath (fromM ww) (ww * hh) R) (gath (fromM ww) (ww * hh) C) #[.int .i64 ww, .int .i64 hh, .slice a R.length ca, .slice b C.length cb] 0 0 (.slice (some ⟨w1.heap.size, 0, none⟩) 0 0) (.slice (some ⟨w1.heap.size + 1, 0, none⟩) 0 0)
      (((w1.alloc (.cells #[] 3)).alloc (.cells #[] 3)).alloc (.cells #[.int .i64 ww, .int .i64 hh, .slice (some ⟨w1.heap.size, 0, none⟩) 0 0, .slice (some ⟨w1.heap.size + 1, 0, none⟩) 0 0] 26)) from by
    refine ⟨?_, ?_, ?_, ?_, ((HK1.out.alloc _).alloc _).alloc _, (by have := HQ1.out; rw [World.size_alloc] at this; exact ((this.alloc _).alloc _).alloc _), ((HB1.out.alloc (by omega) _).alloc (by simp; omega) _).alloc (by simp; omega) _⟩
    · exact (((World.ownsRow_made (e := 3) (size := 1) (base := w1.heap.size) w1 #[] 0 (Nat.le_refl _) (Nat.zero_le _) rfl).alloc _).alloc _)
    · have := World.ownsRow_made (e := 3) (size := 1) (base := w1.heap.size) (w1.alloc (.cells #[] 3)) #[] 0 (by simp) (Nat.zero_le _) rfl
      rw [World.size_alloc] at this
      exact this.alloc _
    · intro x y hx hy
      simp [Value.ownBlock] at hx hy
      omega
    · have := Blk.new ((w1.alloc (.cells #[] 3)).alloc (.cells #[] 3)) 26 #[.int .i64 ww, .int .i64 hh, .slice (some ⟨w1.heap.size, 0, none⟩) 0 0, .slice (some ⟨w1.heap.size + 1, 0, none⟩) 0 0]
      simpa using this)
  clear e0
  go_wp2_with fail
  clear p0 p1 p2 p3
  go_loopg [5] hh (fun k sx wr => ∃ y : Nat, y ≤ hh ∧ k = hh - y ∧ sx = .int .i64 y ∧ ∃ vr vc, Two w w1.heap.size ww hh (gath (fromM ww) (ww * hh) R) (gath (fromM ww) (ww * hh) C) #[.int .i64 ww, .int .i64 hh, .slice a R.length ca, .slice b C.length cb] (y * ww) (y * ww) vr vc wr)
  case atStart => exact ⟨0, Nat.zero_le _, rfl, rfl, _, _, by rw [Nat.zero_mul]; exact HT0.out⟩
  case round =>
    obtain ⟨y, hx, hk, rfl, vr, vc, hT⟩ := hrel
    have HT := Lib.hid hT
    clear hT HT0
    obtain ⟨p0, p1, p2, p3, -⟩ := HT.out.box.four
    by_cases hlt : y < hh
    · go_wp2_with fail
      obtain ⟨wo, hwo⟩ : ∃ wo : World, wo = wr := ⟨_, rfl⟩
      go_loopg [6] ww (fun k sy wr' => ∃ j : Nat, j ≤ ww ∧ k = ww - j ∧ sy = .int .i64 ((ww : Int) - 1 - (j : Int)) ∧ ∃ vr vc, Two w w1.heap.size ww hh (gath (fromM ww) (ww * hh) R) (gath (fromM ww) (ww * hh) C) #[.int .i64 ww, .int .i64 hh, .slice a R.length ca, .slice b C.length cb] (y * ww + j) (y * ww + j) vr vc wr')
      case atStart => exact ⟨0, Nat.zero_le _, rfl, by simp, _, _, HT.out⟩
      case round =>
        obtain ⟨wr', hwr'⟩ : ∃ w' : World, w' = wr := ⟨_, rfl⟩
        subst hwr'
        obtain ⟨j, hj, hkj, hsy, vr', vc', hT'⟩ := hrel
        have HT' := Lib.hid hT'
        clear hT' p0 p1 p2 p3
        obtain ⟨p0, p1, p2, p3, -⟩ := HT'.out.box.four
        obtain ⟨q0, q1, q2, q3, f0, f1, f2, f3⟩ := HT'.out.out.four
        by_cases hltj : j < ww
        · obtain ⟨x, hy⟩ : ∃ x : Nat, (ww : Int) - 1 - (j : Int) = (x : Int) := ⟨ww - 1 - j, by omega⟩
          rw [hy] at hsy
          subst hsy
          have hxw : x < ww := by omega
          have hd := lt_mk hxw hlt
          have hde : (y : Int) * (ww : Int) + (x : Int) = ((y * ww + x : Nat) : Int) := by rw [Int.natCast_add, Int.natCast_mul]
          have hd1 : 0 ≤ (y : Int) * (ww : Int) := by rw [← Int.natCast_mul]; omega
          have hd2 : (y : Int) * (ww : Int) ≤ 36 := by rw [← Int.natCast_mul]; omega
          have hkn : y * ww + j < ww * hh := lt_mk hltj hlt
          have hfk : fromM ww (y * ww + j) = y * ww + x := by
            have h := fromM_at (w := ww) (x := x) (y := y) hxw
            rwa [show ww - 1 - x = j by omega] at h
          obtain ⟨d, hdd⟩ : ∃ d, y * ww + x = d := ⟨_, rfl⟩
          rw [hdd] at hd hde hfk
          have HX := Lib.hid (gath_take (fromM ww) (ww * hh) R _ hkn)
          have HY := Lib.hid (gath_take (fromM ww) (ww * hh) C _ hkn)
          rw [hfk] at HX HY
          have hdR : d < R.length := by have := hRl.out; omega
          have hdC : d < C.length := by have := hCl.out; omega
          have HN := Lib.hid (show (x : Int) - 1 = (ww : Int) - 1 - ((j + 1 : Nat) : Int) by omega)
          clear hdd hfk hy
          go_upto_region 10 with (fail)
          go_cut [] from 27 to 60 (fun wx => ∃ vr vc, Two w w1.heap.size ww hh (gath (fromM ww) (ww * hh) R) (gath (fromM ww) (ww * hh) C) #[.int .i64 ww, .int .i64 hh, .slice a R.length ca, .slice b C.length cb] (y * ww + j + 1) (y * ww + j) vr vc wx)
          case first =>
            rcases RowAt.below hr HT'.out.b with h0 | ⟨b1, off1, rfl, hc1⟩
            · omega
            have g1 := hc1 d hdR
            clear hc1
            have hown := HT'.out.r
            have hsz := HT'.out.b.size
            have hlR : (d : Int) < (R.length : Int) := by omega
            have hl0 : (0 : Int) ≤ (d : Int) := by omega
            have E3 : (d : Int).toNat = d := by omega
            have E1 : IntKind.i64.wrap ((y : Int) * (ww : Int)) = (y : Int) * (ww : Int) := IntWalk.i64_in _ (by omega)
            have E4 : IntKind.i64.wrap (d : Int) = (d : Int) := IntWalk.i64_in _ (by omega)
            have E2 : IntKind.i64.wrap ((y : Int) * (ww : Int) + (x : Int)) = (d : Int) := by rw [hde]; exact IntWalk.i64_in _ (by omega)
            have hso := HT'.out.out.lt
            have h63 : y * ww + j + 1 ≤ maxLen := by unfold maxLen; omega
            have h64 : (y * ww + j + 1) * 8 ≤ 140737488355328 := by omega
            have HTa := Lib.hid (show Two w w1.heap.size ww hh (gath (fromM ww) (ww * hh) R) (gath (fromM ww) (ww * hh) C) _ (y * ww + j) (y * ww + j) vr' vc' (wr'.alloc (.cells #[.int .i64 (zAt R d)] 3)).drew from HT'.out.below ((Below.refl _ _).alloc (Nat.le_refl _) _).drew)
            go_region_law (refine step_append_lies _ rfl (.tmp 32) (.tmp 43) 24 rfl w1.heap.size 3 t0 (.int .i64 0) 1 8 Try.underlying24 hi hz0 hz1 hz2 rfl (by decide) vr' (y * ww + j) _ (by simp [Act.eval, Act.put]) (hown.alloc _) ⟨_, 0, none⟩ 1 1 [.int .i64 (zAt R d)] (by simp [Act.eval, Act.put]) rfl (cell_one_new _ _ _) (by simp [Value.oneCell']) (by decide) h63 h64 (by simp; omega) _ rfl ?_; intro g' cap' w3 hown3 hgr3 hlies3 _; obtain ⟨k0, k1, k2, k3, l0, l1, l2, l3⟩ := (blk_grown HTa.out.out hgr3 (own_ne HTa.out.r HTa.out.out (by decide))).four; have HP := Lib.hid (HTa.out.putR hs HX.out hown3 hgr3 (by simpa using hlies3)); clear hown3 hgr3 hlies3)
            all_goals go_wp2_with fail
            all_goals go_meet
            all_goals exact ⟨_, _, HP.out⟩
          case rest =>
          obtain ⟨vr2, vc2, hT2⟩ := hcut
          have HT2 := Lib.hid hT2
          clear hT2 p0 p1 p2 p3 q0 q1 q2 q3 f0 f1 f2 f3
          obtain ⟨p0, p1, p2, p3, -⟩ := HT2.out.box.four
          obtain ⟨q0, q1, q2, q3, f0, f1, f2, f3⟩ := HT2.out.out.four
          go_upto_region 11 with (fail)
          rcases RowAt.below hc HT2.out.b with h0 | ⟨b1, off1, rfl, hc1⟩
          · omega
          have g1 := hc1 d hdC
          clear hc1
          have hown := HT2.out.c
          have hsz := HT2.out.b.size
          have hlR : (d : Int) < (C.length : Int) := by omega
          have hl0 : (0 : Int) ≤ (d : Int) := by omega
          have E3 : (d : Int).toNat = d := by omega
          have E1 : IntKind.i64.wrap ((y : Int) * (ww : Int)) = (y : Int) * (ww : Int) := IntWalk.i64_in _ (by omega)
          have E4 : IntKind.i64.wrap (d : Int) = (d : Int) := IntWalk.i64_in _ (by omega)
          have E2 : IntKind.i64.wrap ((y : Int) * (ww : Int) + (x : Int)) = (d : Int) := by rw [hde]; exact IntWalk.i64_in _ (by omega)
          have hso := HT2.out.out.lt
          have h63 : y * ww + j + 1 ≤ maxLen := by unfold maxLen; omega
          have h64 : (y * ww + j + 1) * 8 ≤ 140737488355328 := by omega
          have HTa := Lib.hid (show Two w w1.heap.size ww hh (gath (fromM ww) (ww * hh) R) (gath (fromM ww) (ww * hh) C) _ (y * ww + j + 1) (y * ww + j) vr2 vc2 (wc.alloc (.cells #[.int .i64 (zAt C d)] 3)).drew from HT2.out.below ((Below.refl _ _).alloc (Nat.le_refl _) _).drew)
          go_region_law (refine step_append_lies _ rfl (.tmp 47) (.tmp 58) 24 rfl w1.heap.size 3 t0 (.int .i64 0) 1 8 Try.underlying24 hi hz0 hz1 hz2 rfl (by decide) vc2 (y * ww + j) _ (by simp [Act.eval, Act.put]) (hown.alloc _) ⟨_, 0, none⟩ 1 1 [.int .i64 (zAt C d)] (by simp [Act.eval, Act.put]) rfl (cell_one_new _ _ _) (by simp [Value.oneCell']) (by decide) h63 h64 (by simp; omega) _ rfl ?_; intro g' cap' w3 hown3 hgr3 hlies3 _; obtain ⟨k0, k1, k2, k3, l0, l1, l2, l3⟩ := (blk_grown HTa.out.out hgr3 (own_ne HTa.out.c HTa.out.out (by decide))).four; have HP := Lib.hid (HTa.out.putC hs HY.out hown3 hgr3 (by simpa using hlies3)); clear hown3 hgr3 hlies3)
          all_goals go_wp2_with fail
          all_goals go_roundg (ww - (j + 1))
          all_goals first
            | (show _ < _; omega)
            | exact ⟨j + 1, by omega, rfl, by rw [← HN.out], _, _, HP.out⟩
        · obtain rfl : j = ww := by omega
          have hsy' : (j : Int) - 1 - (j : Int) = -1 := by omega
          rw [hsy'] at hsy
          subst hsy
          have e1 : y * j + j = (y + 1) * j := by rw [Nat.add_mul, Nat.one_mul]
          rw [e1] at HT'
          go_wp2_with fail
          go_roundg (hh - (y + 1))
          case measure => omega
          case rel => exact ⟨y + 1, by omega, rfl, by go_num, _, _, HT'.out⟩
    · obtain rfl : y = hh := by omega
      have hgl : (gath (fromM ww) (ww * y) R).length = y * ww := by rw [gath_length, Nat.mul_comm]
      have hgl2 : (gath (fromM ww) (ww * y) C).length = y * ww := by rw [gath_length, Nat.mul_comm]
      obtain ⟨ar, cr, ac, cc, rfl, rfl, h1, h2, h3⟩ := HT.out.done hgl hgl2
      have H1 := Lib.hid h1
      have H2 := Lib.hid h2
      have H3 := Lib.hid h3
      clear h1 h2 h3 hgl hgl2
      obtain ⟨q0, q1, q2, q3, f0, f1, f2, f3⟩ := HT.out.out.four
      obtain ⟨r0, r1, r2, r3, l0, l1, l2, l3⟩ := HT.out.res.four
      go_wp2
      refine bodyPost_ret (v := .tuple #[.agg #[.int .i64 ww, .int .i64 y, .slice ar (gath (fromM ww) (ww * y) R).length cr, .slice ac (gath (fromM ww) (ww * y) C).length cc], .bool true]) (by simp [results, Try.results21, go_sem, q0, q1, q2, q3, r0, r1, r2, r3]) rfl ⟨_, rfl, ⟨ar, cr, ac, cc, rfl, ?_, ?_, H3.out⟩, ?_⟩
      · refine rebase (b := w1.heap.size) ?_ (by omega)
        repeat (refine ownsRow_setCell_below ?_ (by simp; omega) _)
        exact H1.out
      · refine rebase (b := w1.heap.size) ?_ (by omega)
        repeat (refine ownsRow_setCell_below ?_ (by simp; omega) _)
        exact H2.out
      · repeat (refine Below.setCell ?_ (by simp) _)
        exact HT.out.b

end Go.Proofs.Ytdphliobjafjaaa.SpecM
