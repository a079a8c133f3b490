/- The least times to a cell: the model. -/
import Derived.Test.YtdfmfmndmldggaaBfoB
import Derived.Deep.RegionHeld3
namespace Go.Proofs.Ytdfmfmndmldggaa.BfoS
open Go.RowKit Lb IntS MapS MapV High Cells StepT SpecB BfoB
set_option linter.unusedSimpArgs false
set_option linter.unusedVariables false

set_option maxRecDepth 100000 in
set_option maxHeartbeats 4000000 in
theorem to_any (m : Mp) (ww hh : Nat) (g : GoodM m ww hh) (a b : Option Addr) (ca cb s : Nat) (w : World) (hr : IRow w a m.R) (hc : IRow w b m.C) (hs : Opn m (ww * hh) s) (D : Nat → Int) (hD : IsD m (fun x y => stp m y x) s D) :
    Calls Try.prog 88 #[.agg #[.int .i64 m.W, .int .i64 m.H, .slice a m.R.length ca, .slice b m.C.length cb], .int .i64 s] w fun e w' => (∃ v, e = .returned v ∧ OwnI w' w.heap.size v (oL (ww * hh) D)) ∧ Below w.heap.size w w' := by
  obtain ⟨t0, hi, hz0, hz1, hz2⟩ := info_parts iInfo
  have n36 := g.n36
  have n1 := g.n1
  have HG := Lib.hid g
  have HS0 := Lib.hid hs
  have HWt := Lib.hid (wts_to g)
  have HD := Lib.hid hD
  have HR := Lib.hid hr
  have HC := Lib.hid hc
  have hsl : s < ww * hh := hs.1
  have HCl := Lib.hid (show m.C.length = ww * hh from g.C)
  obtain ⟨nC, hnC⟩ : ∃ n : Nat, n = m.C.length := ⟨_, rfl⟩
  have HT := Lib.hid (show Rw w #[.int .i64 m.W, .int .i64 m.H, .slice a m.R.length ca, .slice b nC cb] (.slice (some ⟨w.heap.size + 1, 0, none⟩) 0 0) [] ((w.alloc (.cells #[.int .i64 m.W, .int .i64 m.H, .slice a m.R.length ca, .slice b nC cb] 26)).alloc (.cells #[] 3)) from by
    refine ⟨((Below.refl _ _).alloc (Nat.le_refl _) _).alloc (by simp) _, (Blk.new w 26 _).alloc _, ?_⟩
    have := ownI_nil (w.alloc (.cells #[.int .i64 m.W, .int .i64 m.H, .slice a m.R.length ca, .slice b nC cb] 26)) w (by simp)
    rw [World.size_alloc] at this
    exact this)
  rw [← hnC] at HCl ⊢
  have HN := Lib.hid hnC
  obtain rfl : nC = ww * hh := HCl.out
  clear g hs hD hr hc HCl hnC
  go_enter Try.func88, Try.ntmps88
  go_wp2_with fail
  go_loopg [6, 5] (ww * hh) (fun q i v wr => ∃ k : Nat, k ≤ ww * hh ∧ q = ww * hh - k ∧ i = .int .i64 k ∧ Rw w #[.int .i64 m.W, .int .i64 m.H, .slice a m.R.length ca, .slice b (ww * hh) cb] v (oL k fun _ => -1) wr)
  case atStart => exact ⟨0, Nat.zero_le _, rfl, rfl, HT.out⟩
  case round =>
    clear HT
    obtain ⟨k, hk, hq, rfl, hT⟩ := hrel
    have HT := Lib.hid hT
    clear hT
    obtain ⟨p0, p1, p2, p3, -⟩ := HT.out.box.four
    by_cases hlt : k < ww * hh
    · have hlen : (oL k fun _ => -1).length = k := oL_len _ _
      have hown := HT.out.own.below ((Below.refl _ _).alloc (Nat.le_refl _) (.cells #[.int .i64 (-1)] 3))
      unfold OwnI at hown
      rw [hlen] at hown
      have HTa := Lib.hid (HT.out.alloc (.cells #[.int .i64 (-1)] 3))
      have hsz := HT.out.b.size
      clear hlen
      go_wp2_with (at_builtin; (refine wpList_append_own _ rfl (.tmp 21) (.tmp 22) 24 rfl w.heap.size 3 t0 (.int .i64 0) 1 8 Try.underlying24 hi hz0 hz1 hz2 rfl (by decide) u5 k _ rfl hown ⟨_, 0, none⟩ 1 1 [.int .i64 (-1)] rfl rfl (cell_one_new _ _ _) (by simp [Value.oneCell']) (by unfold maxLen; omega) (by omega) (by simp; omega) ?_; intro v' w3 hown3 hgr3 _; have HP := Lib.hid (HTa.out.grown hgr3 (own_put (zs := oL k fun _ => -1) (by rw [oL_len]; exact hown3))); clear hown3 hgr3))
      go_roundg (ww * hh - (k + 1))
      case measure => omega
      case rel => exact ⟨k + 1, by omega, rfl, by go_num, by rw [oL_succ]; exact HP.out⟩
    · obtain rfl : k = ww * hh := by omega
      have hpos : 0 < (oL (ww * hh) fun _ => -1).length := by rw [oL_len]; omega
      obtain ⟨gq, cq, hv⟩ := own_at HT.out.own hpos
      rw [oL_len] at hv
      subst hv
      have hsl2 : s < (oL (ww * hh) fun _ => -1).length := by rw [oL_len]; exact hsl
      obtain ⟨c1, c2⟩ := own_cell HT.out.own hsl2
      have HT1 := Lib.hid (HT.out.set_ s 0)
      have HB0 := Lib.hid (Bf.start (m := m) (wt := fun x y => stp m y x) hsl)
      have hgq := (HT.out.own.lt gq (by simp [Value.ownBlock])).2
      have HGq := Lib.hid hgq
      clear HT hpos hsl2
      go_wp2_with fail
      go_loopg [7] (mu (upd (fun _ => -1) s 0) (ww * hh) + 1) (fun q ag wr => ∃ (o : Nat → Int) (agb : Bool), ag = .bool agb ∧ q = mu o (ww * hh) + (if agb then 1 else 0) ∧ Bf m (ww * hh) (fun x y => stp m y x) s o ∧ (agb = false → ∀ i, i < ww * hh → 0 < zAt m.C i → ∀ x ∈ nx m i, 0 ≤ o x → 0 ≤ o i ∧ o i ≤ o x + stp m i x) ∧ Rw w #[.int .i64 m.W, .int .i64 m.H, .slice a m.R.length ca, .slice b (ww * hh) cb] (.slice (some ⟨gq, 0, none⟩) (ww * hh) cq) (oL (ww * hh) o) wr)
      case atStart => exact ⟨_, true, rfl, rfl, HB0.out, (fun e => by cases e), HT1.out⟩
      case round =>
        clear HT1 HB0 c1 c2 p0 p1 p2 p3
        obtain ⟨o, agb, rfl, hq1, hbf, hcl, hT⟩ := hrel
        have HBf := Lib.hid hbf
        have HCd := Lib.hid hcl
        have HT := Lib.hid hT
        clear hbf hcl hT
        cases agb with
        | false =>
          go_wp2
          go_ret
          have HX := HT.out.own
          rw [oL_congr (HBf.out.full HG.out HS0.out HD.out (HCd.out (by simp)))] at HX
          exact ⟨⟨_, rfl, HX⟩, HT.out.b⟩
        | true =>
          have hq' : gk = mu o (ww * hh) + 1 := hq1
          go_wp2_with fail
          go_loopg [8, 7] (ww * hh) (fun q i ag wr => ∃ (j : Nat) (o1 : Nat → Int) (agb : Bool), j ≤ ww * hh ∧ q = ww * hh - j ∧ i = .int .i64 j ∧ ag = .bool agb ∧ Bfr m (ww * hh) (fun x y => stp m y x) s o o1 agb j ∧ Rw w #[.int .i64 m.W, .int .i64 m.H, .slice a m.R.length ca, .slice b (ww * hh) cb] (.slice (some ⟨gq, 0, none⟩) (ww * hh) cq) (oL (ww * hh) o1) wr)
          case atStart => exact ⟨0, o, false, Nat.zero_le _, rfl, rfl, rfl, .start HBf.out, HT.out⟩
          case round =>
            clear HT
            obtain ⟨j, o1, ag1, hj, hq2, rfl, rfl, hrn, hT⟩ := hrel
            have HRn := Lib.hid hrn
            have HT := Lib.hid hT
            clear hrn hT
            obtain ⟨p0, p1, p2, p3, -⟩ := HT.out.box.four
            by_cases hlt : j < ww * hh
            · have hjn : j < m.C.length := by rw [← HN.out]; exact hlt
              rcases RowAt.below HC.out HT.out.b with h0 | ⟨b1, off1, rfl, hc1⟩
              · omega
              have g1 : wr.cell? ⟨b1, off1 + j, none⟩ = some (.int .i64 (zAt m.C j)) := hc1 j hjn
              obtain ⟨-, -, hz0', hz9'⟩ := HG.out.cell j hlt
              clear hc1 hjn
              by_cases hf : zAt m.C j = 0
              · have HSk := Lib.hid (HRn.out.skip hf)
                go_wp2_with fail
                go_roundg (ww * hh - (j + 1))
                case measure => omega
                case rel => exact ⟨j + 1, o1, ag1, by omega, rfl, by go_num, rfl, HSk.out, HT.out⟩
              · have HO := Lib.hid (show 0 < zAt m.C j by omega)
                have hf' : (zAt m.C j == 0) = false := by simpa using hf
                have HGb := Lib.hid (HT.out.own.lt gq (by simp [Value.ownBlock])).2
                clear hf
                have hcal := spec_next m ww hh HG.out a (some ⟨b1, off1, none⟩) ca cb j wr (RowAt.below HC.out HT.out.b) hlt
                rw [← HN.out] at hcal
                have HCal := Lib.hid hcal
                clear hcal
                go_wp2_with fail
                refine HCal.out.mono ?_
                rintro e w3 ⟨⟨v8, rfl, ho8⟩, hb3⟩
                obtain ⟨a8, c8, rfl, -, -⟩ := OwnI.slice ho8
                rw [ints_length] at ho8 ⊢
                obtain ⟨base, hbase⟩ : ∃ base, base = wr.heap.size := ⟨_, rfl⟩
                rw [← hbase] at ho8 HGb
                have HT3 := Lib.hid (HT.out.below hb3)
                have HV3 := Lib.hid ho8
                have HK0 := Lib.hid (Bfk.start HRn.out)
                have hnl := nx_length m j
                clear ho8 hbase hb3 p0 p1 p2 p3 g1 HCal
                go_wp2_with fail
                go_loopg [10, 7] (nx m j).length (fun q i ag wr => ∃ (r : Nat) (o2 : Nat → Int) (agb : Bool), r ≤ (nx m j).length ∧ q = (nx m j).length - r ∧ i = .int .i64 r ∧ ag = .bool agb ∧ Bfk m (ww * hh) (fun x y => stp m y x) s o o2 agb j r ∧ Rw w #[.int .i64 m.W, .int .i64 m.H, .slice a m.R.length ca, .slice (some ⟨b1, off1, none⟩) (ww * hh) cb] (.slice (some ⟨gq, 0, none⟩) (ww * hh) cq) (oL (ww * hh) o2) wr ∧ OwnI wr base (.slice a8 (nx m j).length c8) (ints (nx m j)))
                case atStart => exact ⟨0, o1, ag1, Nat.zero_le _, rfl, rfl, rfl, HK0.out, HT3.out, HV3.out⟩
                case round =>
                  clear HT3 HV3 HK0 HT HRn
                  obtain ⟨r, o2, ag2, hr, hq3, rfl, rfl, hbk, hT, hV⟩ := hrel
                  have HBk := Lib.hid hbk
                  have HT := Lib.hid hT
                  have HV := Lib.hid hV
                  clear hbk hT hV
                  by_cases hrl : r < (nx m j).length
                  · obtain ⟨y, hy⟩ : ∃ y, (nx m j).getD r 0 = y := ⟨_, rfl⟩
                    have HY := Lib.hid hy
                    have hyl : y < ww * hh := by rw [← hy]; exact (nx_lt HG.out hlt (getD_mem hrl)).1
                    have g8 : ∃ b8 o8, a8 = some ⟨b8, o8, none⟩ ∧ wr.cell? ⟨b8, o8 + r, none⟩ = some (.int .i64 (y : Nat)) := by
                      rcases irow_of HV.out with h0 | ⟨b8, o8, e8, h8⟩
                      · rw [ints_length] at h0; omega
                      · exact ⟨b8, o8, e8, by rw [h8 r (by rw [ints_length]; exact hrl)]; show some (Value.int .i64 (zAt (ints (nx m j)) r)) = _; rw [zAt_ints _ _ hrl, hy]⟩
                    obtain ⟨b8, o8, rfl, g8⟩ := g8
                    obtain ⟨t1, t2⟩ := own_cell HT.out.own (j := y) (by rw [oL_len]; exact hyl)
                    obtain ⟨t3, t4⟩ := own_cell HT.out.own (j := j) (by rw [oL_len]; exact hlt)
                    rw [oL_at _ hyl] at t1
                    rw [oL_at _ hlt] at t3
                    clear hy
                    by_cases hneg : o2 y < 0
                    · have HSk := Lib.hid (HBk.out.skip (by rw [HY.out]; intro h; omega))
                      go_wp2_with fail
                      go_roundg ((nx m j).length - (r + 1))
                      case measure => omega
                      case rel => exact ⟨r + 1, o2, ag2, by omega, rfl, by go_num, rfl, HSk.out, HT.out, HV.out⟩
                    · have hd : decide (o2 y < 0) = false := by simpa using hneg
                      have hbd := HBk.out.rnd.bf.le hyl
                      have hym : y ∈ nx m j := by rw [← HY.out]; exact getD_mem hrl
                      obtain ⟨hw1, hw2⟩ := stp_bd HG.out hlt (nx_lt HG.out hlt hym)
                      obtain ⟨x, hx⟩ : ∃ x, stp m j y = x := ⟨_, rfl⟩
                      have HX := Lib.hid hx
                      rw [hx] at hw1 hw2
                      have hwr : IntKind.i64.wrap (o2 y + x) = o2 y + x := IntWalk.i64_in _ (by omega)
                      have hy0 : (0 : Int) ≤ (y : Int) := by omega
                      have hyi : (y : Int) < ((ww * hh : Nat) : Int) := by omega
                      obtain ⟨p0, p1, p2, p3, -⟩ := HT.out.box.four
                      have hcal := fun W h1 h2 => spec_step m ww hh HG.out a (some ⟨b1, off1, none⟩) ca cb j y W h1 h2 hlt hyl
                      rw [← HN.out, hx] at hcal
                      have HCal := Lib.hid hcal
                      have HNg := Lib.hid (show 0 ≤ o2 y by omega)
                      have hyi2 : (y : Int) < (ww : Int) * (hh : Int) := by rw [← Int.natCast_mul]; exact hyi
                      clear hcal hx hneg hbd hym
                      have HT := Lib.hid HT.out.drew
                      have HV := Lib.hid (HV.out.below (Below.refl _ _).drew)
                      go_upto_region 20 with (fail)
                      go_region_held3 (fun W : World => W.cell? ⟨gq, y, none⟩ = some (.int .i64 (o2 y)) ∧ W.cell? ⟨w.heap.size, 0, none⟩ = some (.int .i64 m.W) ∧ W.cell? ⟨w.heap.size, 1, none⟩ = some (.int .i64 m.H) ∧ W.cell? ⟨w.heap.size, 2, none⟩ = some (.slice a m.R.length ca) ∧ W.cell? ⟨w.heap.size, 3, none⟩ = some (.slice (some ⟨b1, off1, none⟩) (ww * hh) cb)) (first | with_reducible exact HT.out.keep hyl) (first
                        | (go_at_call 115; refine (HCal.out _ (RowAt.below HR.out HT.out.b) (RowAt.below HC.out HT.out.b)).mono ?_; rintro e w5 ⟨rfl, hb5⟩; have HT5 := Lib.hid (HT.out.below hb5); have HV5 := Lib.hid (HV.out.below hb5); clear hb5; have HT := HT5; have HV := HV5))
                      all_goals
                        clear t1 t2 t3 t4 p0 p1 p2 p3 g8
                        obtain ⟨t3, t4⟩ := own_cell HT.out.own (j := j) (by rw [oL_len]; exact hlt)
                        rw [oL_at _ hlt] at t3
                        have HT6 := Lib.hid (HT.out.set_ j (o2 y + x))
                        have HV6 := Lib.hid (HT.out.apart j (o2 y + x) HV.out HGb.out)
                        have hlo := HBk.out.low HG.out HWt.out HS0.out hlt HO.out hrl (by rw [HY.out]; exact HNg.out)
                        rw [HY.out, HX.out] at hlo
                        by_cases hl1 : o2 j < 0
                        · have HLw := Lib.hid (hlo (.inl hl1))
                          clear hlo
                          go_wp2_with fail
                          go_roundg ((nx m j).length - (r + 1))
                          case measure => omega
                          case rel => exact ⟨r + 1, _, true, by omega, rfl, by go_num, rfl, HLw.out, HT6.out, HV6.out⟩
                        · by_cases hl2 : o2 y + x < o2 j
                          · have HLw := Lib.hid (hlo (.inr hl2))
                            have hd1 : decide (o2 j < 0) = false := by simpa using hl1
                            clear hlo
                            go_wp2_with fail
                            go_roundg ((nx m j).length - (r + 1))
                            case measure => omega
                            case rel => exact ⟨r + 1, _, true, by omega, rfl, by go_num, rfl, HLw.out, HT6.out, HV6.out⟩
                          · have HSk := Lib.hid (HBk.out.skip (by rw [HY.out, HX.out]; intro _; omega))
                            have hd1 : decide (o2 j < 0) = false := by simpa using hl1
                            have hd2 : decide (o2 y + x < o2 j) = false := by simpa using hl2
                            clear hlo hl1 hl2
                            go_wp2_with fail
                            go_roundg ((nx m j).length - (r + 1))
                            case measure => omega
                            case rel => exact ⟨r + 1, o2, ag2, by omega, rfl, by go_num, rfl, HSk.out, HT.out, HV.out⟩
                  · have HFl := Lib.hid (HBk.out.full (by omega))
                    go_wp2_with fail
                    go_roundg (ww * hh - (j + 1))
                    case measure => omega
                    case rel => exact ⟨j + 1, o2, ag2, by omega, rfl, by go_num, rfl, HFl.out, HT.out⟩
            · obtain rfl : j = ww * hh := by omega
              have HRe := Lib.hid (show (ag1 = false → ∀ i, i < ww * hh → 0 < zAt m.C i → ∀ x ∈ nx m i, 0 ≤ o1 x → 0 ≤ o1 i ∧ o1 i ≤ o1 x + stp m i x) ∧ mu o1 (ww * hh) + (if ag1 then 1 else 0) < mu o (ww * hh) + 1 from by
                refine ⟨fun e => HRn.out.no e, ?_⟩
                have h1 := HRn.out.le
                cases hag : ag1 with
                | false => simp; omega
                | true => have := HRn.out.yes hag; simp; omega)
              have HBf1 := Lib.hid HRn.out.bf
              clear hq1
              go_wp2_with fail
              go_roundg (mu o1 (ww * hh) + (if ag1 then 1 else 0))
              case measure => rw [hq']; exact HRe.out.2
              case rel => exact ⟨o1, ag1, rfl, rfl, HBf1.out, HRe.out.1, HT.out⟩
end Go.Proofs.Ytdfmfmndmldggaa.BfoS
