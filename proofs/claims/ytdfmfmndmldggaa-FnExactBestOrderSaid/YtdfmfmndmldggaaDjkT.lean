/- The least times from a cell: the program's search. -/
import Derived.Test.YtdfmfmndmldggaaDjkB
import Derived.Deep.RegionHeld3
namespace Go.Proofs.Ytdfmfmndmldggaa.DjkT
open Go.RowKit Lb IntS MapS MapV High Cells StepT StpF SpecB DjkB
set_option linter.unusedSimpArgs false
set_option linter.unusedVariables false

/-- The frame at the label. -/
def Fr (w : World) (m : Mp) (a b : Option Addr) (ca cb gb c : Nat) (a' : Act) : Prop := ∃ (u8 u11 u12 u13 u14 u15 u16 u17 u18 u19 u20 u21 u22 u23 u24 u25 u26 u27 u28 u29 u30 u31 u32 u33 u34 u35 u36 u37 u38 u39 u40 u41 u42 u43 u44 u45 u46 u47 u48 u49 u50 u51 u52 u53 u54 u55 u56 u57 u58 u59 u60 u61 u62 u63 u64 u65 u66 u67 u68 u69 u70 u71 u72 u73 : Value), a' = { tmps := #[.agg #[.int .i64 m.W, .int .i64 m.H, .slice a m.R.length ca, .slice b m.C.length cb], .int .i64 (c : Nat), .func (.func 144) #[] #[.pointer (some ⟨gb, 0, none⟩)], .pointer (some ⟨w.heap.size, 0, none⟩), undef, undef, .pointer (some ⟨w.heap.size + 1, 0, none⟩), .pointer (some ⟨w.heap.size + 1 + 1, 0, none⟩), u8, .pointer (some ⟨w.heap.size + 1 + 1 + 1, 0, none⟩), undef, u11, u12, u13, u14, u15, u16, u17, u18, u19, u20, u21, u22, u23, u24, u25, u26, u27, u28, u29, u30, u31, u32, u33, u34, u35, u36, u37, u38, u39, u40, u41, u42, u43, u44, u45, u46, u47, u48, u49, u50, u51, u52, u53, u54, u55, u56, u57, u58, u59, u60, u61, u62, u63, u64, u65, u66, u67, u68, u69, u70, u71, u72, u73], defers := [] }

set_option maxRecDepth 100000 in
set_option maxHeartbeats 4000000 in
theorem least_any (m : Mp) (ww hh : Nat) (g : GoodM m ww hh) (a b : Option Addr) (ca cb gb s : Nat) (w : World) (H : Bm w gb m a b ca cb) (hs : Opn m (ww * hh) s) (wt : Nat → Nat → Int) (hwt : Wts m (ww * hh) wt)
    (hF : ∀ (c d : Nat) (w' : World), Bm w' gb m a b ca cb → c < ww * hh → d < ww * hh → Calls Try.prog 144 #[.int .i64 c, .int .i64 d, .pointer (some ⟨gb, 0, none⟩)] w' fun e w'' => e = .returned (.int .i64 (wt c d)) ∧ Below w'.heap.size w' w'') (D : Nat → Int) (hD : IsD m wt s D) :
    Calls Try.prog 135 #[.agg #[.int .i64 m.W, .int .i64 m.H, .slice a m.R.length ca, .slice b m.C.length cb], .int .i64 s, .func (.func 144) #[] #[.pointer (some ⟨gb, 0, none⟩)]] w fun e w' => e = .returned (.agg (timeCs fun i => tmOf (D i))) ∧ Below w.heap.size w w' := by
  have n36 := g.n36
  have HG := Lib.hid g
  have HM := Lib.hid H
  have HS0 := Lib.hid hs
  have HW := Lib.hid hwt
  have HF := Lib.hid hF
  have HD := Lib.hid hD
  have hsl : s < 36 := by have := hs.1; omega
  clear g H hs hwt hF hD
  have HT := Lib.hid (show Tw w #[.int .i64 m.W, .int .i64 m.H, .slice a m.R.length ca, .slice b m.C.length cb] (fun _ => 0) (((w.alloc (.cells #[.int .i64 m.W, .int .i64 m.H, .slice a m.R.length ca, .slice b m.C.length cb] 26)).alloc (.cells (timeCs fun _ => 0) 111)).alloc (.cells (timeCs fun _ => 0) 111)) from by
    have h1 := Blk.new w 26 #[.int .i64 m.W, .int .i64 m.H, .slice a m.R.length ca, .slice b m.C.length cb]
    have h2 := Blk.new (w.alloc (.cells #[.int .i64 m.W, .int .i64 m.H, .slice a m.R.length ca, .slice b m.C.length cb] 26)) 111 (timeCs fun _ => 0)
    have h3 := Blk.new ((w.alloc (.cells #[.int .i64 m.W, .int .i64 m.H, .slice a m.R.length ca, .slice b m.C.length cb] 26)).alloc (.cells (timeCs fun _ => 0) 111)) 111 (timeCs fun _ => 0)
    rw [World.size_alloc] at h2
    rw [World.size_alloc, World.size_alloc] at h3
    exact ⟨(((Below.refl _ _).alloc (Nat.le_refl _) _).alloc (by simp) _).alloc (by simp; omega) _, (h1.alloc _).alloc _, h2.alloc _, h3⟩)
  go_enter Try.func135, Try.ntmps135
  go_wp2_with fail
  refine wp_scope_pass 0 (fun q a' wr => ∃ (c k : Nat) (sb : Nat → Bool) (tm : Nat → Int), q = 36 - k ∧ Fr w m a b ca cb gb c a' ∧ Dij m (ww * hh) wt s sb tm c k ∧ Sw w #[.int .i64 m.W, .int .i64 m.H, .slice a m.R.length ca, .slice b m.C.length cb] tm sb wr) rfl ?_ ?_
  rotate_left
  · intro pass
    have HPs := Lib.hid pass
    clear pass
    go_wp2_with fail
    go_loopg [15] 36 (fun q i wr => ∃ k : Nat, k ≤ 36 ∧ q = 36 - k ∧ i = .int .i64 k ∧ ∃ tm, (∀ j, j < k → tm j = inf) ∧ Tw w #[.int .i64 m.W, .int .i64 m.H, .slice a m.R.length ca, .slice b m.C.length cb] tm wr ∧ wr.heap.size = w.heap.size + 1 + 1 + 1)
    case atStart => exact ⟨0, Nat.zero_le _, rfl, rfl, _, (fun j hj => by omega), HT.out, by simp⟩
    case round =>
      clear HT
      obtain ⟨k, hk, hq, rfl, tm, htm, hT, hsz⟩ := hrel
      have HT := Lib.hid hT
      have HI := Lib.hid htm
      clear hT htm
      by_cases hlt : k < 36
      · obtain ⟨c1, c2⟩ := time_cell HT.out.tms hlt
        have HT2 := Lib.hid (HT.out.put k inf)
        go_wp2_with fail
        go_roundg (36 - (k + 1))
        case measure => omega
        case rel => exact ⟨k + 1, by omega, rfl, by go_num, _, (fun j hj => by
          by_cases e : j = k
          · subst e; exact upd_self _ _ _
          · rw [upd_ne e]; exact HI.out j (by omega)), HT2.out, by rw [World.size_setCell]; exact hsz⟩
      · obtain rfl : k = 36 := by omega
        obtain ⟨c1, c2⟩ := time_cell (HT.out.same (tn := fun _ => inf) HI.out).tms hsl
        have hlt2 : w.heap.size + 1 + 1 < wr.heap.size := by omega
        have HS2 := Lib.hid (((HT.out.same (tn := fun _ => inf) HI.out).put s 0).bits (by rw [World.size_setCell]; exact hsz))
        clear HT HI
        go_wp2_with fail
        go_step3
        rename_i K0 hK0
        refine hK0 _ _ (HPs.out 36 _ _ ⟨s, 0, _, _, rfl, ⟨_, _, _, _, _, _, _, _, _, _, _, _, _, _, _, _, _, _, _, _, _, _, _, _, _, _, _, _, _, _, _, _, _, _, _, _, _, _, _, _, _, _, _, _, _, _, _, _, _, _, _, _, _, _, _, _, _, _, _, _, _, _, _, _, rfl⟩, Dij.start HS0.out, HS2.out⟩)
  · rintro q a' wr ⟨c, k, sb, tm, hq, ⟨u8, u11, u12, u13, u14, u15, u16, u17, u18, u19, u20, u21, u22, u23, u24, u25, u26, u27, u28, u29, u30, u31, u32, u33, u34, u35, u36, u37, u38, u39, u40, u41, u42, u43, u44, u45, u46, u47, u48, u49, u50, u51, u52, u53, u54, u55, u56, u57, u58, u59, u60, u61, u62, u63, u64, u65, u66, u67, u68, u69, u70, u71, u72, u73, rfl⟩, hdj, hS⟩
    have HDj := Lib.hid hdj
    have HS := Lib.hid hS
    have hcl : c < ww * hh := hdj.cell
    have hc36 : c < 36 := by omega
    have hkl : k + 1 ≤ 36 := by have := hdj.k_lt; omega
    obtain ⟨s1, s2⟩ := bit_cell HS.out.bits hc36
    clear hdj hS
    have HR := Lib.hid HDj.out.settle
    have HS1 := Lib.hid (HS.out.bit c)
    obtain ⟨p0, p1, p2, p3, -⟩ := HS1.out.t.box.four
    go_wp2_with fail
    refine (impl_next m ww hh HG.out a b ca cb c _ (HS1.out.bm HM.out).c hcl).mono ?_
    rintro e w3 ⟨⟨v8, rfl, ho8⟩, hb3⟩
    obtain ⟨a8, c8, rfl, -, -⟩ := OwnI.slice ho8
    rw [ints_length] at ho8 ⊢
    obtain ⟨base, hbase⟩ : ∃ base, base = (wr.setCell ⟨w.heap.size + 1 + 1 + 1, c, none⟩ (.bool true)).heap.size := ⟨_, rfl⟩
    rw [← hbase] at ho8
    have HS3 := Lib.hid (HS1.out.later hb3)
    have HV3 := Lib.hid ho8
    have hnl := nx_length m c
    clear ho8 hbase hb3 p0 p1 p2 p3 s1 s2 HS HS1 HT
    go_wp2_with fail
    go_loopg [29] (nx m c).length (fun q i wr => ∃ (r : Nat) (tn : Nat → Int), r ≤ (nx m c).length ∧ q = (nx m c).length - r ∧ i = .int .i64 r ∧ Rlx m (ww * hh) wt s (setT sb c) tn c k r ∧ Sw w #[.int .i64 m.W, .int .i64 m.H, .slice a m.R.length ca, .slice b m.C.length cb] tn (setT sb c) wr ∧ OwnI wr base (.slice a8 (nx m c).length c8) (ints (nx m c)))
    case atStart => exact ⟨0, tm, Nat.zero_le _, rfl, rfl, HR.out, HS3.out, HV3.out⟩
    case round =>
      clear HR HS3 HV3 HDj
      obtain ⟨r, tn, hr, hq2, rfl, hR, hS, hV⟩ := hrel
      have HR := Lib.hid hR
      have HS := Lib.hid hS
      have HV := Lib.hid hV
      clear hR hS hV
      by_cases hrl : r < (nx m c).length
      · obtain ⟨y, hy⟩ : ∃ y, (nx m c).getD r 0 = y := ⟨_, rfl⟩
        have HY := Lib.hid hy
        have hyl : y < ww * hh := by rw [← hy]; exact (nx_lt HG.out hcl (getD_mem hrl)).1
        have hy36 : y < 36 := by omega
        have g8 : ∃ b8 o8, a8 = some ⟨b8, o8, none⟩ ∧ wr.cell? ⟨b8, o8 + r, none⟩ = some (.int .i64 (y : Nat)) := by
          rcases irow_of HV.out with h0 | ⟨b8, o8, e8, h8⟩
          · rw [ints_length] at h0; omega
          · exact ⟨b8, o8, e8, by rw [h8 r (by rw [ints_length]; exact hrl)]; show some (Value.int .i64 (zAt (ints (nx m c)) r)) = _; rw [zAt_ints _ _ hrl, hy]⟩
        obtain ⟨b8, o8, rfl, g8⟩ := g8
        clear hy
        obtain ⟨t1, t2⟩ := time_cell HS.out.t.tms hy36
        obtain ⟨t3, t4⟩ := time_cell HS.out.t.tms hc36
        have hrk := HR.out.k_le
        obtain ⟨hco, hc0, hck, -⟩ := HR.out.tc_bd
        obtain ⟨hw1, hw2⟩ := HW.out c y hco (by rw [← HY.out]; exact getD_mem hrl)
        have hwr : IntKind.i64.wrap (tn c + wt c y) = tn c + wt c y := IntWalk.i64_in _ (by omega)
        have HHS := HS
        have hyc : y ≠ c := by rw [← HY.out]; exact nx_ne HG.out hcl (getD_mem hrl)
        have HS := Lib.hid HS.out.drew
        have HV := Lib.hid (HV.out.below (Below.refl _ _).drew)
        have hy0 : (0 : Int) ≤ (y : Int) := by omega
        have hyi : (y : Int) < 36 := by omega
        have hx0 : (0 : Int) ≤ (c : Int) := by omega
        have hxi : (c : Int) < 36 := by omega
        clear hco hrk hck
        go_upto_region 13 with (fail)
        clear g8
        go_region_with (go_at_call 144; refine (HF.out c y _ (HS.out.bm HM.out) hcl hyl).mono ?_; rintro e w5 ⟨rfl, hb5⟩; have HS5 := Lib.hid (HS.out.later hb5); have HV5 := Lib.hid (HV.out.below hb5); clear hb5; obtain ⟨x1, x2⟩ := time_cell HS5.out.t.tms hy36; obtain ⟨x3, x4⟩ := time_cell HS5.out.t.tms hc36)
        all_goals
          have HL := Lib.hid (HR.out.look1 (v := min (tn y) (tn c + wt c y)) HG.out HW.out hrl HY.out (by rw [Int.min_def]; split <;> omega))
          have HS6 := Lib.hid (HS5.out.put y (min (tn y) (tn c + wt c y)))
          have HV6 := Lib.hid (put_row HS5.out HV5.out y (min (tn y) (tn c + wt c y)))
          clear x3 x4 HHS HS HV HR t1 t2 t3 t4
          go_wp2_with fail
          go_roundg ((nx m c).length - (r + 1))
          case measure => omega
          case rel => exact ⟨r + 1, _, by omega, rfl, by go_num, HL.out, HS6.out, HV6.out⟩
      · have HRd := Lib.hid (HR.out.full (by omega))
        have hkr := HR.out.k_le
        obtain ⟨p0, p1, p2, p3, -⟩ := HS.out.t.box.four
        have HCl := Lib.hid (show m.C.length = ww * hh from HG.out.C)
        obtain ⟨nC, hnC⟩ : ∃ n : Nat, n = m.C.length := ⟨_, rfl⟩
        rw [← hnC] at p3
        rw [← hnC] at HCl
        obtain rfl : nC = ww * hh := HCl.out
        clear HCl hnC HR HV
        go_wp2_with fail
        clear p0 p1 p2 p3
        go_loopg [51, 12, 13] (ww * hh) (fun q i p l wr => ∃ (o pp : Nat) (ll : Int), o ≤ ww * hh ∧ q = ww * hh - o ∧ i = .int .i64 o ∧ p = .int .i64 (pp : Nat) ∧ l = .int .i64 ll ∧ Near (ww * hh) (setT sb c) tn o pp ll ∧ Sw w #[.int .i64 m.W, .int .i64 m.H, .slice a m.R.length ca, .slice b m.C.length cb] tn (setT sb c) wr)
        case atStart => exact ⟨0, 0, inf, Nat.zero_le _, rfl, rfl, rfl, rfl, .start _ _ _, HS.out⟩
        case round =>
          clear HS
          obtain ⟨o, pp, ll, ho, hq3, rfl, rfl, rfl, hN, hS⟩ := hrel
          have HN := Lib.hid hN
          have HS := Lib.hid hS
          clear hN hS
          by_cases hol : o < ww * hh
          · have ho36 : o < 36 := by omega
            obtain ⟨s1, s2⟩ := bit_cell HS.out.bits ho36
            obtain ⟨t1, t2⟩ := time_cell HS.out.t.tms ho36
            by_cases hs : setT sb c o = true
            · rw [hs] at s1
              have HN1 := Lib.hid (HN.out.skip (.inl hs))
              clear hs
              go_wp2_with fail
              go_roundg (ww * hh - (o + 1))
              case measure => omega
              case rel => exact ⟨o + 1, pp, ll, by omega, rfl, by go_num, rfl, rfl, HN1.out, HS.out⟩
            · have hs' : setT sb c o = false := by simpa using hs
              rw [hs'] at s1
              clear hs
              by_cases hlt : tn o < ll
              · have HN1 := Lib.hid (HN.out.take hol hs' hlt)
                clear hs'
                go_upto_region 20 with (fail)
                go_quiet (fail)
                go_wp2_with fail
                go_roundg (ww * hh - (o + 1))
                case measure => omega
                case rel => exact ⟨o + 1, o, tn o, by omega, rfl, by go_num, rfl, rfl, HN1.out, HS.out.later (Next.below_drewN (Below.refl _ _) _)⟩
              · have HN1 := Lib.hid (HN.out.skip (.inr (by omega)))
                have hd : decide (tn o < ll) = false := by simpa using hlt
                clear hs' hlt
                go_wp2_with fail
                go_roundg (ww * hh - (o + 1))
                case measure => omega
                case rel => exact ⟨o + 1, pp, ll, by omega, rfl, by go_num, rfl, rfl, HN1.out, HS.out⟩
          · obtain rfl : o = ww * hh := by omega
            by_cases hl : ll = 9223372036854775807
            · subst hl
              have HDn := Lib.hid (HRd.out.done HG.out HW.out HS0.out (by omega) HN.out HD.out)
              have HEq := Lib.hid (timeCs_congr fun j _ => HDn.out j)
              go_upto_region 24 with (fail)
              apply wp_region_lit
              refine wpList_load_mid rfl 111 (.tmp 7) rfl (w.heap.size + 1 + 1) 0 rfl (timeL tn) _ (blk_range HS.out.t.tms) Try.underlying111 rfl (by rw [timeL_len]; exact info_times) ?_
              refine wpList_store_mid rfl 111 (.tmp 6) (.tmp 73) rfl (w.heap.size + 1) 0 (timeL tn).toArray rfl rfl (by rw [timeS_len]; exact blk_there HS.out.t.res) (by rw [timeS_len]; exact info_times) (all_oneCell_toArray timeL_one) ?_
              apply wpList_nil
              go_wp2_with fail
              simp only [Exit.jump]
              show bodyPost _ _ _ _ _ _
              refine bodyPost_ret (v := .agg (timeCs tn)) (ret_times HS.out.stored.1 Try.results135 _ rfl) rfl ⟨by rw [HEq.out], HS.out.stored.2⟩
            · have HDj := Lib.hid (HRd.out.next HN.out hl)
              have h1 : (ll == 9223372036854775807) = false := by simpa using hl
              clear hl
              go_wp2_with fail
              go_step3
              refine (show (0 : Nat) = 0 ∧ ∃ n', _ ∧ n' < q from ⟨rfl, 36 - (k + 1), ⟨pp, k + 1, _, tn, rfl, ⟨_, _, _, _, _, _, _, _, _, _, _, _, _, _, _, _, _, _, _, _, _, _, _, _, _, _, _, _, _, _, _, _, _, _, _, _, _, _, _, _, _, _, _, _, _, _, _, _, _, _, _, _, _, _, _, _, _, _, _, _, _, _, _, _, rfl⟩, HDj.out, HS.out⟩, ?_⟩)
              have := HDj.out.k_lt
              omega
end Go.Proofs.Ytdfmfmndmldggaa.DjkT
