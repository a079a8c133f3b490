/- Drawn codes; a drawn map with controls on it: the contracts. -/
import Derived.Test.YtfpfnnindlfgfaaCtDr
namespace Go.Proofs.Ytfpfnnindlfgfaa.CtSi
open Go.RowKit Lb Cur IntS MapS SpecB CurM CodM DrwM CtDr
set_option linter.unusedSimpArgs false
set_option linter.unusedVariables false

set_option maxRecDepth 20000 in
set_option maxHeartbeats 2000000 in
theorem code6_any (b mm : Nat) (w : World) (hm : mm ≤ 1152921504606845000) (hok : Ok w b mm) :
    Calls Try.prog 134 #[.pointer (some ⟨b, 0, none⟩)] w fun e w' => (∃ z : Int, e = .returned (.int .i64 z)) ∧ Ok w' b (mm + 4) ∧ w.grownBy w' (some b) := by
  have c1 := Lib.hid (one_any b mm 24 w (by omega) (by omega) (by omega) hok)
  clear hok
  go_enter Try.func134, Try.ntmps134
  go_wp2_with fail
  refine c1.out.mono ?_
  rintro e w1 ⟨⟨t, rfl⟩, hok1, hg1⟩
  have HO1 := Lib.hid hok1
  have HG1 := Lib.hid hg1
  clear hok1 hg1 c1
  cases t with
  | true =>
    go_wp2_with fail
    refine (among_new b (mm + 2) 5 ([0, 30, 31, 99, 100] : List Int) w1 (by omega) rfl (by omega) (by omega) HO1.out).mono ?_
    rintro e w2 ⟨⟨z, rfl⟩, hok2, hg2⟩
    have HO2 := Lib.hid hok2
    have HG2 := Lib.hid (gtrans HG1.out hg2)
    clear hok2 hg2
    go_wp2
    go_ret
    exact ⟨⟨z, rfl⟩, HO2.out.mono (by omega), HG2.out⟩
  | false =>
    go_wp2_with fail
    refine (among_new b (mm + 2) 10 ([31, 32, 34, 41, 43, 45, 54, 60, 77, 99] : List Int) w1 (by omega) rfl (by omega) (by omega) HO1.out).mono ?_
    rintro e w2 ⟨⟨z, rfl⟩, hok2, hg2⟩
    have HO2 := Lib.hid hok2
    have HG2 := Lib.hid (gtrans HG1.out hg2)
    clear hok2 hg2
    go_wp2
    go_ret
    exact ⟨⟨z, rfl⟩, HO2.out.mono (by omega), HG2.out⟩

set_option maxRecDepth 20000 in
set_option maxHeartbeats 2000000 in
theorem codeOf_any (b mm : Nat) (ad : Option Addr) (cap : Nat) (fs : List Ct) (w : World) (hm : mm ≤ 1152921504606844000) (hl : fs.length ≤ 1000) (hr : CtK.Row w ad fs) (hne : ∀ x, ad = some x → x.block ≠ b) (hok : Ok w b mm) :
    Calls Try.prog 93 #[.pointer (some ⟨b, 0, none⟩), .slice ad fs.length cap] w fun e w' => (∃ z : Int, e = .returned (.int .i64 z)) ∧ Ok w' b (mm + 6) ∧ w.grownBy w' (some b) := by
  have H := Lib.hid hr
  have HN := Lib.hid hne
  have HO := Lib.hid hok
  have c1 := Lib.hid (one_any b mm 10 w (by omega) (by omega) (by omega) hok)
  obtain ⟨n, hn⟩ : ∃ n, fs.length = n := ⟨_, rfl⟩
  have HL := Lib.hid hn
  rw [hn] at hl ⊢
  clear hr hne hok hn
  by_cases h0 : n = 0
  · subst h0
    go_enter Try.func93, Try.ntmps93
    go_wp2_with fail
    refine (code6_any b mm _ (by omega) HO.out).mono ?_
    rintro e w2 ⟨⟨z, rfl⟩, hok2, hg2⟩
    have HO2 := Lib.hid hok2
    have HG2 := Lib.hid hg2
    clear hok2 hg2
    go_wp2
    go_ret
    exact ⟨⟨z, rfl⟩, HO2.out.mono (by omega), HG2.out⟩
  have hz1 : (n == 0) = false := by simpa using h0
  have hz2 : ((n : Int) == 0) = false := by simpa using h0
  go_enter Try.func93, Try.ntmps93
  go_wp2_with fail
  refine c1.out.mono ?_
  rintro e w1 ⟨⟨t, rfl⟩, hok1, hg1⟩
  have HO1 := Lib.hid hok1
  have HG1 := Lib.hid hg1
  have HR1 := Lib.hid (H.out.beside hg1 (fun x e => by have := HN.out x e; simpa using this.symm))
  clear hok1 hg1 c1
  cases t with
  | true =>
    go_wp2_with fail
    refine (code6_any b (mm + 2) _ (by omega) HO1.out).mono ?_
    rintro e w2 ⟨⟨z, rfl⟩, hok2, hg2⟩
    have HO2 := Lib.hid hok2
    have HG2 := Lib.hid (gtrans HG1.out hg2)
    clear hok2 hg2
    go_wp2
    go_ret
    exact ⟨⟨z, rfl⟩, HO2.out.mono (by omega), HG2.out⟩
  | false =>
    go_wp2_with fail
    refine (pick_any b (mm + 2) n _ (by omega) (by omega) (by omega) HO1.out).mono ?_
    rintro e w2 ⟨⟨p, rfl, _, hp⟩, hok2, hg2⟩
    have HO2 := Lib.hid hok2
    have HG2 := Lib.hid (gtrans HG1.out hg2)
    have hpn : p < n := by omega
    obtain ⟨b1, off, rfl, c0, -⟩ := (HR1.out.beside hg2 (fun x e => by have := HN.out x e; simpa using this.symm)).cells (i := p) (by rw [HL.out]; exact hpn)
    have hp0 : (0 : Int) ≤ (p : Int) := by omega
    have hp1 : (p : Int) < (n : Int) := by omega
    clear hok2 hg2 hp
    go_wp2
    go_ret
    exact ⟨⟨_, rfl⟩, HO2.out.mono (by omega), HG2.out⟩

set_option maxRecDepth 100000 in
set_option maxHeartbeats 8000000 in
theorem site_any (b mm : Nat) (w : World) (hm : mm ≤ 1152921504606840000) (hok : Ok w b mm) :
    Calls Try.prog 92 #[.pointer (some ⟨b, 0, none⟩)] w (SiteP w b (mm + 400)) := by
  obtain ⟨t0, hi0, hz0, hz1, hz2⟩ := info_parts CtK.info
  have hbl := hok.lt
  have HB := Lib.hid ((Below.refl w.heap.size w).alloc (Nat.le_refl _) (.cells #[.int .i64 0, .int .i64 0, .slice none 0 0, .slice none 0 0] 26))
  have HQ0 := Lib.hid (Blk.new w 26 #[.int .i64 0, .int .i64 0, .slice none 0 0, .slice none 0 0])
  have c1 := Lib.hid (MapD.map_any b mm _ (by omega) (hok.below HB.out))
  clear hok
  go_enter Try.func92, Try.ntmps92
  go_wp2_with fail
  refine c1.out.mono ?_
  rintro e w1 ⟨⟨v, rfl, m, ho, hR, hC⟩, hok1, hg1⟩
  obtain ⟨ar, cr, ac, cc, rfl, h1, h2, hne⟩ := ho
  rw [World.size_alloc] at h1 h2
  obtain ⟨B, hBe⟩ : ∃ B, w1.heap.size = B := ⟨_, rfl⟩
  have hsz : w.heap.size + 1 ≤ B := by rw [← hBe]; have := hg1.size; rw [World.size_alloc] at this; exact this
  have HNe := Lib.hid hne
  have HS0 := Lib.hid (show St w b (w.heap.size + 1) B w.heap.size (B + 1) m ar cr ac cc (mm + 200) (.slice (some ⟨B + 1 + 1, 0, none⟩) 0 0) [] (((w1.alloc (.cells #[.int .i64 m.W, .int .i64 m.H, .slice ar m.R.length cr, .slice ac m.C.length cc] 26)).alloc (.cells #[.int .i64 31, .int .i64 32, .int .i64 34, .int .i64 41, .int .i64 43, .int .i64 45, .int .i64 54, .int .i64 60, .int .i64 77, .int .i64 99] 3)).alloc (.cells #[] 58)) from by
    have hA : Below w1.heap.size w1 (((w1.alloc (.cells #[.int .i64 m.W, .int .i64 m.H, .slice ar m.R.length cr, .slice ac m.C.length cc] 26)).alloc (.cells #[.int .i64 31, .int .i64 32, .int .i64 34, .int .i64 41, .int .i64 43, .int .i64 45, .int .i64 54, .int .i64 60, .int .i64 77, .int .i64 99] 3)).alloc (.cells #[] 58)) := (((Below.refl _ _).alloc (Nat.le_refl _) _).alloc (by simp) _).alloc (by simp; omega) _
    refine ⟨gtrans (gbelow HB.out _) (gtrans hg1 (gbelow hA _)), hok1.below hA, by omega, hsz, ?_, h1.below hA, h2.below hA, ?_, ?_, ?_, by omega, by omega⟩
    · rw [← hBe]
      exact ((Blk.new w1 26 #[.int .i64 m.W, .int .i64 m.H, .slice ar m.R.length cr, .slice ac m.C.length cc]).alloc _).alloc _
    · have e : ((w1.alloc (.cells #[.int .i64 m.W, .int .i64 m.H, .slice ar m.R.length cr, .slice ac m.C.length cc] 26)).alloc (.cells #[.int .i64 31, .int .i64 32, .int .i64 34, .int .i64 41, .int .i64 43, .int .i64 45, .int .i64 54, .int .i64 60, .int .i64 77, .int .i64 99] 3)).heap.size = B + 1 + 1 := by simp [hBe]
      rw [← e]
      exact World.ownsRow_made _ #[] 0 (by simp; omega) (Nat.zero_le _) rfl
    · exact (((blk_grown HQ0.out hg1 (by simp; omega)).alloc _).alloc _).alloc _
    · have h := (Blk.new (w1.alloc (.cells #[.int .i64 m.W, .int .i64 m.H, .slice ar m.R.length cr, .slice ac m.C.length cc] 26)) 3 #[.int .i64 31, .int .i64 32, .int .i64 34, .int .i64 41, .int .i64 43, .int .i64 45, .int .i64 54, .int .i64 60, .int .i64 77, .int .i64 99]).alloc (.cells #[] 58)
      simpa [hBe] using h)
  have hRm : m.R.length ≤ maxLen := by unfold maxLen; omega
  have hCm : m.C.length ≤ maxLen := by unfold maxLen; omega
  clear hok1 hg1 h1 h2 hne c1 HB HQ0
  go_upto_region 5 with (fail)
  generalize (((w1.alloc (.cells #[.int .i64 m.W, .int .i64 m.H, .slice ar m.R.length cr, .slice ac m.C.length cc] 26)).alloc (.cells #[.int .i64 31, .int .i64 32, .int .i64 34, .int .i64 41, .int .i64 43, .int .i64 45, .int .i64 54, .int .i64 60, .int .i64 77, .int .i64 99] 3)).alloc (.cells #[] 58)) = wa at *
  try rw [hBe]
  clear hBe
  go_wp2_with fail
  go_loopg [7, 6, 8, 9, 10] 10 (fun gk ii v _ _ _ wr => ∃ (i : Nat) (fs : List Ct), i ≤ 10 ∧ gk = 10 - i ∧ ii = .int .i64 i ∧ fs.length ≤ i ∧ St w b (w.heap.size + 1) B w.heap.size (B + 1) m ar cr ac cc (mm + 200 + 10 * i) v fs wr)
  case atStart => exact ⟨0, [], by omega, rfl, rfl, Nat.le_refl _, HS0.out⟩
  case round =>
    clear HS0
    obtain ⟨i, fs, hi, hgk, rfl, hfl, hS⟩ := hrel
    obtain ⟨a, cap, rfl, -, -⟩ := hS.L.slice
    have HS := Lib.hid hS
    clear hS
    by_cases hlt : i < 10
    · go_wp2_with fail
      refine (one_any b _ 2 _ (by omega) (by omega) (by omega) HS.out.ok).mono ?_
      rintro e w2 ⟨⟨t, rfl⟩, hok, hg⟩
      have HS2 := Lib.hid (HS.out.step hok hg)
      clear hok hg HS
      cases t with
      | true =>
        go_wp2_with fail
        go_roundg (10 - (i + 1))
        case measure => omega
        case rel => exact ⟨i + 1, fs, by omega, rfl, by go_num, by omega, HS2.out.mono (by omega)⟩
      | false =>
        obtain ⟨p0, p1, p2, p3, -⟩ := HS2.out.box.four
        go_wp2_with fail
        refine (open_any b _ m ar ac cr cc _ (by omega) hR hC HS2.out.rowR HS2.out.rowC HS2.out.nR HS2.out.nC HS2.out.ok).mono ?_
        rintro e w3 ⟨⟨z, rfl⟩, hok, hg⟩
        have HS3 := Lib.hid (HS2.out.step hok hg)
        clear hok hg HS2 p0 p1 p2 p3
        go_wp2_with fail
        go_loopg [10, 9] fs.length (fun gk2 jj tt wq => ∃ (j : Nat) (t : Bool), j ≤ fs.length ∧ gk2 = fs.length - j ∧ jj = .int .i64 j ∧ tt = .bool t ∧ wq = w3)
        case atStart => exact ⟨0, false, Nat.zero_le _, rfl, rfl, rfl, rfl⟩
        case round =>
          obtain ⟨j, t, hj, hgk2, rfl, rfl, hwq⟩ := hrel
          obtain rfl := hwq.symm
          have hfl2 : fs.length ≤ 10 := by omega
          by_cases hlt2 : j < fs.length
          · obtain ⟨b1, off, rfl, -, d0⟩ := (CtK.Own.row HS3.out.L).cells hlt2
            obtain ⟨y, hy⟩ : ∃ y, (CtK.at_ fs j).ce = y := ⟨_, rfl⟩
            rw [hy] at d0
            clear hy
            have hj0 : (0 : Int) ≤ (j : Int) := by omega
            have hj1 : (j : Int) < (fs.length : Int) := by omega
            obtain ⟨q, hq⟩ : ∃ q, (y == z) = q := ⟨_, rfl⟩
            cases t with
            | true =>
              clear hq
              go_wp2
              go_roundg (fs.length - (j + 1))
              case measure => omega
              case rel => exact ⟨j + 1, true, by omega, rfl, by go_num, rfl, rfl⟩
            | false =>
              go_wp2
              all_goals go_roundg (fs.length - (j + 1))
              all_goals first | omega | exact ⟨j + 1, _, by omega, rfl, by go_num, rfl, rfl⟩
          · obtain rfl : j = fs.length := by omega
            clear hlt2 hj hgk2
            go_upto_region 14 with (fail)
            go_cut [47] from 42 to 48 (fun s wx => ∃ q : Bool, s = .bool q ∧ St w b (w.heap.size + 1) B w.heap.size (B + 1) m ar cr ac cc (mm + 200 + 10 * i + 10) (.slice a fs.length cap) fs wx)
            case first =>
              cases t with
              | false =>
                go_wp2
                go_meet
                exact ⟨_, rfl, HS3.out.mono (by omega)⟩
              | true =>
                go_wp2_with fail
                refine (one_any b _ 40 _ (by omega) (by omega) (by omega) HS3.out.ok).mono ?_
                rintro e w4 ⟨⟨t, rfl⟩, hok, hg⟩
                have HS4 := Lib.hid (HS3.out.step hok hg)
                clear hok hg
                go_wp2
                go_meet
                exact ⟨_, rfl, HS4.out.mono (by omega)⟩
            case rest =>
            obtain ⟨q, rfl, hS4⟩ := hcut
            have HS4 := Lib.hid hS4
            clear hS4 HS3
            cases q with
            | false =>
              go_wp2_with fail
              go_roundg (10 - (i + 1))
              case measure => omega
              case rel => exact ⟨i + 1, fs, by omega, rfl, by go_num, by omega, HS4.out.mono (by omega)⟩
            | true =>
              obtain ⟨cv, hcv⟩ : ∃ cv : Int, (#[.int .i64 31, .int .i64 32, .int .i64 34, .int .i64 41, .int .i64 43, .int .i64 45, .int .i64 54, .int .i64 60, .int .i64 77, .int .i64 99] : Array Value)[i]? = some (.int .i64 cv) := by
                rcases (show i = 0 ∨ i = 1 ∨ i = 2 ∨ i = 3 ∨ i = 4 ∨ i = 5 ∨ i = 6 ∨ i = 7 ∨ i = 8 ∨ i = 9 by omega) with rfl | rfl | rfl | rfl | rfl | rfl | rfl | rfl | rfl | rfl
                all_goals exact ⟨_, rfl⟩
              have k0 := Bk.Blk.cell (show Bk.Blk _ _ _ _ from HS4.out.cd) i hcv
              have hown := HS4.out.L
              unfold CtK.Own at hown
              have HTa := Lib.hid (HS4.out.alloc (.cells #[.int .i64 cv, .int .i64 z] 58))
              have hsz4 : w.heap.size + 1 ≤ wc.heap.size := Nat.le_trans HS4.out.sB (Nat.le_of_lt HS4.out.box.lt)
              have hi0' : (0 : Int) ≤ (i : Int) := by omega
              have hi1' : (i : Int) < 10 := by omega
              clear hcv
              go_wp2_with (go_loud (at_builtin; (refine wpList_append_own _ rfl (.tmp 48) (.tmp 55) 40 rfl (w.heap.size + 1) 58 t0 (.agg #[.int .i64 (CtK.no).co, .int .i64 (CtK.no).ce]) 2 16 Try.underlying40 hi0 hz0 hz1 hz2 rfl (by decide) _ fs.length _ rfl (hown.alloc _) ⟨_, 0, none⟩ 1 1 (CtK.cells [⟨cv, z⟩]) rfl rfl (World.news_of_block (Blk.new _ _ _)) (CtK.cells_one [⟨cv, z⟩]) (by unfold maxLen; omega) (by omega) (by simp; omega) ?_; intro v' w3' hown3 hgr3 _; have HP := Lib.hid (HTa.out.put (x := ⟨cv, z⟩) (by omega) hown3 hgr3); clear hown3 hgr3)))
              go_roundg (10 - (i + 1))
              case measure => omega
              case rel => exact ⟨i + 1, fs ++ [⟨cv, z⟩], by omega, rfl, by go_num, by simp; omega, HP.out.mono (by omega)⟩
    · obtain rfl : i = 10 := by omega
      go_wp2_with fail
      refine (one_any b _ 32 _ (by omega) (by omega) (by omega) HS.out.ok).mono ?_
      rintro e w2 ⟨⟨t, rfl⟩, hok, hg⟩
      have HS2 := Lib.hid (HS.out.step hok hg)
      clear hok hg HS
      cases t with
      | false =>
        obtain ⟨r0, r1, r2, r3, l0, l1, l2, l3⟩ := HS2.out.res.four
        obtain ⟨p0, p1, p2, p3, -⟩ := HS2.out.box.four
        have hx1 := HS2.out.res.lt
        have hx2 := HS2.out.box.lt
        go_wp2
        refine bodyPost_ret (v := .tuple #[.agg #[.int .i64 m.W, .int .i64 m.H, .slice ar m.R.length cr, .slice ac m.C.length cc], .slice a fs.length cap]) (by simp [results, Try.results92, go_sem, r0, r1, r2, r3]) rfl ?_
        have hbz : Below w.heap.size w2 ((((w2.setCell ⟨w.heap.size, 0, none⟩ (.int .i64 m.W)).setCell ⟨w.heap.size, 1, none⟩ (.int .i64 m.H)).setCell ⟨w.heap.size, 2, none⟩ (.slice ar m.R.length cr)).setCell ⟨w.heap.size, 3, none⟩ (.slice ac m.C.length cc)) := by
          iterate 4 (refine Below.setCell ?_ (by simp) _)
          exact Below.refl _ _
        refine ⟨_, _, m, fs, rfl, ⟨ar, cr, ac, cc, rfl, ?_, ?_, HNe.out⟩, ?_, hR, hC, ?_, ok_belowB (HS2.out.ok.mono (by omega)) hbz hbl, grown_B HS2.out.g hbz (Nat.le_refl _)⟩
        · have h := HS2.out.r
          refine rebase (b := w.heap.size + 1) ?_ (by omega)
          iterate 4 (refine ownsRow_setCell_below ?_ (by show w.heap.size < _; omega) _)
          exact h
        · have h := HS2.out.c
          refine rebase (b := w.heap.size + 1) ?_ (by omega)
          iterate 4 (refine ownsRow_setCell_below ?_ (by show w.heap.size < _; omega) _)
          exact h
        · have h := HS2.out.L
          refine rebase (b := w.heap.size + 1) ?_ (by omega)
          iterate 4 (refine ownsRow_setCell_below ?_ (by show w.heap.size < _; omega) _)
          exact h
        · omega
      | true =>
        go_upto_region 17 with (fail)
        obtain ⟨p0, p1, p2, p3, -⟩ := HS2.out.box.four
        refine wp_region_noPanic ?_
        refine wp_region_held_drew (S := (fun Wx : World => Wx.cell? ⟨B, 0, none⟩ = some (.int .i64 m.W) ∧ Wx.cell? ⟨B, 1, none⟩ = some (.int .i64 m.H) ∧ Wx.cell? ⟨B, 2, none⟩ = some (.slice ar m.R.length cr) ∧ Wx.cell? ⟨B, 3, none⟩ = some (.slice ac m.C.length cc))) (by kernel_rfl) ⟨p0, p1, p2, p3⟩ (fun hHeld => ?_)
        refine wpAnyH_take (i := 0) (oi := _) (v := ?_) rfl (by kernel_rfl) (by kernel_rfl) (by kernel_rfl) (fun _ _ _ h => h) (Or.inl ⟨by rfl, ?_⟩) (by assumption) ?_; rotate_left; focus (intro W hSw; (try dsimp only at hSw); go_simp; (first | done | with_reducible rfl))
        (try simp only [List.getElem_toArray, List.getElem_cons_succ, List.getElem_cons_zero, Act.put, List.setIfInBounds_toArray, List.set_cons_zero, List.set_cons_succ])
        refine wpAnyH_take (i := 1) (oi := _) (v := ?_) rfl (by kernel_rfl) (by kernel_rfl) (by kernel_rfl) (fun _ _ _ h => h) (Or.inl ⟨by rfl, ?_⟩) (by assumption) ?_; rotate_left; focus (intro W hSw; (try dsimp only at hSw); go_simp; (first | done | with_reducible rfl))
        (try simp only [List.getElem_toArray, List.getElem_cons_succ, List.getElem_cons_zero, Act.put, List.setIfInBounds_toArray, List.set_cons_zero, List.set_cons_succ])
        refine wpAnyH_take (i := 3) (oi := _) (v := ?_) rfl (by kernel_rfl) (by kernel_rfl) (by kernel_rfl) (fun _ _ _ h => h) (Or.inl ⟨by rfl, ?_⟩) (by assumption) ?_; rotate_left; focus (intro W hSw; (try dsimp only at hSw); go_simp; (first | done | with_reducible rfl))
        (try simp only [List.getElem_toArray, List.getElem_cons_succ, List.getElem_cons_zero, Act.put, List.setIfInBounds_toArray, List.set_cons_zero, List.set_cons_succ])
        refine wpAnyH_take (i := 4) (oi := _) (v := ?_) rfl (by kernel_rfl) (by kernel_rfl) (by kernel_rfl) (fun _ _ _ h => h) (Or.inl ⟨by rfl, ?_⟩) (by assumption) ?_; rotate_left; focus (intro W hSw; (try dsimp only at hSw); go_simp; (first | done | with_reducible rfl))
        (try simp only [List.getElem_toArray, List.getElem_cons_succ, List.getElem_cons_zero, Act.put, List.setIfInBounds_toArray, List.set_cons_zero, List.set_cons_succ])
        refine wpAnyH_ready (rs := [2]) (by kernel_rfl) (by simp) ?_
        refine AllReadyH.cons (o := _) rfl (fun K hK => ?_) AllReadyH.nil
        go_simp
        go_at_call 134
        refine (code6_any b _ _ (by omega) HS2.out.drew.ok).mono ?_
        rintro e w3 ⟨⟨cv, rfl⟩, hok, hg⟩
        have HS3 := Lib.hid (HS2.out.drew.step hok hg)
        clear hok hg p0 p1 p2 p3
        obtain ⟨p0, p1, p2, p3, -⟩ := HS3.out.box.four
        go_wp2_with fail
        refine hK.out _ _ ⟨p0, p1, p2, p3⟩ (fun _ => ?_)
        clear hK K hHeld
        refine wpAnyH_ready (rs := [5]) (by kernel_rfl) (by simp) ?_
        refine AllReadyH.cons (o := _) rfl (fun K hK => ?_) AllReadyH.nil
        go_simp
        go_at_call 104
        refine (cell_any b _ m ar ac cr cc _ (by omega) hC HS3.out.ok).mono ?_
        rintro e w4 ⟨⟨z, rfl⟩, hok, hg⟩
        have HS4 := Lib.hid (HS3.out.step hok hg)
        clear hok hg p0 p1 p2 p3
        obtain ⟨p0, p1, p2, p3, -⟩ := HS4.out.box.four
        go_wp2_with fail
        refine hK.out _ _ ⟨p0, p1, p2, p3⟩ (fun _ => ?_)
        clear hK K p0 p1 p2 p3
        refine wpAnyH_take (i := 6) (oi := _) (v := ?_) rfl (by kernel_rfl) (by kernel_rfl) (by kernel_rfl) (fun _ _ _ h => h) (Or.inl ⟨by rfl, ?_⟩) (by assumption) ?_; rotate_left; focus (intro W hSw; (try dsimp only at hSw); go_simp; (first | done | with_reducible rfl))
        (try simp only [List.getElem_toArray, List.getElem_cons_succ, List.getElem_cons_zero, Act.put, List.setIfInBounds_toArray, List.set_cons_zero, List.set_cons_succ])
        refine wpAnyH_ready (rs := [7]) (by kernel_rfl) (by simp) ?_
        refine AllReadyH.cons (o := _) rfl (fun K hK => ?_) AllReadyH.nil
        go_simp
        have HTa := Lib.hid (HS4.out.alloc (.cells #[.int .i64 cv, .int .i64 z] 58))
        obtain ⟨p0, p1, p2, p3, -⟩ := HTa.out.box.four
        have HX := Lib.hid (Blk.new w4 58 #[.int .i64 cv, .int .i64 z])
        have hown := HTa.out.L
        unfold CtK.Own at hown
        have hszt : w.heap.size + 1 ≤ (w4.alloc (.cells #[.int .i64 cv, .int .i64 z] 58)).heap.size := Nat.le_trans HTa.out.sB (Nat.le_of_lt HTa.out.box.lt)
        refine hK.out _ _ ⟨p0, p1, p2, p3⟩ (fun _ => ?_)
        clear hK K p0 p1 p2 p3
        refine wpAnyH_ready (rs := [8]) (by kernel_rfl) (by simp) ?_
        refine AllReadyH.cons (o := _) rfl (fun K hK => ?_) AllReadyH.nil
        rw [if_pos (by rfl)]
        refine wp_append_own _ (.tmp 59) (.tmp 66) 40 rfl (w.heap.size + 1) 58 t0 (.agg #[.int .i64 (CtK.no).co, .int .i64 (CtK.no).ce]) 2 16 Try.underlying40 hi0 hz0 hz1 hz2 rfl (by decide) _ fs.length _ (by rfl) hown ⟨_, 0, none⟩ 1 1 (CtK.cells [⟨cv, z⟩]) (by (try simp only [Act.eval, Act.put]); rfl) rfl (World.news_of_block HX.out) (CtK.cells_one [⟨cv, z⟩]) (by unfold maxLen; omega) (by omega) hszt (fun v5 w5 hown3 hgr3 _ => ?_)
        have HP := Lib.hid (HTa.out.put (x := ⟨cv, z⟩) (by omega) hown3 hgr3)
        clear hown3 hgr3
        obtain ⟨p0, p1, p2, p3, -⟩ := HP.out.box.four
        (try simp only [Act.put, List.setIfInBounds_toArray, List.set_cons_zero, List.set_cons_succ])
        refine hK.out _ _ ⟨p0, p1, p2, p3⟩ (fun _ => ?_)
        clear hK K p0 p1 p2 p3
        refine wpAnyH_take (i := 9) (oi := _) (v := ?_) rfl (by kernel_rfl) (by kernel_rfl) (by kernel_rfl) (fun _ _ _ h => h) (Or.inl ⟨by rfl, ?_⟩) (by assumption) ?_; rotate_left; focus (intro W hSw; (try dsimp only at hSw); go_simp; (first | done | with_reducible rfl))
        (try simp only [List.getElem_toArray, List.getElem_cons_succ, List.getElem_cons_zero, Act.put, List.setIfInBounds_toArray, List.set_cons_zero, List.set_cons_succ])
        refine wpAnyH_done (by kernel_rfl) ?_ _
        refine NoPanic.normal ?_
        (try simp only [List.getElem_toArray, List.getElem_cons_succ, List.getElem_cons_zero, Act.put, List.setIfInBounds_toArray, List.set_cons_zero, List.set_cons_succ])
        obtain ⟨r0, r1, r2, r3, l0, l1, l2, l3⟩ := HP.out.res.four
        obtain ⟨p0, p1, p2, p3, -⟩ := HP.out.box.four
        have hx1 := HP.out.res.lt
        have hx2 := HP.out.box.lt
        go_wp2
        refine bodyPost_ret (v := .tuple #[.agg #[.int .i64 m.W, .int .i64 m.H, .slice ar m.R.length cr, .slice ac m.C.length cc], v5]) (by simp [results, Try.results92, go_sem, r0, r1, r2, r3]) rfl ?_
        have hbz : Below w.heap.size w5 ((((w5.setCell ⟨w.heap.size, 0, none⟩ (.int .i64 m.W)).setCell ⟨w.heap.size, 1, none⟩ (.int .i64 m.H)).setCell ⟨w.heap.size, 2, none⟩ (.slice ar m.R.length cr)).setCell ⟨w.heap.size, 3, none⟩ (.slice ac m.C.length cc)) := by
          iterate 4 (refine Below.setCell ?_ (by simp) _)
          exact Below.refl _ _
        refine ⟨_, _, m, fs ++ [⟨cv, z⟩], rfl, ⟨ar, cr, ac, cc, rfl, ?_, ?_, HNe.out⟩, ?_, hR, hC, ?_, ok_belowB (HP.out.ok.mono (by omega)) hbz hbl, grown_B HP.out.g hbz (Nat.le_refl _)⟩
        · have h := HP.out.r
          refine rebase (b := w.heap.size + 1) ?_ (by omega)
          iterate 4 (refine ownsRow_setCell_below ?_ (by show w.heap.size < _; omega) _)
          exact h
        · have h := HP.out.c
          refine rebase (b := w.heap.size + 1) ?_ (by omega)
          iterate 4 (refine ownsRow_setCell_below ?_ (by show w.heap.size < _; omega) _)
          exact h
        · have h := HP.out.L
          refine rebase (b := w.heap.size + 1) ?_ (by omega)
          iterate 4 (refine ownsRow_setCell_below ?_ (by show w.heap.size < _; omega) _)
          exact h
        · simp; omega

end Go.Proofs.Ytfpfnnindlfgfaa.CtSi
