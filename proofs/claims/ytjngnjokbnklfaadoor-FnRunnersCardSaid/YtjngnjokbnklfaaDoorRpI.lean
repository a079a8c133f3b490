/- A runner read from its text: the program; both. -/
import Derived.Test.YtjngnjokbnklfaaDoorRpS
namespace Go.Proofs.YtjngnjokbnklfaaDoor.RpI
open Go.RowKit Lb Bk InA Wd RuK RuI Fmt NumM RuT PfM PfI Rd RpM RpS SplC
open L1S (NewStrs)
set_option linter.unusedSimpArgs false
set_option linter.unusedVariables false

set_option maxRecDepth 20000 in
set_option maxHeartbeats 2000000 in
theorem impl_any (s : ByteArray) (hs : s.size ≤ 1048576) (w : World) (hG : Prs.Glob w) :
    Calls Tryd.prog 10 #[.string s] w fun e w' => e = .returned (.tuple #[.agg #[.int .i64 (ansR s).id, .string (ansR s).nm, .string (ansR s).cl, .int .i64 (ansR s).bo, .bool (ansR s).wo, .int .i64 (ansR s).ca], .bool (okS s)]) ∧ Below w.heap.size w w' := by
  have hB0 := Lib.hid ((Below.refl w.heap.size w).alloc (Nat.le_refl _) (.cells #[.int .i64 no.id, .string no.nm, .string no.cl, .int .i64 no.bo, .bool no.wo, .int .i64 no.ca] 25))
  have hK0 := Lib.hid (Blk.new w 25 #[.int .i64 no.id, .string no.nm, .string no.cl, .int .i64 no.bo, .bool no.wo, .int .i64 no.ca])
  have HIS := Lib.hid (mk_is hs)
  have HG := Lib.hid hG
  obtain ⟨r, hr⟩ : ∃ r, ansR s = r := ⟨_, rfl⟩
  obtain ⟨ok, hok⟩ : ∃ ok, okI s = ok := ⟨_, rfl⟩
  have HR := Lib.hid hr
  have HO := Lib.hid hok
  rw [← ok_same, hr, hok]
  clear hr hok hG
  by_cases h4 : s.size ≤ 4000
  case neg =>
    have h1 : ok = false := by rw [← HO.out]; unfold okI; rw [decide_eq_false (by omega)]; rfl
    have h2 : r = no := by rw [← HR.out]; unfold ansR; rw [← ok_same, HO.out, h1]; rfl
    subst h1 h2
    go_enter Tryd.func10, Tryd.ntmps10
    go_wp2_with fail
    refine (split_no s _ hs (by omega)).mono ?_
    rintro e w2 ⟨v, rfl, ho, hb2⟩
    have D2 := Lib.hid (hB0.out.trans (hb2.mono hB0.out.size))
    have K2 := Lib.hid (hK0.out.later hb2)
    clear hb2 ho hB0 hK0 h4
    obtain ⟨⟨b0, b1, b2, b3, b4, b5⟩, f0, f1, f2, f3, f4, f5⟩ := blk_cells K2.out
    go_wp2
    clear b0 b1 b2 b3 b4 b5 f0 f1 f2 f3 f4 f5
    have hz := blk_zero K2.out
    have HB9 := Lib.hid (D2.out.trans (hz.2 w.heap.size (Nat.le_refl _)))
    replace hz := hz.1
    generalize (((((World.setCell (World.setCell _ _ _) _ _).setCell _ _).setCell _ _).setCell _ _).setCell _ _) = w9 at *
    obtain ⟨⟨u0, u1, u2, u3, u4, u5⟩, -⟩ := blk_cells hz
    refine bodyPost_ret (v := .tuple #[.agg #[.int .i64 no.id, .string no.nm, .string no.cl, .int .i64 no.bo, .bool no.wo, .int .i64 no.ca], .bool false]) (by simp [results, Tryd.results10, go_sem, u0, u1, u2, u3, u4, u5]) rfl ⟨rfl, HB9.out⟩
  go_enter Tryd.func10, Tryd.ntmps10
  go_wp2_with fail
  refine (split_ok s _ h4).mono ?_
  rintro e w2 ⟨v, rfl, ho, hb2⟩
  have hwl := parts_length s 32
  have hwt := parts_total s 32
  have z0 := sAt_le (parts s 32) 0
  have z4 := sAt_le (parts s 32) 4
  have z7 := sAt_le (parts s 32) 7
  obtain ⟨ws, hws⟩ : ∃ ws, parts s 32 = ws := ⟨_, rfl⟩
  rw [hws] at ho hwl hwt z0 z4 z7
  obtain ⟨g2, c2, rfl, hr2, hc2⟩ := own_strs0 ho hwl.2
  have HWS := Lib.hid hws
  have D2 := Lib.hid (hB0.out.trans (hb2.mono hB0.out.size))
  have K2 := Lib.hid (hK0.out.later hb2)
  have R2 := Lib.hid hr2
  obtain ⟨n, hn⟩ : ∃ n, ws.length = n := ⟨_, rfl⟩
  have HN := Lib.hid hn
  rw [hn] at hwl hwt hc2 ⊢
  clear hb2 ho hr2 hws hB0 hK0 hn
  by_cases h6 : 6 ≤ n
  case neg =>
    have h1 : ok = false := by rw [← HO.out]; unfold okI; rw [HWS.out, HN.out, decide_eq_false (by omega)]; rfl
    have h2 : r = no := by rw [← HR.out]; unfold ansR; rw [← ok_same, HO.out, h1]; rfl
    have e6 : decide ((n : Int) < 6) = true := by simp; omega
    subst h1 h2
    clear hwl hwt z0 z4 z7 h6 h4
    obtain ⟨⟨b0, b1, b2, b3, b4, b5⟩, f0, f1, f2, f3, f4, f5⟩ := blk_cells K2.out
    go_wp2
    clear b0 b1 b2 b3 b4 b5 f0 f1 f2 f3 f4 f5
    have hz := blk_zero K2.out
    have HB9 := Lib.hid (D2.out.trans (hz.2 w.heap.size (Nat.le_refl _)))
    replace hz := hz.1
    generalize (((((World.setCell (World.setCell _ _ _) _ _).setCell _ _).setCell _ _).setCell _ _).setCell _ _) = w9 at *
    obtain ⟨⟨u0, u1, u2, u3, u4, u5⟩, -⟩ := blk_cells hz
    refine bodyPost_ret (v := .tuple #[.agg #[.int .i64 no.id, .string no.nm, .string no.cl, .int .i64 no.bo, .bool no.wo, .int .i64 no.ca], .bool false]) (by simp [results, Tryd.results10, go_sem, u0, u1, u2, u3, u4, u5]) rfl ⟨rfl, HB9.out⟩
  have e6 : decide ((n : Int) < 6) = false := by simp; omega
  have hlen := Lib.hid (show decide (s.size ≤ 4000 ∧ 6 ≤ (parts s 32).length) = true from decide_eq_true ⟨h4, by rw [HWS.out, HN.out]; exact h6⟩)
  have Z0 := Lib.hid (show (sAt ws 0).size ≤ 1048576 from by omega)
  have Z4 := Lib.hid (show (sAt ws 4).size ≤ 1048576 from by omega)
  have Z7 := Lib.hid (show (sAt ws 7).size ≤ 1048576 from by omega)
  have HM := Lib.hid (show canR s = ⟨(val (sAt ws 0)).getD 0, sAt ws 1, sAt ws 3, (val (sAt ws 4)).getD 0, decide (sAt ws 5 = RpM.wB), if n = 8 then (val (sAt ws 7)).getD 0 else 0⟩ from by unfold canR mk; rw [HWS.out, HN.out])
  obtain ⟨x0, hx0⟩ : ∃ x, sAt ws 0 = x := ⟨_, rfl⟩
  obtain ⟨x1, hx1⟩ : ∃ x, sAt ws 1 = x := ⟨_, rfl⟩
  obtain ⟨x3, hx3⟩ : ∃ x, sAt ws 3 = x := ⟨_, rfl⟩
  obtain ⟨x4, hx4⟩ : ∃ x, sAt ws 4 = x := ⟨_, rfl⟩
  obtain ⟨x5, hx5⟩ : ∃ x, sAt ws 5 = x := ⟨_, rfl⟩
  obtain ⟨x7, hx7⟩ : ∃ x, sAt ws 7 = x := ⟨_, rfl⟩
  obtain ⟨tw, htw⟩ : ∃ b, decide (x5 = RpM.wB) = b := ⟨_, rfl⟩
  have q5 : (x5.toList == [119]) = tw := by rw [wq, htw]
  obtain ⟨n0, hn0⟩ : ∃ z, (val x0).getD 0 = z := ⟨_, rfl⟩
  obtain ⟨n4, hn4⟩ : ∃ z, (val x4).getD 0 = z := ⟨_, rfl⟩
  obtain ⟨n7, hn7⟩ : ∃ z, (val x7).getD 0 = z := ⟨_, rfl⟩
  rw [hx0] at Z0
  rw [hx4] at Z4
  rw [hx7] at Z7
  rw [hx0, hx1, hx3, hx4, hx5, hx7, htw, hn0, hn4, hn7] at HM
  have HX1 := Lib.hid hx1
  have HX3 := Lib.hid hx3
  have HX4 := Lib.hid hx4
  have HX5 := Lib.hid hx5
  have HX7 := Lib.hid hx7
  have HN0 := Lib.hid hn0
  have HN4 := Lib.hid hn4
  have HN7 := Lib.hid hn7
  have d0 := row_at R2.out 0 (by rw [HN.out]; omega)
  rw [hx0] at d0
  have hn0' : (0 : Int) < (n : Int) := by omega
  have hn1' : (1 : Int) < (n : Int) := by omega
  have hn3' : (3 : Int) < (n : Int) := by omega
  have hn4' : (4 : Int) < (n : Int) := by omega
  have hn5' : (5 : Int) < (n : Int) := by omega
  clear hwl hwt z0 z4 z7 hx0 hx1 hx3 hx4 hx5 hx7 htw hn0 hn4 hn7 h4
  go_wp2_with fail
  clear d0
  refine (Prs.implParse_any x0 _ (Prs.Glob.below HG.out D2.out) Z0.out).mono ?_
  rintro e w3 ⟨he, hb⟩
  unfold RdPost at he
  rw [HN0.out] at he
  subst he
  have D3 := Lib.hid (D2.out.trans (hb.mono D2.out.size))
  have K3 := Lib.hid (K2.out.later hb)
  have R3 := Lib.hid (RowAt.below R2.out hb)
  obtain ⟨o0, ho0⟩ : ∃ b, (val x0).isSome = b := ⟨_, rfl⟩
  rw [ho0]
  clear hb ho0 D2 K2 R2
  have d4 := row_at R3.out 4 (by rw [HN.out]; omega)
  rw [HX4.out] at d4
  go_wp2_with fail
  clear d4
  refine (Prs.implParse_any x4 _ (Prs.Glob.below HG.out D3.out) Z4.out).mono ?_
  rintro e w4 ⟨he, hb⟩
  unfold RdPost at he
  rw [HN4.out] at he
  subst he
  have D4 := Lib.hid (D3.out.trans (hb.mono D3.out.size))
  have K4 := Lib.hid (K3.out.later hb)
  have R4 := Lib.hid (RowAt.below R3.out hb)
  obtain ⟨o4, ho4⟩ : ∃ b, (val x4).isSome = b := ⟨_, rfl⟩
  rw [ho4]
  clear hb ho4 D3 K3 R3
  by_cases h8 : n = 8
  · have HM := Lib.hid (show canR s = ⟨n0, x1, x3, n4, tw, n7⟩ from by rw [HM.out, if_pos h8])
    have e8 : ((n : Int) == 8) = true := by simp; omega
    have hn7' : (7 : Int) < (n : Int) := by omega
    clear h8
    have d1 := row_at R4.out 1 (by rw [HN.out]; omega)
    have d3 := row_at R4.out 3 (by rw [HN.out]; omega)
    have d5 := row_at R4.out 5 (by rw [HN.out]; omega)
    rw [HX1.out] at d1
    rw [HX3.out] at d3
    rw [HX5.out] at d5
    go_upto_region 6 with (fail)
    have hg2 : g2 < w4.heap.size := World.block_lt_of_cell? w4 _ d1
    have HBK := Lib.hid K4.out.lt
    have HZ := Lib.hid (Blk.new w4.drew 25 #[.int .i64 no.id, .string no.nm, .string no.cl, .int .i64 no.bo, .bool no.wo, .int .i64 no.ca])
    have HBz := Lib.hid ((Below.refl w4.heap.size w4).drew.alloc (Nat.le_refl _) (.cells #[.int .i64 no.id, .string no.nm, .string no.cl, .int .i64 no.bo, .bool no.wo, .int .i64 no.ca] 25))
    refine wp_region_noPanic ?_
    refine wp_region_held_drew (S := (fun Wx : World => Wx.cell? ⟨g2, 1, none⟩ = some (.string x1) ∧ Wx.cell? ⟨g2, 3, none⟩ = some (.string x3) ∧ Wx.cell? ⟨g2, 5, none⟩ = some (.string x5))) (by kernel_rfl) ⟨d1, d3, d5⟩ (fun hHeld => ?_)
    refine wpAnyH_take (i := 0) (oi := _) (v := ?_) rfl (by kernel_rfl) (by kernel_rfl) (by kernel_rfl) (fun _ _ _ h => h) (Or.inl ⟨by rfl, ?_⟩) (by assumption) ?_; rotate_left; focus (intro W hSw; (try dsimp only at hSw); go_simp; (first | done | with_reducible rfl))
    (try simp only [List.getElem_toArray, List.getElem_cons_succ, List.getElem_cons_zero, Act.put, List.setIfInBounds_toArray, List.set_cons_zero, List.set_cons_succ])
    refine wpAnyH_take (i := 1) (oi := _) (v := ?_) rfl (by kernel_rfl) (by kernel_rfl) (by kernel_rfl) (fun _ _ _ h => h) (Or.inl ⟨by rfl, ?_⟩) (by assumption) ?_; rotate_left; focus (intro W hSw; (try dsimp only at hSw); go_simp; (first | done | with_reducible rfl))
    (try simp only [List.getElem_toArray, List.getElem_cons_succ, List.getElem_cons_zero, Act.put, List.setIfInBounds_toArray, List.set_cons_zero, List.set_cons_succ])
    refine wpAnyH_take (i := 2) (oi := _) (v := ?_) rfl (by kernel_rfl) (by kernel_rfl) (by kernel_rfl) (fun _ _ _ h => h) (Or.inl ⟨by rfl, ?_⟩) (by assumption) ?_; rotate_left; focus (intro W hSw; (try dsimp only at hSw); go_simp; (first | done | with_reducible rfl))
    (try simp only [List.getElem_toArray, List.getElem_cons_succ, List.getElem_cons_zero, Act.put, List.setIfInBounds_toArray, List.set_cons_zero, List.set_cons_succ])
    refine wpAnyH_take (i := 3) (oi := _) (v := ?_) rfl (by kernel_rfl) (by kernel_rfl) (by kernel_rfl) (fun _ _ _ h => h) (Or.inl ⟨by rfl, ?_⟩) (by assumption) ?_; rotate_left; focus (intro W hSw; (try dsimp only at hSw); go_simp; (first | done | with_reducible rfl))
    (try simp only [List.getElem_toArray, List.getElem_cons_succ, List.getElem_cons_zero, Act.put, List.setIfInBounds_toArray, List.set_cons_zero, List.set_cons_succ])
    refine wpAnyH_take (i := 4) (oi := _) (v := ?_) rfl (by kernel_rfl) (by kernel_rfl) (by kernel_rfl) (fun _ _ _ h => h) (Or.inl ⟨by rfl, ?_⟩) (by assumption) ?_; rotate_left; focus (intro W hSw; (try dsimp only at hSw); go_simp; (first | done | with_reducible rfl))
    (try simp only [List.getElem_toArray, List.getElem_cons_succ, List.getElem_cons_zero, Act.put, List.setIfInBounds_toArray, List.set_cons_zero, List.set_cons_succ])
    refine wpAnyH_take (i := 5) (oi := _) (v := ?_) rfl (by kernel_rfl) (by kernel_rfl) (by kernel_rfl) (fun _ _ _ h => h) (Or.inl ⟨by rfl, ?_⟩) (by assumption) ?_; rotate_left; focus (intro W hSw; (try dsimp only at hSw); go_simp; (first | done | with_reducible rfl))
    (try simp only [List.getElem_toArray, List.getElem_cons_succ, List.getElem_cons_zero, Act.put, List.setIfInBounds_toArray, List.set_cons_zero, List.set_cons_succ])
    refine wpAnyH_take (i := 6) (oi := _) (v := ?_) rfl (by kernel_rfl) (by kernel_rfl) (by kernel_rfl) (fun _ _ _ h => h) (Or.inl ⟨by rfl, ?_⟩) (by assumption) ?_; rotate_left; focus (intro W hSw; (try dsimp only at hSw); go_simp; (first | done | with_reducible rfl))
    (try simp only [List.getElem_toArray, List.getElem_cons_succ, List.getElem_cons_zero, Act.put, List.setIfInBounds_toArray, List.set_cons_zero, List.set_cons_succ])
    refine wpAnyH_take (i := 7) (oi := _) (v := ?_) rfl (by kernel_rfl) (by kernel_rfl) (by kernel_rfl) (fun _ _ _ h => h) (Or.inl ⟨by rfl, ?_⟩) (by assumption) ?_; rotate_left; focus (intro W hSw; (try dsimp only at hSw); go_simp; (first | done | with_reducible rfl))
    (try simp only [List.getElem_toArray, List.getElem_cons_succ, List.getElem_cons_zero, Act.put, List.setIfInBounds_toArray, List.set_cons_zero, List.set_cons_succ])
    refine wpAnyH_take (i := 8) (oi := _) (v := ?_) rfl (by kernel_rfl) (by kernel_rfl) (by kernel_rfl) (fun _ _ _ h => h) (Or.inl ⟨by rfl, ?_⟩) (by assumption) ?_; rotate_left; focus (intro W hSw; (try dsimp only at hSw); go_simp; (first | done | with_reducible rfl))
    (try simp only [List.getElem_toArray, List.getElem_cons_succ, List.getElem_cons_zero, Act.put, List.setIfInBounds_toArray, List.set_cons_zero, List.set_cons_succ])
    refine wpAnyH_take (i := 9) (oi := _) (v := ?_) rfl (by kernel_rfl) (by kernel_rfl) (by kernel_rfl) (fun _ _ _ h => h) (Or.inl ⟨by rfl, ?_⟩) (by assumption) ?_; rotate_left; focus (intro W hSw; (try dsimp only at hSw); go_simp; (first | done | with_reducible rfl))
    (try simp only [List.getElem_toArray, List.getElem_cons_succ, List.getElem_cons_zero, Act.put, List.setIfInBounds_toArray, List.set_cons_zero, List.set_cons_succ])
    refine wpAnyH_take (i := 10) (oi := _) (v := ?_) rfl (by kernel_rfl) (by kernel_rfl) (by kernel_rfl) (fun _ _ _ h => h) (Or.inl ⟨by rfl, ?_⟩) (by assumption) ?_; rotate_left; focus (intro W hSw; (try dsimp only at hSw); go_simp; (first | done | with_reducible rfl))
    (try simp only [List.getElem_toArray, List.getElem_cons_succ, List.getElem_cons_zero, Act.put, List.setIfInBounds_toArray, List.set_cons_zero, List.set_cons_succ])
    refine wpAnyH_take (i := 11) (oi := _) (v := ?_) rfl (by kernel_rfl) (by kernel_rfl) (by kernel_rfl) (fun _ _ _ h => h) (Or.inl ⟨by rfl, ?_⟩) (by assumption) ?_; rotate_left; focus (intro W hSw; (try dsimp only at hSw); go_simp; (first | done | with_reducible rfl))
    (try simp only [List.getElem_toArray, List.getElem_cons_succ, List.getElem_cons_zero, Act.put, List.setIfInBounds_toArray, List.set_cons_zero, List.set_cons_succ])
    refine wpAnyH_take (i := 12) (oi := _) (v := ?_) rfl (by kernel_rfl) (by kernel_rfl) (by kernel_rfl) (fun _ _ _ h => h) (Or.inl ⟨by rfl, ?_⟩) (by assumption) ?_; rotate_left; focus (intro W hSw; (try dsimp only at hSw); go_simp; (first | done | with_reducible rfl))
    (try simp only [List.getElem_toArray, List.getElem_cons_succ, List.getElem_cons_zero, Act.put, List.setIfInBounds_toArray, List.set_cons_zero, List.set_cons_succ])
    refine wpAnyH_ready (rs := [13]) (by kernel_rfl) (by simp) ?_
    refine AllReadyH.cons (o := _) rfl (fun K hK => ?_) AllReadyH.nil
    go_simp
    refine hK.out _ _ ⟨(HBz.out.cell hg2).trans d1, (HBz.out.cell hg2).trans d3, (HBz.out.cell hg2).trans d5⟩ (fun hsA => ?_)
    clear hK K hHeld
    have hst := blk_stored HZ.out (⟨n0, x1, x3, n4, tw, 0⟩ : Ru)
    have HB5 := Lib.hid (HBz.out.trans (hst.2 w4.heap.size (Nat.le_refl _)))
    refine wpAnyH_ready (rs := [14]) (by kernel_rfl) (by simp) ?_
    refine AllReadyH.cons (o := _) rfl (fun K hK => ?_) AllReadyH.nil
    rw [if_pos (by rfl)]
    refine wp_store_mid _ _ _ rfl w4.heap.size 0 #[.int .i64 ((⟨n0,x1,x3,n4,tw,0⟩:Ru)).id, .string ((⟨n0,x1,x3,n4,tw,0⟩:Ru)).nm, .string ((⟨n0,x1,x3,n4,tw,0⟩:Ru)).cl, .int .i64 ((⟨n0,x1,x3,n4,tw,0⟩:Ru)).bo, .bool ((⟨n0,x1,x3,n4,tw,0⟩:Ru)).wo, .int .i64 ((⟨n0,x1,x3,n4,tw,0⟩:Ru)).ca] rfl rfl (RuK.blk_there HZ.out) RuK.size (RuK.one_cell (⟨n0,x1,x3,n4,tw,0⟩:Ru)) ?_
    (try simp only [Act.put, List.setIfInBounds_toArray, List.set_cons_zero, List.set_cons_succ, List.toList_toArray])
    refine hK.out _ _ ⟨(HB5.out.cell hg2).trans d1, (HB5.out.cell hg2).trans d3, (HB5.out.cell hg2).trans d5⟩ (fun hsB => ?_)
    clear hK K
    refine wpAnyH_done (by kernel_rfl) ?_ _
    refine NoPanic.normal ?_
    (try simp only [List.getElem_toArray, List.getElem_cons_succ, List.getElem_cons_zero, Act.put, List.setIfInBounds_toArray, List.set_cons_zero, List.set_cons_succ])
    generalize hW5 : World.setCells _ _ _ _ = w5
    have HP9 := Lib.hid (show PS w w4 w5 ws g2 (⟨n0, x1, x3, n4, tw, 0⟩ : Ru) from by
      rw [← hW5]
      exact ⟨D4.out.trans (HB5.out.mono D4.out.size), hst.1, K4.out.later HB5.out, RowAt.below R4.out HB5.out, HBK.out, hg2⟩)
    clear hst HZ HBz d1 d3 d5 HB5 hg2 HBK R4 K4 D4 hsA hsB hW5
    have d7 := row_at HP9.out.R 7 (by rw [HN.out]; omega)
    rw [HX7.out] at d7
    go_wp2_with fail
    clear d7
    refine (Prs.implParse_any x7 _ (Prs.Glob.below HG.out HP9.out.D) Z7.out).mono ?_
    rintro e w10 ⟨he, hb⟩
    unfold RdPost at he
    rw [HN7.out] at he
    subst he
    have HP10 := Lib.hid (HP9.out.later hb)
    obtain ⟨o7, ho7⟩ : ∃ b, (val x7).isSome = b := ⟨_, rfl⟩
    rw [ho7]
    clear hb ho7 HP9
    obtain ⟨⟨-, -, -, -, -, c5⟩, -, -, -, -, -, y5⟩ := blk_cells HP10.out.K
    go_upto_region 9 with (fail)
    generalize hWa : World.setCell _ _ _ = wa
    have HPa := Lib.hid (show PS w w4 wa ws g2 (⟨n0, x1, x3, n4, tw, n7⟩ : Ru) from by rw [← hWa]; exact HP10.out.set5 n7)
    clear c5 y5 HP10 hWa
    obtain ⟨m, hm⟩ : ∃ m, canR s = m := ⟨_, rfl⟩
    have HMq := Lib.hid hm
    have HPm := Lib.hid (show PS w w4 wa ws g2 m from by rw [← hm, HM.out]; exact HPa.out)
    have HIm := Lib.hid (show Is m from by rw [← hm]; exact HIS.out)
    clear hm HPa
    obtain ⟨⟨p0, p1, p2, p3, p4, p5⟩, -⟩ := blk_cells HPm.out.K
    go_wp2_with fail
    clear p0 p1 p2 p3 p4 p5
    refine (RuQ.impl_any m HIm.out _ (Prs.Glob.below HG.out HPm.out.D).tab).mono ?_
    rintro e wc ⟨rfl, hb⟩
    have HPc := Lib.hid (HPm.out.later hb)
    clear hb HPm
    obtain ⟨⟨p0, p1, p2, p3, p4, p5⟩, -⟩ := blk_cells HPc.out.K
    obtain ⟨⟨b0, b1, b2, b3, b4, b5⟩, f0, f1, f2, f3, f4, f5⟩ := blk_cells HPc.out.Q
    by_cases hok : okR m = true
    · have HOK := Lib.hid hok
      have hrt : rtx m = txR m := by unfold rtx; rw [hok]; rfl
      rw [hok, hrt]
      clear hok hrt
      by_cases htx : txR m = s
      · have h1 : ok = true := by rw [← HO.out]; unfold okI; rw [hlen.out, HMq.out, HOK.out, decide_eq_true htx]; rfl
        have h2 : r = m := by rw [← HR.out]; unfold ansR; rw [← ok_same, HO.out, h1]; exact HMq.out
        have hq : ((txR m).toList == s.toList) = true := by rw [htx]; simp
        subst h1 h2
        clear htx
        have hgl := HPc.out.lt
        go_wp2
        clear p0 p1 p2 p3 p4 p5
        clear b0 b1 b2 b3 b4 b5 f0 f1 f2 f3 f4 f5
        have hz := blk_all HPc.out.Q r
        have HB9 := Lib.hid (HPc.out.D.trans (hz.2 w.heap.size (Nat.le_refl _)))
        replace hz := hz.1
        generalize (((((World.setCell (World.setCell _ _ _) _ _).setCell _ _).setCell _ _).setCell _ _).setCell _ _) = w9 at *
        obtain ⟨⟨u0, u1, u2, u3, u4, u5⟩, -⟩ := blk_cells hz
        refine bodyPost_ret (v := .tuple #[.agg #[.int .i64 r.id, .string r.nm, .string r.cl, .int .i64 r.bo, .bool r.wo, .int .i64 r.ca], .bool true]) (by simp [results, Tryd.results10, go_sem, u0, u1, u2, u3, u4, u5]) rfl ⟨rfl, HB9.out⟩
      · have h1 : ok = false := by rw [← HO.out]; unfold okI; rw [HMq.out, decide_eq_false htx]; simp
        have h2 : r = no := by rw [← HR.out]; unfold ansR; rw [← ok_same, HO.out, h1]; rfl
        have hq := str_beq htx
        subst h1 h2
        clear htx
        go_wp2
        clear p0 p1 p2 p3 p4 p5
        clear b0 b1 b2 b3 b4 b5 f0 f1 f2 f3 f4 f5
        have hz := blk_zero HPc.out.Q
        have HB9 := Lib.hid (HPc.out.D.trans (hz.2 w.heap.size (Nat.le_refl _)))
        replace hz := hz.1
        generalize (((((World.setCell (World.setCell _ _ _) _ _).setCell _ _).setCell _ _).setCell _ _).setCell _ _) = w9 at *
        obtain ⟨⟨u0, u1, u2, u3, u4, u5⟩, -⟩ := blk_cells hz
        refine bodyPost_ret (v := .tuple #[.agg #[.int .i64 no.id, .string no.nm, .string no.cl, .int .i64 no.bo, .bool no.wo, .int .i64 no.ca], .bool false]) (by simp [results, Tryd.results10, go_sem, u0, u1, u2, u3, u4, u5]) rfl ⟨rfl, HB9.out⟩
    · have hok' : okR m = false := by simpa using hok
      have h1 : ok = false := by rw [← HO.out]; unfold okI; rw [HMq.out, hok']; simp
      have h2 : r = no := by rw [← HR.out]; unfold ansR; rw [← ok_same, HO.out, h1]; rfl
      subst h1 h2
      rw [hok']
      clear hok hok'
      go_wp2
      clear p0 p1 p2 p3 p4 p5
      clear b0 b1 b2 b3 b4 b5 f0 f1 f2 f3 f4 f5
      have hz := blk_zero HPc.out.Q
      have HB9 := Lib.hid (HPc.out.D.trans (hz.2 w.heap.size (Nat.le_refl _)))
      replace hz := hz.1
      generalize (((((World.setCell (World.setCell _ _ _) _ _).setCell _ _).setCell _ _).setCell _ _).setCell _ _) = w9 at *
      obtain ⟨⟨u0, u1, u2, u3, u4, u5⟩, -⟩ := blk_cells hz
      refine bodyPost_ret (v := .tuple #[.agg #[.int .i64 no.id, .string no.nm, .string no.cl, .int .i64 no.bo, .bool no.wo, .int .i64 no.ca], .bool false]) (by simp [results, Tryd.results10, go_sem, u0, u1, u2, u3, u4, u5]) rfl ⟨rfl, HB9.out⟩
  · have HM := Lib.hid (show canR s = ⟨n0, x1, x3, n4, tw, 0⟩ from by rw [HM.out, if_neg h8])
    have e8 : ((n : Int) == 8) = false := by simp; omega
    clear h8
    have d1 := row_at R4.out 1 (by rw [HN.out]; omega)
    have d3 := row_at R4.out 3 (by rw [HN.out]; omega)
    have d5 := row_at R4.out 5 (by rw [HN.out]; omega)
    rw [HX1.out] at d1
    rw [HX3.out] at d3
    rw [HX5.out] at d5
    go_upto_region 6 with (fail)
    have hg2 : g2 < w4.heap.size := World.block_lt_of_cell? w4 _ d1
    have HBK := Lib.hid K4.out.lt
    have HZ := Lib.hid (Blk.new w4.drew 25 #[.int .i64 no.id, .string no.nm, .string no.cl, .int .i64 no.bo, .bool no.wo, .int .i64 no.ca])
    have HBz := Lib.hid ((Below.refl w4.heap.size w4).drew.alloc (Nat.le_refl _) (.cells #[.int .i64 no.id, .string no.nm, .string no.cl, .int .i64 no.bo, .bool no.wo, .int .i64 no.ca] 25))
    refine wp_region_noPanic ?_
    refine wp_region_held_drew (S := (fun Wx : World => Wx.cell? ⟨g2, 1, none⟩ = some (.string x1) ∧ Wx.cell? ⟨g2, 3, none⟩ = some (.string x3) ∧ Wx.cell? ⟨g2, 5, none⟩ = some (.string x5))) (by kernel_rfl) ⟨d1, d3, d5⟩ (fun hHeld => ?_)
    refine wpAnyH_take (i := 0) (oi := _) (v := ?_) rfl (by kernel_rfl) (by kernel_rfl) (by kernel_rfl) (fun _ _ _ h => h) (Or.inl ⟨by rfl, ?_⟩) (by assumption) ?_; rotate_left; focus (intro W hSw; (try dsimp only at hSw); go_simp; (first | done | with_reducible rfl))
    (try simp only [List.getElem_toArray, List.getElem_cons_succ, List.getElem_cons_zero, Act.put, List.setIfInBounds_toArray, List.set_cons_zero, List.set_cons_succ])
    refine wpAnyH_take (i := 1) (oi := _) (v := ?_) rfl (by kernel_rfl) (by kernel_rfl) (by kernel_rfl) (fun _ _ _ h => h) (Or.inl ⟨by rfl, ?_⟩) (by assumption) ?_; rotate_left; focus (intro W hSw; (try dsimp only at hSw); go_simp; (first | done | with_reducible rfl))
    (try simp only [List.getElem_toArray, List.getElem_cons_succ, List.getElem_cons_zero, Act.put, List.setIfInBounds_toArray, List.set_cons_zero, List.set_cons_succ])
    refine wpAnyH_take (i := 2) (oi := _) (v := ?_) rfl (by kernel_rfl) (by kernel_rfl) (by kernel_rfl) (fun _ _ _ h => h) (Or.inl ⟨by rfl, ?_⟩) (by assumption) ?_; rotate_left; focus (intro W hSw; (try dsimp only at hSw); go_simp; (first | done | with_reducible rfl))
    (try simp only [List.getElem_toArray, List.getElem_cons_succ, List.getElem_cons_zero, Act.put, List.setIfInBounds_toArray, List.set_cons_zero, List.set_cons_succ])
    refine wpAnyH_take (i := 3) (oi := _) (v := ?_) rfl (by kernel_rfl) (by kernel_rfl) (by kernel_rfl) (fun _ _ _ h => h) (Or.inl ⟨by rfl, ?_⟩) (by assumption) ?_; rotate_left; focus (intro W hSw; (try dsimp only at hSw); go_simp; (first | done | with_reducible rfl))
    (try simp only [List.getElem_toArray, List.getElem_cons_succ, List.getElem_cons_zero, Act.put, List.setIfInBounds_toArray, List.set_cons_zero, List.set_cons_succ])
    refine wpAnyH_take (i := 4) (oi := _) (v := ?_) rfl (by kernel_rfl) (by kernel_rfl) (by kernel_rfl) (fun _ _ _ h => h) (Or.inl ⟨by rfl, ?_⟩) (by assumption) ?_; rotate_left; focus (intro W hSw; (try dsimp only at hSw); go_simp; (first | done | with_reducible rfl))
    (try simp only [List.getElem_toArray, List.getElem_cons_succ, List.getElem_cons_zero, Act.put, List.setIfInBounds_toArray, List.set_cons_zero, List.set_cons_succ])
    refine wpAnyH_take (i := 5) (oi := _) (v := ?_) rfl (by kernel_rfl) (by kernel_rfl) (by kernel_rfl) (fun _ _ _ h => h) (Or.inl ⟨by rfl, ?_⟩) (by assumption) ?_; rotate_left; focus (intro W hSw; (try dsimp only at hSw); go_simp; (first | done | with_reducible rfl))
    (try simp only [List.getElem_toArray, List.getElem_cons_succ, List.getElem_cons_zero, Act.put, List.setIfInBounds_toArray, List.set_cons_zero, List.set_cons_succ])
    refine wpAnyH_take (i := 6) (oi := _) (v := ?_) rfl (by kernel_rfl) (by kernel_rfl) (by kernel_rfl) (fun _ _ _ h => h) (Or.inl ⟨by rfl, ?_⟩) (by assumption) ?_; rotate_left; focus (intro W hSw; (try dsimp only at hSw); go_simp; (first | done | with_reducible rfl))
    (try simp only [List.getElem_toArray, List.getElem_cons_succ, List.getElem_cons_zero, Act.put, List.setIfInBounds_toArray, List.set_cons_zero, List.set_cons_succ])
    refine wpAnyH_take (i := 7) (oi := _) (v := ?_) rfl (by kernel_rfl) (by kernel_rfl) (by kernel_rfl) (fun _ _ _ h => h) (Or.inl ⟨by rfl, ?_⟩) (by assumption) ?_; rotate_left; focus (intro W hSw; (try dsimp only at hSw); go_simp; (first | done | with_reducible rfl))
    (try simp only [List.getElem_toArray, List.getElem_cons_succ, List.getElem_cons_zero, Act.put, List.setIfInBounds_toArray, List.set_cons_zero, List.set_cons_succ])
    refine wpAnyH_take (i := 8) (oi := _) (v := ?_) rfl (by kernel_rfl) (by kernel_rfl) (by kernel_rfl) (fun _ _ _ h => h) (Or.inl ⟨by rfl, ?_⟩) (by assumption) ?_; rotate_left; focus (intro W hSw; (try dsimp only at hSw); go_simp; (first | done | with_reducible rfl))
    (try simp only [List.getElem_toArray, List.getElem_cons_succ, List.getElem_cons_zero, Act.put, List.setIfInBounds_toArray, List.set_cons_zero, List.set_cons_succ])
    refine wpAnyH_take (i := 9) (oi := _) (v := ?_) rfl (by kernel_rfl) (by kernel_rfl) (by kernel_rfl) (fun _ _ _ h => h) (Or.inl ⟨by rfl, ?_⟩) (by assumption) ?_; rotate_left; focus (intro W hSw; (try dsimp only at hSw); go_simp; (first | done | with_reducible rfl))
    (try simp only [List.getElem_toArray, List.getElem_cons_succ, List.getElem_cons_zero, Act.put, List.setIfInBounds_toArray, List.set_cons_zero, List.set_cons_succ])
    refine wpAnyH_take (i := 10) (oi := _) (v := ?_) rfl (by kernel_rfl) (by kernel_rfl) (by kernel_rfl) (fun _ _ _ h => h) (Or.inl ⟨by rfl, ?_⟩) (by assumption) ?_; rotate_left; focus (intro W hSw; (try dsimp only at hSw); go_simp; (first | done | with_reducible rfl))
    (try simp only [List.getElem_toArray, List.getElem_cons_succ, List.getElem_cons_zero, Act.put, List.setIfInBounds_toArray, List.set_cons_zero, List.set_cons_succ])
    refine wpAnyH_take (i := 11) (oi := _) (v := ?_) rfl (by kernel_rfl) (by kernel_rfl) (by kernel_rfl) (fun _ _ _ h => h) (Or.inl ⟨by rfl, ?_⟩) (by assumption) ?_; rotate_left; focus (intro W hSw; (try dsimp only at hSw); go_simp; (first | done | with_reducible rfl))
    (try simp only [List.getElem_toArray, List.getElem_cons_succ, List.getElem_cons_zero, Act.put, List.setIfInBounds_toArray, List.set_cons_zero, List.set_cons_succ])
    refine wpAnyH_take (i := 12) (oi := _) (v := ?_) rfl (by kernel_rfl) (by kernel_rfl) (by kernel_rfl) (fun _ _ _ h => h) (Or.inl ⟨by rfl, ?_⟩) (by assumption) ?_; rotate_left; focus (intro W hSw; (try dsimp only at hSw); go_simp; (first | done | with_reducible rfl))
    (try simp only [List.getElem_toArray, List.getElem_cons_succ, List.getElem_cons_zero, Act.put, List.setIfInBounds_toArray, List.set_cons_zero, List.set_cons_succ])
    refine wpAnyH_ready (rs := [13]) (by kernel_rfl) (by simp) ?_
    refine AllReadyH.cons (o := _) rfl (fun K hK => ?_) AllReadyH.nil
    go_simp
    refine hK.out _ _ ⟨(HBz.out.cell hg2).trans d1, (HBz.out.cell hg2).trans d3, (HBz.out.cell hg2).trans d5⟩ (fun hsA => ?_)
    clear hK K hHeld
    have hst := blk_stored HZ.out (⟨n0, x1, x3, n4, tw, 0⟩ : Ru)
    have HB5 := Lib.hid (HBz.out.trans (hst.2 w4.heap.size (Nat.le_refl _)))
    refine wpAnyH_ready (rs := [14]) (by kernel_rfl) (by simp) ?_
    refine AllReadyH.cons (o := _) rfl (fun K hK => ?_) AllReadyH.nil
    rw [if_pos (by rfl)]
    refine wp_store_mid _ _ _ rfl w4.heap.size 0 #[.int .i64 ((⟨n0,x1,x3,n4,tw,0⟩:Ru)).id, .string ((⟨n0,x1,x3,n4,tw,0⟩:Ru)).nm, .string ((⟨n0,x1,x3,n4,tw,0⟩:Ru)).cl, .int .i64 ((⟨n0,x1,x3,n4,tw,0⟩:Ru)).bo, .bool ((⟨n0,x1,x3,n4,tw,0⟩:Ru)).wo, .int .i64 ((⟨n0,x1,x3,n4,tw,0⟩:Ru)).ca] rfl rfl (RuK.blk_there HZ.out) RuK.size (RuK.one_cell (⟨n0,x1,x3,n4,tw,0⟩:Ru)) ?_
    (try simp only [Act.put, List.setIfInBounds_toArray, List.set_cons_zero, List.set_cons_succ, List.toList_toArray])
    refine hK.out _ _ ⟨(HB5.out.cell hg2).trans d1, (HB5.out.cell hg2).trans d3, (HB5.out.cell hg2).trans d5⟩ (fun hsB => ?_)
    clear hK K
    refine wpAnyH_done (by kernel_rfl) ?_ _
    refine NoPanic.normal ?_
    (try simp only [List.getElem_toArray, List.getElem_cons_succ, List.getElem_cons_zero, Act.put, List.setIfInBounds_toArray, List.set_cons_zero, List.set_cons_succ])
    generalize hW5 : World.setCells _ _ _ _ = w5
    have HP9 := Lib.hid (show PS w w4 w5 ws g2 (⟨n0, x1, x3, n4, tw, 0⟩ : Ru) from by
      rw [← hW5]
      exact ⟨D4.out.trans (HB5.out.mono D4.out.size), hst.1, K4.out.later HB5.out, RowAt.below R4.out HB5.out, HBK.out, hg2⟩)
    clear hst HZ HBz d1 d3 d5 HB5 hg2 HBK R4 K4 D4 hsA hsB hW5
    have HPa := Lib.hid HP9.out
    clear HP9
    obtain ⟨m, hm⟩ : ∃ m, canR s = m := ⟨_, rfl⟩
    have HMq := Lib.hid hm
    have HPm := Lib.hid (show PS w w4 w5 ws g2 m from by rw [← hm, HM.out]; exact HPa.out)
    have HIm := Lib.hid (show Is m from by rw [← hm]; exact HIS.out)
    clear hm HPa
    obtain ⟨⟨p0, p1, p2, p3, p4, p5⟩, -⟩ := blk_cells HPm.out.K
    go_wp2_with fail
    clear p0 p1 p2 p3 p4 p5
    refine (RuQ.impl_any m HIm.out _ (Prs.Glob.below HG.out HPm.out.D).tab).mono ?_
    rintro e wc ⟨rfl, hb⟩
    have HPc := Lib.hid (HPm.out.later hb)
    clear hb HPm
    obtain ⟨⟨p0, p1, p2, p3, p4, p5⟩, -⟩ := blk_cells HPc.out.K
    obtain ⟨⟨b0, b1, b2, b3, b4, b5⟩, f0, f1, f2, f3, f4, f5⟩ := blk_cells HPc.out.Q
    by_cases hok : okR m = true
    · have HOK := Lib.hid hok
      have hrt : rtx m = txR m := by unfold rtx; rw [hok]; rfl
      rw [hok, hrt]
      clear hok hrt
      by_cases htx : txR m = s
      · have h1 : ok = true := by rw [← HO.out]; unfold okI; rw [hlen.out, HMq.out, HOK.out, decide_eq_true htx]; rfl
        have h2 : r = m := by rw [← HR.out]; unfold ansR; rw [← ok_same, HO.out, h1]; exact HMq.out
        have hq : ((txR m).toList == s.toList) = true := by rw [htx]; simp
        subst h1 h2
        clear htx
        have hgl := HPc.out.lt
        go_wp2
        clear p0 p1 p2 p3 p4 p5
        clear b0 b1 b2 b3 b4 b5 f0 f1 f2 f3 f4 f5
        have hz := blk_all HPc.out.Q r
        have HB9 := Lib.hid (HPc.out.D.trans (hz.2 w.heap.size (Nat.le_refl _)))
        replace hz := hz.1
        generalize (((((World.setCell (World.setCell _ _ _) _ _).setCell _ _).setCell _ _).setCell _ _).setCell _ _) = w9 at *
        obtain ⟨⟨u0, u1, u2, u3, u4, u5⟩, -⟩ := blk_cells hz
        refine bodyPost_ret (v := .tuple #[.agg #[.int .i64 r.id, .string r.nm, .string r.cl, .int .i64 r.bo, .bool r.wo, .int .i64 r.ca], .bool true]) (by simp [results, Tryd.results10, go_sem, u0, u1, u2, u3, u4, u5]) rfl ⟨rfl, HB9.out⟩
      · have h1 : ok = false := by rw [← HO.out]; unfold okI; rw [HMq.out, decide_eq_false htx]; simp
        have h2 : r = no := by rw [← HR.out]; unfold ansR; rw [← ok_same, HO.out, h1]; rfl
        have hq := str_beq htx
        subst h1 h2
        clear htx
        go_wp2
        clear p0 p1 p2 p3 p4 p5
        clear b0 b1 b2 b3 b4 b5 f0 f1 f2 f3 f4 f5
        have hz := blk_zero HPc.out.Q
        have HB9 := Lib.hid (HPc.out.D.trans (hz.2 w.heap.size (Nat.le_refl _)))
        replace hz := hz.1
        generalize (((((World.setCell (World.setCell _ _ _) _ _).setCell _ _).setCell _ _).setCell _ _).setCell _ _) = w9 at *
        obtain ⟨⟨u0, u1, u2, u3, u4, u5⟩, -⟩ := blk_cells hz
        refine bodyPost_ret (v := .tuple #[.agg #[.int .i64 no.id, .string no.nm, .string no.cl, .int .i64 no.bo, .bool no.wo, .int .i64 no.ca], .bool false]) (by simp [results, Tryd.results10, go_sem, u0, u1, u2, u3, u4, u5]) rfl ⟨rfl, HB9.out⟩
    · have hok' : okR m = false := by simpa using hok
      have h1 : ok = false := by rw [← HO.out]; unfold okI; rw [HMq.out, hok']; simp
      have h2 : r = no := by rw [← HR.out]; unfold ansR; rw [← ok_same, HO.out, h1]; rfl
      subst h1 h2
      rw [hok']
      clear hok hok'
      go_wp2
      clear p0 p1 p2 p3 p4 p5
      clear b0 b1 b2 b3 b4 b5 f0 f1 f2 f3 f4 f5
      have hz := blk_zero HPc.out.Q
      have HB9 := Lib.hid (HPc.out.D.trans (hz.2 w.heap.size (Nat.le_refl _)))
      replace hz := hz.1
      generalize (((((World.setCell (World.setCell _ _ _) _ _).setCell _ _).setCell _ _).setCell _ _).setCell _ _) = w9 at *
      obtain ⟨⟨u0, u1, u2, u3, u4, u5⟩, -⟩ := blk_cells hz
      refine bodyPost_ret (v := .tuple #[.agg #[.int .i64 no.id, .string no.nm, .string no.cl, .int .i64 no.bo, .bool no.wo, .int .i64 no.ca], .bool false]) (by simp [results, Tryd.results10, go_sem, u0, u1, u2, u3, u4, u5]) rfl ⟨rfl, HB9.out⟩

theorem both (s : ByteArray) (hs : s.size ≤ 1048576) : ∃ (r : Ru) (ok : Bool),
    (∀ w, Calls Tryd.prog 12 #[.string s] w fun e w' => e = .returned (.tuple #[.agg #[.int .i64 r.id, .string r.nm, .string r.cl, .int .i64 r.bo, .bool r.wo, .int .i64 r.ca], .bool ok]) ∧ Below w.heap.size w w') ∧
    (∀ w, Prs.Glob w → Calls Tryd.prog 10 #[.string s] w fun e w' => e = .returned (.tuple #[.agg #[.int .i64 r.id, .string r.nm, .string r.cl, .int .i64 r.bo, .bool r.wo, .int .i64 r.ca], .bool ok]) ∧ Below w.heap.size w w') :=
  ⟨ansR s, okS s, fun w => spec_any s hs w, fun w hG => impl_any s hs w hG⟩

end Go.Proofs.YtjngnjokbnklfaaDoor.RpI
