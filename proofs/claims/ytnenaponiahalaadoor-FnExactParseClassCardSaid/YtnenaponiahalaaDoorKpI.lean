/- A class read from its text: the program; both. -/
import Derived.Test.YtnenaponiahalaaDoorKpS
namespace Go.Proofs.YtnenaponiahalaaDoor.KpI
open Go.RowKit Lb Bk InA Wd KlK KlI Fmt NumM KtT PfM PfI Rd KpM KpS SplC
open L1S (NewStrs)
set_option linter.unusedSimpArgs false
set_option linter.unusedVariables false

def Mx (w : World) : Prop := ∃ m, w.cell? ⟨0, 0, none⟩ = some (.int .i64 m)
theorem mx_below {w w' : World} (h : Mx w) (hb : Below w.heap.size w w') : Mx w' := by
  obtain ⟨m, hm⟩ := h
  have hlt : 0 < w.heap.size := World.block_lt_of_cell? w _ hm
  exact ⟨m, (hb.cell hlt).trans hm⟩
/-- What the library's texts lean on. -/
def Gl (w : World) : Prop := Prs.Glob w ∧ Mx w
theorem Gl.below {w w' : World} (h : Gl w) (hb : Below w.heap.size w w') : Gl w' := ⟨Prs.Glob.below h.1 hb, mx_below h.2 hb⟩
theorem cut_any (x : ByteArray) (w : World) (hs : x.size ≤ 1048576) (hm : Mx w) : Calls Tryd.prog 20 #[.string x, .string ⟨#[45]⟩] w fun e w' => ∃ fo, e = .returned (.tuple #[.string (cutA x), .string (cutB x), .bool fo]) ∧ Below w.heap.size w w' := by
  obtain ⟨m, hm⟩ := hm
  refine (Tryd.strings_Cut x ⟨#[45]⟩ m w (by omega) hm).mono ?_
  rintro e w' ⟨rfl, n, rfl⟩
  exact ⟨_, rfl, below_drewN (Below.refl _ _) _⟩
theorem has_any (x : ByteArray) (c : UInt8) (w : World) : Calls Tryd.prog 21 #[.string x, .string ⟨#[c]⟩] w fun e w' => e = .returned (.bool (hasC x c)) ∧ w' = w := Tryd.strings_Contains_one x c w

set_option maxRecDepth 20000 in
set_option maxHeartbeats 4000000 in
theorem impl_any (s : ByteArray) (hs : s.size ≤ 1048576) (w : World) (hG : Gl w) :
    Calls Tryd.prog 10 #[.string s] w fun e w' => e = .returned (.tuple #[.agg #[.int .i64 (ansK s).id, .string (ansK s).nm, .int .i64 (ansK s).lo, .int .i64 (ansK s).hi, .bool (ansK s).wo, .bool (ansK s).me, .int .i64 (ansK s).co, .int .i64 (ansK s).mo], .bool (okS s)]) ∧ Below w.heap.size w w' := by
  have hB0 := Lib.hid ((Below.refl w.heap.size w).alloc (Nat.le_refl _) (.cells #[.int .i64 no.id, .string no.nm, .int .i64 no.lo, .int .i64 no.hi, .bool no.wo, .bool no.me, .int .i64 no.co, .int .i64 no.mo] 27))
  have hK0 := Lib.hid (Blk.new w 27 #[.int .i64 no.id, .string no.nm, .int .i64 no.lo, .int .i64 no.hi, .bool no.wo, .bool no.me, .int .i64 no.co, .int .i64 no.mo])
  have HIS := Lib.hid (mkI_is hs)
  have HG := Lib.hid hG
  obtain ⟨r, hr⟩ : ∃ r, ansK s = r := ⟨_, rfl⟩
  obtain ⟨ok, hok⟩ : ∃ ok, okI s = ok := ⟨_, rfl⟩
  have HR := Lib.hid (show (if ok then canI s else no) = r from by rw [← hok, ← ans_I, hr])
  have HO := Lib.hid hok
  rw [← ok_same, hr, hok]
  clear hr hok hG
  by_cases h4 : s.size ≤ 4000
  case neg =>
    have h1 : ok = false := by rw [← HO.out]; unfold okI; rw [decide_eq_false (by omega)]; rfl
    subst h1
    have h2 : r = no := HR.out.symm
    subst h2
    go_enter Tryd.func10, Tryd.ntmps10
    go_wp2_with fail
    refine (split_no s _ hs (by omega)).mono ?_
    rintro e w2 ⟨v, rfl, ho, hb2⟩
    have D2 := Lib.hid (hB0.out.trans (hb2.mono hB0.out.size))
    have K2 := Lib.hid (hK0.out.later hb2)
    clear hb2 ho hB0 hK0 h4 HR
    obtain ⟨⟨b0, b1, b2, b3, b4, b5, b6, b7⟩, f0, f1, f2, f3, f4, f5, f6, f7⟩ := blk_cells K2.out
    go_wp2
    clear b0 b1 b2 b3 b4 b5 b6 b7 f0 f1 f2 f3 f4 f5 f6 f7
    have hz := blk_zero K2.out
    have HB9 := Lib.hid (D2.out.trans (hz.2 w.heap.size (Nat.le_refl _)))
    replace hz := hz.1
    generalize ((((((((World.setCell _ _ _).setCell _ _).setCell _ _).setCell _ _).setCell _ _).setCell _ _).setCell _ _).setCell _ _) = w9 at *
    obtain ⟨⟨u0, u1, u2, u3, u4, u5, u6, u7⟩, -⟩ := blk_cells hz
    refine bodyPost_ret (v := .tuple #[.agg #[.int .i64 no.id, .string no.nm, .int .i64 no.lo, .int .i64 no.hi, .bool no.wo, .bool no.me, .int .i64 no.co, .int .i64 no.mo], .bool false]) (by simp [results, Tryd.results10, go_sem, u0, u1, u2, u3, u4, u5, u6, u7]) rfl ⟨rfl, HB9.out⟩
  go_enter Tryd.func10, Tryd.ntmps10
  go_wp2_with fail
  refine (split_ok s _ h4).mono ?_
  rintro e w2 ⟨v, rfl, ho, hb2⟩
  have hwl := parts_length s 32
  have hwt := parts_total s 32
  have z0 := sAt_le (parts s 32) 0
  have z2 := sAt_le (parts s 32) 2
  have z5 := sAt_le (parts s 32) 5
  have z7 := sAt_le (parts s 32) 7
  obtain ⟨ws, hws⟩ : ∃ ws, parts s 32 = ws := ⟨_, rfl⟩
  rw [hws] at ho hwl hwt z0 z2 z5 z7
  obtain ⟨g2, c2, rfl, hr2, hc2⟩ := own_strs0 ho hwl.2
  have HWS := Lib.hid hws
  have hB2 := Lib.hid (hB0.out.trans (hb2.mono hB0.out.size))
  have hK2 := Lib.hid (hK0.out.later hb2)
  have hR2 := Lib.hid hr2
  obtain ⟨n, hn⟩ : ∃ n, ws.length = n := ⟨_, rfl⟩
  have HN := Lib.hid hn
  rw [hn] at hwl hwt hc2 ⊢
  clear hb2 ho hr2 hws hB0 hK0 hn
  by_cases h8 : n = 8
  case neg =>
    have h1 : ok = false := by rw [← HO.out]; unfold okI; rw [HWS.out, HN.out, decide_eq_false (by omega)]; rfl
    subst h1
    have h2 : r = no := HR.out.symm
    have e8 : ((n : Int) != 8) = true := by simp; omega
    subst h2
    clear hwl hwt z0 z2 z5 z7 h8 h4 HR
    obtain ⟨⟨b0, b1, b2, b3, b4, b5, b6, b7⟩, f0, f1, f2, f3, f4, f5, f6, f7⟩ := blk_cells hK2.out
    go_wp2
    clear b0 b1 b2 b3 b4 b5 b6 b7 f0 f1 f2 f3 f4 f5 f6 f7
    have hz := blk_zero hK2.out
    have HB9 := Lib.hid (hB2.out.trans (hz.2 w.heap.size (Nat.le_refl _)))
    replace hz := hz.1
    generalize ((((((((World.setCell _ _ _).setCell _ _).setCell _ _).setCell _ _).setCell _ _).setCell _ _).setCell _ _).setCell _ _) = w9 at *
    obtain ⟨⟨u0, u1, u2, u3, u4, u5, u6, u7⟩, -⟩ := blk_cells hz
    refine bodyPost_ret (v := .tuple #[.agg #[.int .i64 no.id, .string no.nm, .int .i64 no.lo, .int .i64 no.hi, .bool no.wo, .bool no.me, .int .i64 no.co, .int .i64 no.mo], .bool false]) (by simp [results, Tryd.results10, go_sem, u0, u1, u2, u3, u4, u5, u6, u7]) rfl ⟨rfl, HB9.out⟩
  subst h8
  have hlen := Lib.hid (show decide (s.size ≤ 4000 ∧ (parts s 32).length = 8) = true from decide_eq_true ⟨h4, by rw [HWS.out, HN.out]⟩)
  have Z0 := Lib.hid (show (sAt ws 0).size ≤ 1048576 from by omega)
  have Z2 := Lib.hid (show (sAt ws 2).size ≤ 1048576 from by omega)
  have Z5 := Lib.hid (show (sAt ws 5).size ≤ 1048576 from by omega)
  have Z7 := Lib.hid (show (sAt ws 7).size ≤ 1048576 from by omega)
  have hcz := cut_size (sAt ws 2)
  have YA := Lib.hid (show (cutA (sAt ws 2)).size ≤ 1048576 from by omega)
  have YB := Lib.hid (show (cutB (sAt ws 2)).size ≤ 1048576 from by omega)
  have HM := Lib.hid (show canI s = ⟨(val (sAt ws 0)).getD 0, sAt ws 1, (val (cutA (sAt ws 2))).getD 0, (val (cutB (sAt ws 2))).getD 0, hasC (sAt ws 3) 119, hasC (sAt ws 3) 109, (val (sAt ws 5)).getD 0, (val (sAt ws 7)).getD 0⟩ from by unfold canI mkI vz; rw [HWS.out])
  have d2 := row_at hR2.out 2 (by rw [HN.out]; omega)
  clear hwl hwt z0 z2 z5 z7 h4 hcz
  go_wp2_with fail
  clear d2
  refine (cut_any (sAt ws 2) _ Z2.out (HG.out.below hB2.out).2).mono ?_
  rintro e w3 ⟨fo, rfl, hb⟩
  have hB3 := Lib.hid (hB2.out.trans (hb.mono hB2.out.size))
  have hK3 := Lib.hid (hK2.out.later hb)
  have hR3 := Lib.hid (RowAt.below hR2.out hb)
  clear hb hB2 hK2 hR2
  obtain ⟨ca, hca⟩ : ∃ x, cutA (sAt ws 2) = x := ⟨_, rfl⟩
  obtain ⟨cb, hcb⟩ : ∃ x, cutB (sAt ws 2) = x := ⟨_, rfl⟩
  rw [hca] at YA HM ⊢
  rw [hcb] at YB HM ⊢
  clear hca hcb
  have d1 := row_at hR3.out 1 (by rw [HN.out]; omega)
  have d3 := row_at hR3.out 3 (by rw [HN.out]; omega)
  obtain ⟨x1, hx1⟩ : ∃ x, sAt ws 1 = x := ⟨_, rfl⟩
  obtain ⟨x3, hx3⟩ : ∃ x, sAt ws 3 = x := ⟨_, rfl⟩
  rw [hx1] at d1 HM
  rw [hx3] at d3 HM
  clear hx1 hx3
  obtain ⟨h119, hc119⟩ : ∃ b, hasC x3 119 = b := ⟨_, rfl⟩
  obtain ⟨h109, hc109⟩ : ∃ b, hasC x3 109 = b := ⟨_, rfl⟩
  obtain ⟨n0, hn0⟩ : ∃ z, (val (sAt ws 0)).getD 0 = z := ⟨_, rfl⟩
  obtain ⟨n5, hn5⟩ : ∃ z, (val (sAt ws 5)).getD 0 = z := ⟨_, rfl⟩
  obtain ⟨n7, hn7⟩ : ∃ z, (val (sAt ws 7)).getD 0 = z := ⟨_, rfl⟩
  obtain ⟨na, hna⟩ : ∃ z, (val ca).getD 0 = z := ⟨_, rfl⟩
  obtain ⟨nb, hnb⟩ : ∃ z, (val cb).getD 0 = z := ⟨_, rfl⟩
  rw [hc119, hc109, hn0, hn5, hn7, hna, hnb] at HM
  have HN0 := Lib.hid hn0
  have HN5 := Lib.hid hn5
  have HN7 := Lib.hid hn7
  have HNa := Lib.hid hna
  have HNb := Lib.hid hnb
  have HBK := Lib.hid hK3.out.lt
  clear hn0 hn5 hn7 hna hnb
  go_upto_region 5 with (fail)
  go_cut [9] from 33 to 45 (fun st wx => st = .pointer (some ⟨w3.heap.size, 0, none⟩) ∧ PS w w3.heap.size wx ws [] g2 g2 (⟨0, x1, 0, 0, h119, h109, 0, 0⟩ : Kl))
  case first =>
    have hg2 : g2 < w3.heap.size := World.block_lt_of_cell? w3 _ d1
    have HZ := Lib.hid (Blk.new w3.drew 27 #[.int .i64 no.id, .string no.nm, .int .i64 no.lo, .int .i64 no.hi, .bool no.wo, .bool no.me, .int .i64 no.co, .int .i64 no.mo])
    have HBz := Lib.hid ((Below.refl w3.heap.size w3).drew.alloc (Nat.le_refl _) (.cells #[.int .i64 no.id, .string no.nm, .int .i64 no.lo, .int .i64 no.hi, .bool no.wo, .bool no.me, .int .i64 no.co, .int .i64 no.mo] 27))
    have hst := blk_stored HZ.out (⟨0, x1, 0, 0, h119, h109, 0, 0⟩ : Kl)
    have HB5 := Lib.hid (HBz.out.trans (hst.2 w3.heap.size (Nat.le_refl _)))
    refine wp_region_noPanic ?_
    refine wp_region_held_drew (S := (fun Wx : World => Wx.cell? ⟨g2, 1, none⟩ = some (.string x1) ∧ Wx.cell? ⟨g2, 3, none⟩ = some (.string x3))) (by kernel_rfl) ⟨d1, d3⟩ (fun hHeld => ?_)
    refine wpAnyH_take (i := 0) (oi := _) (v := ?_) rfl (by kernel_rfl) (by kernel_rfl) (by kernel_rfl) (fun _ _ _ h => h) (Or.inl ⟨by rfl, ?_⟩) (by assumption) ?_; rotate_left; focus (intro W hSw; (try dsimp only at hSw); go_simp; (first | done | with_reducible rfl))
    (try simp only [List.getElem_toArray, List.getElem_cons_succ, List.getElem_cons_zero, Act.put, List.setIfInBounds_toArray, List.set_cons_zero, List.set_cons_succ])
    refine wpAnyH_take (i := 1) (oi := _) (v := ?_) rfl (by kernel_rfl) (by kernel_rfl) (by kernel_rfl) (fun _ _ _ h => h) (Or.inl ⟨by rfl, ?_⟩) (by assumption) ?_; rotate_left; focus (intro W hSw; (try dsimp only at hSw); go_simp; (first | done | with_reducible rfl))
    (try simp only [List.getElem_toArray, List.getElem_cons_succ, List.getElem_cons_zero, Act.put, List.setIfInBounds_toArray, List.set_cons_zero, List.set_cons_succ])
    refine wpAnyH_take (i := 2) (oi := _) (v := ?_) rfl (by kernel_rfl) (by kernel_rfl) (by kernel_rfl) (fun _ _ _ h => h) (Or.inl ⟨by rfl, ?_⟩) (by assumption) ?_; rotate_left; focus (intro W hSw; (try dsimp only at hSw); go_simp; (first | done | with_reducible rfl))
    (try simp only [List.getElem_toArray, List.getElem_cons_succ, List.getElem_cons_zero, Act.put, List.setIfInBounds_toArray, List.set_cons_zero, List.set_cons_succ])
    refine wpAnyH_take (i := 3) (oi := _) (v := ?_) rfl (by kernel_rfl) (by kernel_rfl) (by kernel_rfl) (fun _ _ _ h => h) (Or.inl ⟨by rfl, ?_⟩) (by assumption) ?_; rotate_left; focus (intro W hSw; (try dsimp only at hSw); go_simp; (first | done | with_reducible rfl))
    (try simp only [List.getElem_toArray, List.getElem_cons_succ, List.getElem_cons_zero, Act.put, List.setIfInBounds_toArray, List.set_cons_zero, List.set_cons_succ])
    refine wpAnyH_take (i := 4) (oi := _) (v := ?_) rfl (by kernel_rfl) (by kernel_rfl) (by kernel_rfl) (fun _ _ _ h => h) (Or.inl ⟨by rfl, ?_⟩) (by assumption) ?_; rotate_left; focus (intro W hSw; (try dsimp only at hSw); go_simp; (first | done | with_reducible rfl))
    (try simp only [List.getElem_toArray, List.getElem_cons_succ, List.getElem_cons_zero, Act.put, List.setIfInBounds_toArray, List.set_cons_zero, List.set_cons_succ])
    refine wpAnyH_take (i := 5) (oi := _) (v := ?_) rfl (by kernel_rfl) (by kernel_rfl) (by kernel_rfl) (fun _ _ _ h => h) (Or.inl ⟨by rfl, ?_⟩) (by assumption) ?_; rotate_left; focus (intro W hSw; (try dsimp only at hSw); go_simp; (first | done | with_reducible rfl))
    (try simp only [List.getElem_toArray, List.getElem_cons_succ, List.getElem_cons_zero, Act.put, List.setIfInBounds_toArray, List.set_cons_zero, List.set_cons_succ])
    refine wpAnyH_take (i := 7) (oi := _) (v := ?_) rfl (by kernel_rfl) (by kernel_rfl) (by kernel_rfl) (fun _ _ _ h => h) (Or.inl ⟨by rfl, ?_⟩) (by assumption) ?_; rotate_left; focus (intro W hSw; (try dsimp only at hSw); go_simp; (first | done | with_reducible rfl))
    (try simp only [List.getElem_toArray, List.getElem_cons_succ, List.getElem_cons_zero, Act.put, List.setIfInBounds_toArray, List.set_cons_zero, List.set_cons_succ])
    refine wpAnyH_take (i := 8) (oi := _) (v := ?_) rfl (by kernel_rfl) (by kernel_rfl) (by kernel_rfl) (fun _ _ _ h => h) (Or.inl ⟨by rfl, ?_⟩) (by assumption) ?_; rotate_left; focus (intro W hSw; (try dsimp only at hSw); go_simp; (first | done | with_reducible rfl))
    (try simp only [List.getElem_toArray, List.getElem_cons_succ, List.getElem_cons_zero, Act.put, List.setIfInBounds_toArray, List.set_cons_zero, List.set_cons_succ])
    refine wpAnyH_take (i := 9) (oi := _) (v := ?_) rfl (by kernel_rfl) (by kernel_rfl) (by kernel_rfl) (fun _ _ _ h => h) (Or.inl ⟨by rfl, ?_⟩) (by assumption) ?_; rotate_left; focus (intro W hSw; (try dsimp only at hSw); go_simp; (first | done | with_reducible rfl))
    (try simp only [List.getElem_toArray, List.getElem_cons_succ, List.getElem_cons_zero, Act.put, List.setIfInBounds_toArray, List.set_cons_zero, List.set_cons_succ])
    refine wpAnyH_ready (rs := [6, 12]) (by kernel_rfl) (by simp) ?_
    refine AllReadyH.cons (o := _) rfl (fun K hK => ?_) (AllReadyH.cons (o := _) rfl (fun K hK => ?_) (AllReadyH.nil))
    · go_simp
      go_at_call 21
      refine (has_any x3 119 _).mono ?_
      rintro e w4 ⟨rfl, rfl⟩
      rw [hc119]
      go_wp2_with fail
      refine hK.out _ _ ⟨d1, d3⟩ (fun hsC => ?_)
      clear hK K hHeld
      refine wpAnyH_ready (rs := [10, 12]) (by kernel_rfl) (by simp) ?_
      refine AllReadyH.cons (o := _) rfl (fun K hK => ?_) (AllReadyH.cons (o := _) rfl (fun K hK => ?_) (AllReadyH.nil))
      · go_simp
        go_at_call 21
        refine (has_any x3 109 _).mono ?_
        rintro e w4 ⟨rfl, rfl⟩
        rw [hc109]
        go_wp2_with fail
        refine hK.out _ _ ⟨d1, d3⟩ (fun hsD => ?_)
        clear hK K
        refine wpAnyH_take (i := 11) (oi := _) (v := ?_) rfl (by kernel_rfl) (by kernel_rfl) (by kernel_rfl) (fun _ _ _ h => h) (Or.inl ⟨by rfl, ?_⟩) (by assumption) ?_; rotate_left; focus (intro W hSw; (try dsimp only at hSw); go_simp; (first | done | with_reducible rfl))
        (try simp only [List.getElem_toArray, List.getElem_cons_succ, List.getElem_cons_zero, Act.put, List.setIfInBounds_toArray, List.set_cons_zero, List.set_cons_succ])
        refine wpAnyH_ready (rs := [12]) (by kernel_rfl) (by simp) ?_
        refine AllReadyH.cons (o := _) rfl (fun K hK => ?_) AllReadyH.nil
        go_simp
        refine hK.out _ _ ⟨(HBz.out.cell hg2).trans d1, (HBz.out.cell hg2).trans d3⟩ (fun hsA => ?_)
        clear hK K
        refine wpAnyH_ready (rs := [13]) (by kernel_rfl) (by simp) ?_
        refine AllReadyH.cons (o := _) rfl (fun K hK => ?_) AllReadyH.nil
        rw [if_pos (by rfl)]
        refine wp_store_mid _ _ _ rfl w3.heap.size 0 #[.int .i64 ((⟨0,x1,0,0,h119,h109,0,0⟩:Kl)).id, .string ((⟨0,x1,0,0,h119,h109,0,0⟩:Kl)).nm, .int .i64 ((⟨0,x1,0,0,h119,h109,0,0⟩:Kl)).lo, .int .i64 ((⟨0,x1,0,0,h119,h109,0,0⟩:Kl)).hi, .bool ((⟨0,x1,0,0,h119,h109,0,0⟩:Kl)).wo, .bool ((⟨0,x1,0,0,h119,h109,0,0⟩:Kl)).me, .int .i64 ((⟨0,x1,0,0,h119,h109,0,0⟩:Kl)).co, .int .i64 ((⟨0,x1,0,0,h119,h109,0,0⟩:Kl)).mo] rfl rfl (KlK.blk_there HZ.out) KlK.size (KlK.one_cell (⟨0,x1,0,0,h119,h109,0,0⟩:Kl)) ?_
        (try simp only [Act.put, List.setIfInBounds_toArray, List.set_cons_zero, List.set_cons_succ, List.toList_toArray])
        refine hK.out _ _ ⟨(HB5.out.cell hg2).trans d1, (HB5.out.cell hg2).trans d3⟩ (fun hsB => ?_)
        clear hK K
        refine wpAnyH_done (by kernel_rfl) ?_ _
        refine NoPanic.normal ?_
        (try simp only [List.getElem_toArray, List.getElem_cons_succ, List.getElem_cons_zero, Act.put, List.setIfInBounds_toArray, List.set_cons_zero, List.set_cons_succ])
        go_wp2
        go_meet
        exact ⟨rfl, ⟨hB3.out.trans (HB5.out.mono hB3.out.size), hst.1, hK3.out.later HB5.out, RowAt.below hR3.out HB5.out, .inl rfl, HBK.out, hg2, hg2⟩⟩
      · go_simp
        refine hK.out _ _ ⟨(HBz.out.cell hg2).trans d1, (HBz.out.cell hg2).trans d3⟩ (fun hsA => ?_)
        clear hK K
        refine wpAnyH_ready (rs := [10]) (by kernel_rfl) (by simp) ?_
        refine AllReadyH.cons (o := _) rfl (fun K hK => ?_) AllReadyH.nil
        go_simp
        go_at_call 21
        refine (has_any x3 109 _).mono ?_
        rintro e w4 ⟨rfl, rfl⟩
        rw [hc109]
        go_wp2_with fail
        refine hK.out _ _ ⟨(HBz.out.cell hg2).trans d1, (HBz.out.cell hg2).trans d3⟩ (fun hsD => ?_)
        clear hK K
        refine wpAnyH_take (i := 11) (oi := _) (v := ?_) rfl (by kernel_rfl) (by kernel_rfl) (by kernel_rfl) (fun _ _ _ h => h) (Or.inl ⟨by rfl, ?_⟩) (by assumption) ?_; rotate_left; focus (intro W hSw; (try dsimp only at hSw); go_simp; (first | done | with_reducible rfl))
        (try simp only [List.getElem_toArray, List.getElem_cons_succ, List.getElem_cons_zero, Act.put, List.setIfInBounds_toArray, List.set_cons_zero, List.set_cons_succ])
        refine wpAnyH_ready (rs := [13]) (by kernel_rfl) (by simp) ?_
        refine AllReadyH.cons (o := _) rfl (fun K hK => ?_) AllReadyH.nil
        rw [if_pos (by rfl)]
        refine wp_store_mid _ _ _ rfl w3.heap.size 0 #[.int .i64 ((⟨0,x1,0,0,h119,h109,0,0⟩:Kl)).id, .string ((⟨0,x1,0,0,h119,h109,0,0⟩:Kl)).nm, .int .i64 ((⟨0,x1,0,0,h119,h109,0,0⟩:Kl)).lo, .int .i64 ((⟨0,x1,0,0,h119,h109,0,0⟩:Kl)).hi, .bool ((⟨0,x1,0,0,h119,h109,0,0⟩:Kl)).wo, .bool ((⟨0,x1,0,0,h119,h109,0,0⟩:Kl)).me, .int .i64 ((⟨0,x1,0,0,h119,h109,0,0⟩:Kl)).co, .int .i64 ((⟨0,x1,0,0,h119,h109,0,0⟩:Kl)).mo] rfl rfl (KlK.blk_there HZ.out) KlK.size (KlK.one_cell (⟨0,x1,0,0,h119,h109,0,0⟩:Kl)) ?_
        (try simp only [Act.put, List.setIfInBounds_toArray, List.set_cons_zero, List.set_cons_succ, List.toList_toArray])
        refine hK.out _ _ ⟨(HB5.out.cell hg2).trans d1, (HB5.out.cell hg2).trans d3⟩ (fun hsB => ?_)
        clear hK K
        refine wpAnyH_done (by kernel_rfl) ?_ _
        refine NoPanic.normal ?_
        (try simp only [List.getElem_toArray, List.getElem_cons_succ, List.getElem_cons_zero, Act.put, List.setIfInBounds_toArray, List.set_cons_zero, List.set_cons_succ])
        go_wp2
        go_meet
        exact ⟨rfl, ⟨hB3.out.trans (HB5.out.mono hB3.out.size), hst.1, hK3.out.later HB5.out, RowAt.below hR3.out HB5.out, .inl rfl, HBK.out, hg2, hg2⟩⟩
    · go_simp
      refine hK.out _ _ ⟨(HBz.out.cell hg2).trans d1, (HBz.out.cell hg2).trans d3⟩ (fun hsA => ?_)
      clear hK K hHeld
      refine wpAnyH_ready (rs := [6]) (by kernel_rfl) (by simp) ?_
      refine AllReadyH.cons (o := _) rfl (fun K hK => ?_) AllReadyH.nil
      go_simp
      go_at_call 21
      refine (has_any x3 119 _).mono ?_
      rintro e w4 ⟨rfl, rfl⟩
      rw [hc119]
      go_wp2_with fail
      refine hK.out _ _ ⟨(HBz.out.cell hg2).trans d1, (HBz.out.cell hg2).trans d3⟩ (fun hsC => ?_)
      clear hK K
      refine wpAnyH_ready (rs := [10]) (by kernel_rfl) (by simp) ?_
      refine AllReadyH.cons (o := _) rfl (fun K hK => ?_) AllReadyH.nil
      go_simp
      go_at_call 21
      refine (has_any x3 109 _).mono ?_
      rintro e w4 ⟨rfl, rfl⟩
      rw [hc109]
      go_wp2_with fail
      refine hK.out _ _ ⟨(HBz.out.cell hg2).trans d1, (HBz.out.cell hg2).trans d3⟩ (fun hsD => ?_)
      clear hK K
      refine wpAnyH_take (i := 11) (oi := _) (v := ?_) rfl (by kernel_rfl) (by kernel_rfl) (by kernel_rfl) (fun _ _ _ h => h) (Or.inl ⟨by rfl, ?_⟩) (by assumption) ?_; rotate_left; focus (intro W hSw; (try dsimp only at hSw); go_simp; (first | done | with_reducible rfl))
      (try simp only [List.getElem_toArray, List.getElem_cons_succ, List.getElem_cons_zero, Act.put, List.setIfInBounds_toArray, List.set_cons_zero, List.set_cons_succ])
      refine wpAnyH_ready (rs := [13]) (by kernel_rfl) (by simp) ?_
      refine AllReadyH.cons (o := _) rfl (fun K hK => ?_) AllReadyH.nil
      rw [if_pos (by rfl)]
      refine wp_store_mid _ _ _ rfl w3.heap.size 0 #[.int .i64 ((⟨0,x1,0,0,h119,h109,0,0⟩:Kl)).id, .string ((⟨0,x1,0,0,h119,h109,0,0⟩:Kl)).nm, .int .i64 ((⟨0,x1,0,0,h119,h109,0,0⟩:Kl)).lo, .int .i64 ((⟨0,x1,0,0,h119,h109,0,0⟩:Kl)).hi, .bool ((⟨0,x1,0,0,h119,h109,0,0⟩:Kl)).wo, .bool ((⟨0,x1,0,0,h119,h109,0,0⟩:Kl)).me, .int .i64 ((⟨0,x1,0,0,h119,h109,0,0⟩:Kl)).co, .int .i64 ((⟨0,x1,0,0,h119,h109,0,0⟩:Kl)).mo] rfl rfl (KlK.blk_there HZ.out) KlK.size (KlK.one_cell (⟨0,x1,0,0,h119,h109,0,0⟩:Kl)) ?_
      (try simp only [Act.put, List.setIfInBounds_toArray, List.set_cons_zero, List.set_cons_succ, List.toList_toArray])
      refine hK.out _ _ ⟨(HB5.out.cell hg2).trans d1, (HB5.out.cell hg2).trans d3⟩ (fun hsB => ?_)
      clear hK K
      refine wpAnyH_done (by kernel_rfl) ?_ _
      refine NoPanic.normal ?_
      (try simp only [List.getElem_toArray, List.getElem_cons_succ, List.getElem_cons_zero, Act.put, List.setIfInBounds_toArray, List.set_cons_zero, List.set_cons_succ])
      go_wp2
      go_meet
      exact ⟨rfl, ⟨hB3.out.trans (HB5.out.mono hB3.out.size), hst.1, hK3.out.later HB5.out, RowAt.below hR3.out HB5.out, .inl rfl, HBK.out, hg2, hg2⟩⟩
  case rest =>
  obtain ⟨rfl, hP⟩ := hcut
  have HP := Lib.hid hP
  clear hP d1 d3 hc119 hc109 HBK hR3 hK3 hB3
  have d := row_at HP.out.R 0 (by rw [HN.out]; omega)
  go_wp2_with fail
  clear d
  refine (Prs.implParse_any (sAt ws 0) _ (Prs.Glob.below HG.out.1 HP.out.D) Z0.out).mono ?_
  rintro e wq ⟨he, hb⟩
  unfold RdPost at he
  rw [HN0.out] at he
  subst he
  replace HP := Lib.hid (HP.out.later hb)
  obtain ⟨oo, hoo⟩ : ∃ b, Option.isSome (val (sAt ws 0)) = b := ⟨_, rfl⟩
  rw [hoo]
  clear hb hoo
  obtain ⟨⟨c, -⟩, y, -⟩ := blk_cells HP.out.K
  go_upto_region 7 with (fail)
  replace HP := Lib.hid (HP.out.set0 n0)
  clear c y
  generalize World.setCell _ _ _ = wz at *
  go_wp2_with fail
  refine (Prs.implParse_any ca _ (Prs.Glob.below HG.out.1 HP.out.D) YA.out).mono ?_
  rintro e wq ⟨he, hb⟩
  unfold RdPost at he
  rw [HNa.out] at he
  subst he
  replace HP := Lib.hid (HP.out.later hb)
  obtain ⟨oo, hoo⟩ : ∃ b, Option.isSome (val ca) = b := ⟨_, rfl⟩
  rw [hoo]
  clear hb hoo
  obtain ⟨⟨-, -, c, -⟩, -, -, y, -⟩ := blk_cells HP.out.K
  go_upto_region 8 with (fail)
  replace HP := Lib.hid (HP.out.set2 na)
  clear c y
  generalize World.setCell _ _ _ = wz at *
  go_wp2_with fail
  refine (Prs.implParse_any cb _ (Prs.Glob.below HG.out.1 HP.out.D) YB.out).mono ?_
  rintro e wq ⟨he, hb⟩
  unfold RdPost at he
  rw [HNb.out] at he
  subst he
  replace HP := Lib.hid (HP.out.later hb)
  obtain ⟨oo, hoo⟩ : ∃ b, Option.isSome (val cb) = b := ⟨_, rfl⟩
  rw [hoo]
  clear hb hoo
  obtain ⟨⟨-, -, -, c, -⟩, -, -, -, y, -⟩ := blk_cells HP.out.K
  go_upto_region 9 with (fail)
  replace HP := Lib.hid (HP.out.set3 nb)
  clear c y
  generalize World.setCell _ _ _ = wz at *
  have d := row_at HP.out.R 5 (by rw [HN.out]; omega)
  go_wp2_with fail
  clear d
  refine (Prs.implParse_any (sAt ws 5) _ (Prs.Glob.below HG.out.1 HP.out.D) Z5.out).mono ?_
  rintro e wq ⟨he, hb⟩
  unfold RdPost at he
  rw [HN5.out] at he
  subst he
  replace HP := Lib.hid (HP.out.later hb)
  obtain ⟨oo, hoo⟩ : ∃ b, Option.isSome (val (sAt ws 5)) = b := ⟨_, rfl⟩
  rw [hoo]
  clear hb hoo
  obtain ⟨⟨-, -, -, -, -, -, c, -⟩, -, -, -, -, -, -, y, -⟩ := blk_cells HP.out.K
  go_upto_region 10 with (fail)
  replace HP := Lib.hid (HP.out.set6 n5)
  clear c y
  generalize World.setCell _ _ _ = wz at *
  have d := row_at HP.out.R 7 (by rw [HN.out]; omega)
  go_wp2_with fail
  clear d
  refine (Prs.implParse_any (sAt ws 7) _ (Prs.Glob.below HG.out.1 HP.out.D) Z7.out).mono ?_
  rintro e wq ⟨he, hb⟩
  unfold RdPost at he
  rw [HN7.out] at he
  subst he
  replace HP := Lib.hid (HP.out.later hb)
  obtain ⟨oo, hoo⟩ : ∃ b, Option.isSome (val (sAt ws 7)) = b := ⟨_, rfl⟩
  rw [hoo]
  clear hb hoo
  obtain ⟨⟨-, -, -, -, -, -, -, c⟩, -, -, -, -, -, -, -, y⟩ := blk_cells HP.out.K
  go_upto_region 11 with (fail)
  replace HP := Lib.hid (HP.out.set7 n7)
  clear c y
  generalize World.setCell _ _ _ = wz at *
  obtain ⟨m, hm⟩ : ∃ m, canI s = m := ⟨_, rfl⟩
  have HMq := Lib.hid hm
  have HPm := Lib.hid (show PS w w3.heap.size wz ws [] g2 g2 m from by rw [← hm, HM.out]; exact HP.out)
  have HIm := Lib.hid (show Is m from by rw [← hm]; exact HIS.out)
  clear hm HP
  obtain ⟨⟨p0, p1, p2, p3, p4, p5, p6, p7⟩, -⟩ := blk_cells HPm.out.K
  go_wp2_with fail
  clear p0 p1 p2 p3 p4 p5 p6 p7
  refine (KtQ.impl_any m HIm.out _ (Prs.Glob.below HG.out.1 HPm.out.D).tab).mono ?_
  rintro e wc ⟨rfl, hb⟩
  have HPc := Lib.hid (HPm.out.later hb)
  clear hb HPm
  obtain ⟨⟨p0, p1, p2, p3, p4, p5, p6, p7⟩, -⟩ := blk_cells HPc.out.K
  obtain ⟨⟨b0, b1, b2, b3, b4, b5, b6, b7⟩, f0, f1, f2, f3, f4, f5, f6, f7⟩ := blk_cells HPc.out.Q
  by_cases hok : okK m = true
  · have HOK := Lib.hid hok
    have hrt : ktx m = txK m := by unfold ktx; rw [hok]; rfl
    rw [hok, hrt]
    clear hok hrt
    by_cases htx : txK m = s
    · have h1 : ok = true := by rw [← HO.out]; unfold okI; rw [hlen.out, HMq.out, HOK.out, decide_eq_true htx]; rfl
      subst h1
      have h2 : r = m := HR.out.symm.trans HMq.out
      have hq : ((txK m).toList == s.toList) = true := by rw [htx]; simp
      subst h2
      clear htx
      have hgl := HPc.out.lt
      go_wp2
      clear p0 p1 p2 p3 p4 p5 p6 p7
      clear b0 b1 b2 b3 b4 b5 b6 b7 f0 f1 f2 f3 f4 f5 f6 f7
      have hz := blk_all HPc.out.Q r
      have HB9 := Lib.hid (HPc.out.D.trans (hz.2 w.heap.size (Nat.le_refl _)))
      replace hz := hz.1
      generalize ((((((((World.setCell _ _ _).setCell _ _).setCell _ _).setCell _ _).setCell _ _).setCell _ _).setCell _ _).setCell _ _) = w9 at *
      obtain ⟨⟨u0, u1, u2, u3, u4, u5, u6, u7⟩, -⟩ := blk_cells hz
      refine bodyPost_ret (v := .tuple #[.agg #[.int .i64 r.id, .string r.nm, .int .i64 r.lo, .int .i64 r.hi, .bool r.wo, .bool r.me, .int .i64 r.co, .int .i64 r.mo], .bool true]) (by simp [results, Tryd.results10, go_sem, u0, u1, u2, u3, u4, u5, u6, u7]) rfl ⟨rfl, HB9.out⟩
    · have h1 : ok = false := by rw [← HO.out]; unfold okI; rw [HMq.out, decide_eq_false htx]; simp
      subst h1
      have h2 : r = no := HR.out.symm
      have hq := str_beq htx
      subst h2
      clear htx
      go_wp2
      clear p0 p1 p2 p3 p4 p5 p6 p7
      clear b0 b1 b2 b3 b4 b5 b6 b7 f0 f1 f2 f3 f4 f5 f6 f7
      have hz := blk_zero HPc.out.Q
      have HB9 := Lib.hid (HPc.out.D.trans (hz.2 w.heap.size (Nat.le_refl _)))
      replace hz := hz.1
      generalize ((((((((World.setCell _ _ _).setCell _ _).setCell _ _).setCell _ _).setCell _ _).setCell _ _).setCell _ _).setCell _ _) = w9 at *
      obtain ⟨⟨u0, u1, u2, u3, u4, u5, u6, u7⟩, -⟩ := blk_cells hz
      refine bodyPost_ret (v := .tuple #[.agg #[.int .i64 no.id, .string no.nm, .int .i64 no.lo, .int .i64 no.hi, .bool no.wo, .bool no.me, .int .i64 no.co, .int .i64 no.mo], .bool false]) (by simp [results, Tryd.results10, go_sem, u0, u1, u2, u3, u4, u5, u6, u7]) rfl ⟨rfl, HB9.out⟩
  · have hok' : okK m = false := by simpa using hok
    have h1 : ok = false := by rw [← HO.out]; unfold okI; rw [HMq.out, hok']; simp
    subst h1
    have h2 : r = no := HR.out.symm
    subst h2
    rw [hok']
    clear hok hok'
    go_wp2
    clear p0 p1 p2 p3 p4 p5 p6 p7
    clear b0 b1 b2 b3 b4 b5 b6 b7 f0 f1 f2 f3 f4 f5 f6 f7
    have hz := blk_zero HPc.out.Q
    have HB9 := Lib.hid (HPc.out.D.trans (hz.2 w.heap.size (Nat.le_refl _)))
    replace hz := hz.1
    generalize ((((((((World.setCell _ _ _).setCell _ _).setCell _ _).setCell _ _).setCell _ _).setCell _ _).setCell _ _).setCell _ _) = w9 at *
    obtain ⟨⟨u0, u1, u2, u3, u4, u5, u6, u7⟩, -⟩ := blk_cells hz
    refine bodyPost_ret (v := .tuple #[.agg #[.int .i64 no.id, .string no.nm, .int .i64 no.lo, .int .i64 no.hi, .bool no.wo, .bool no.me, .int .i64 no.co, .int .i64 no.mo], .bool false]) (by simp [results, Tryd.results10, go_sem, u0, u1, u2, u3, u4, u5, u6, u7]) rfl ⟨rfl, HB9.out⟩

theorem both (s : ByteArray) (hs : s.size ≤ 1048576) : ∃ (r : Kl) (ok : Bool),
    (∀ w, Calls Tryd.prog 9 #[.string s] w fun e w' => e = .returned (.tuple #[.agg #[.int .i64 r.id, .string r.nm, .int .i64 r.lo, .int .i64 r.hi, .bool r.wo, .bool r.me, .int .i64 r.co, .int .i64 r.mo], .bool ok]) ∧ Below w.heap.size w w') ∧
    (∀ w, Gl w → Calls Tryd.prog 10 #[.string s] w fun e w' => e = .returned (.tuple #[.agg #[.int .i64 r.id, .string r.nm, .int .i64 r.lo, .int .i64 r.hi, .bool r.wo, .bool r.me, .int .i64 r.co, .int .i64 r.mo], .bool ok]) ∧ Below w.heap.size w w') :=
  ⟨ansK s, okS s, fun w => spec_any s hs w, fun w hG => impl_any s hs w hG⟩
end Go.Proofs.YtnenaponiahalaaDoor.KpI
