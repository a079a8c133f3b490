/- A runner read from its text: the model. -/
import Derived.Test.YtjngnjokbnklfaaDoorRpM
import Derived.Deep.RegionHeld3
namespace Go.Proofs.YtjngnjokbnklfaaDoor.RpS
open Go.RowKit Lb Bk InA Wd RuK RuI Fmt NumM RuT PfM PfI Rd RpM
open L1S (NewStrs)
set_option linter.unusedSimpArgs false
set_option linter.unusedVariables false

theorem mk_is {s : ByteArray} (hs : s.size ≤ 1048576) : Is (mk (parts s 32)) := by
  have ht := parts_total s 32
  have h1 := sAt_le (parts s 32) 1
  have h3 := sAt_le (parts s 32) 3
  exact ⟨show (sAt (parts s 32) 1).size ≤ maxLen from by unfold maxLen; omega, show (sAt (parts s 32) 3).size ≤ maxLen from by unfold maxLen; omega⟩
theorem ans_no {s : ByteArray} (h : okS s = false) : ansR s = no := by unfold ansR; rw [h]; rfl
theorem ans_yes {s : ByteArray} (h : okS s = true) : ansR s = canR s := by unfold ansR; rw [h]; rfl

theorem blk_zero {w : World} {g : Nat} {t : TypeId} {x : Ru} (h : Blk w g t #[.int .i64 x.id, .string x.nm, .string x.cl, .int .i64 x.bo, .bool x.wo, .int .i64 x.ca]) : Blk ((((((w.setCell ⟨g, 0, none⟩ (.int .i64 0)).setCell ⟨g, 1, none⟩ (.string ⟨#[]⟩)).setCell ⟨g, 2, none⟩ (.string ⟨#[]⟩)).setCell ⟨g, 3, none⟩ (.int .i64 0)).setCell ⟨g, 4, none⟩ (.bool false)).setCell ⟨g, 5, none⟩ (.int .i64 0)) g t #[.int .i64 no.id, .string no.nm, .string no.cl, .int .i64 no.bo, .bool no.wo, .int .i64 no.ca] ∧ ∀ B, B ≤ g → Below B w ((((((w.setCell ⟨g, 0, none⟩ (.int .i64 0)).setCell ⟨g, 1, none⟩ (.string ⟨#[]⟩)).setCell ⟨g, 2, none⟩ (.string ⟨#[]⟩)).setCell ⟨g, 3, none⟩ (.int .i64 0)).setCell ⟨g, 4, none⟩ (.bool false)).setCell ⟨g, 5, none⟩ (.int .i64 0)) := blk_all h no

/-- What stands while a runner is put together: the box of the answer, the new runner, the words. -/
structure PS (w w2 wx : World) (ws : List ByteArray) (g2 : Nat) (m : Ru) : Prop where
  D : Below w.heap.size w wx
  K : Blk wx w2.heap.size 25 #[.int .i64 m.id, .string m.nm, .string m.cl, .int .i64 m.bo, .bool m.wo, .int .i64 m.ca]
  Q : Blk wx w.heap.size 25 #[.int .i64 no.id, .string no.nm, .string no.cl, .int .i64 no.bo, .bool no.wo, .int .i64 no.ca]
  R : StrRow wx (some ⟨g2, 0, none⟩) ws
  lt : w.heap.size < w2.heap.size
  g : g2 < w2.heap.size
theorem PS.later {w w2 wx w' : World} {ws : List ByteArray} {g2 : Nat} {m : Ru} (h : PS w w2 wx ws g2 m) (hb : Below wx.heap.size wx w') : PS w w2 w' ws g2 m :=
  ⟨h.D.trans (hb.mono h.D.size), h.K.later hb, h.Q.later hb, RowAt.below h.R hb, h.lt, h.g⟩
theorem row_set {wx : World} {g2 B k : Nat} {ws : List ByteArray} (h : StrRow wx (some ⟨g2, 0, none⟩) ws) (hg : g2 < B) (v : Value) : StrRow (wx.setCell ⟨B, k, none⟩ v) (some ⟨g2, 0, none⟩) ws := by
  rcases h with h | ⟨b, off, e, hc⟩
  · exact .inl h
  · cases e
    exact .inr ⟨g2, 0, rfl, fun j hj => ((Below.refl B wx).setCell (p := ⟨B, k, none⟩) (Nat.le_refl _) v).cell (p := ⟨g2, 0 + j, none⟩) hg |>.trans (hc j hj)⟩
theorem PS.set0 {w w2 wx : World} {ws : List ByteArray} {g2 : Nat} {m : Ru} (h : PS w w2 wx ws g2 m) (z : Int) : PS w w2 (wx.setCell ⟨w2.heap.size, 0, none⟩ (.int .i64 z)) ws g2 ⟨z, m.nm, m.cl, m.bo, m.wo, m.ca⟩ :=
  ⟨h.D.setCell (p := ⟨w2.heap.size, 0, none⟩) (Nat.le_of_lt h.lt) _, by simpa using Blk.set_ h.K 0 (.int .i64 z), h.Q.far (p := ⟨w2.heap.size, 0, none⟩) (Nat.ne_of_lt h.lt) _, row_set h.R h.g _, h.lt, h.g⟩
theorem PS.set3 {w w2 wx : World} {ws : List ByteArray} {g2 : Nat} {m : Ru} (h : PS w w2 wx ws g2 m) (z : Int) : PS w w2 (wx.setCell ⟨w2.heap.size, 3, none⟩ (.int .i64 z)) ws g2 ⟨m.id, m.nm, m.cl, z, m.wo, m.ca⟩ :=
  ⟨h.D.setCell (p := ⟨w2.heap.size, 3, none⟩) (Nat.le_of_lt h.lt) _, by simpa using Blk.set_ h.K 3 (.int .i64 z), h.Q.far (p := ⟨w2.heap.size, 3, none⟩) (Nat.ne_of_lt h.lt) _, row_set h.R h.g _, h.lt, h.g⟩
theorem PS.set5 {w w2 wx : World} {ws : List ByteArray} {g2 : Nat} {m : Ru} (h : PS w w2 wx ws g2 m) (z : Int) : PS w w2 (wx.setCell ⟨w2.heap.size, 5, none⟩ (.int .i64 z)) ws g2 ⟨m.id, m.nm, m.cl, m.bo, m.wo, z⟩ :=
  ⟨h.D.setCell (p := ⟨w2.heap.size, 5, none⟩) (Nat.le_of_lt h.lt) _, by simpa using Blk.set_ h.K 5 (.int .i64 z), h.Q.far (p := ⟨w2.heap.size, 5, none⟩) (Nat.ne_of_lt h.lt) _, row_set h.R h.g _, h.lt, h.g⟩

set_option maxRecDepth 20000 in
set_option maxHeartbeats 1000000 in
theorem spec_any (s : ByteArray) (hs : s.size ≤ 1048576) (w : World) :
    Calls Tryd.prog 12 #[.string s] w fun e w' => e = .returned (.tuple #[.agg #[.int .i64 (ansR s).id, .string (ansR s).nm, .string (ansR s).cl, .int .i64 (ansR s).bo, .bool (ansR s).wo, .int .i64 (ansR s).ca], .bool (okS s)]) ∧ Below w.heap.size w w' := by
  have hB0 := Lib.hid ((Below.refl w.heap.size w).alloc (Nat.le_refl _) (.cells #[.int .i64 no.id, .string no.nm, .string no.cl, .int .i64 no.bo, .bool no.wo, .int .i64 no.ca] 25))
  have hK0 := Lib.hid (Blk.new w 25 #[.int .i64 no.id, .string no.nm, .string no.cl, .int .i64 no.bo, .bool no.wo, .int .i64 no.ca])
  have HIS := Lib.hid (mk_is hs)
  obtain ⟨r, hr⟩ : ∃ r, ansR s = r := ⟨_, rfl⟩
  obtain ⟨ok, hok⟩ : ∃ ok, okS s = ok := ⟨_, rfl⟩
  have HR := Lib.hid hr
  have HO := Lib.hid hok
  rw [hr, hok]
  clear hr hok
  go_enter Tryd.func12, Tryd.ntmps12
  go_wp2_with fail
  refine (L1S.l1Split_any s 32 _ hs).mono ?_
  rintro e w2 ⟨v, rfl, ho, hb2⟩
  have hwl := parts_length s 32
  have hwt := parts_total s 32
  have z0 := sAt_le (parts s 32) 0
  have z4 := sAt_le (parts s 32) 4
  have z7 := sAt_le (parts s 32) 7
  obtain ⟨ws, hws⟩ : ∃ ws, parts s 32 = ws := ⟨_, rfl⟩
  rw [hws] at ho hwl hwt z0 z4 z7
  obtain ⟨g2, c2, rfl, hr2, hc2⟩ := own_strs0 ho hwl.2
  have HWS := Lib.hid hws
  have hB2 := Lib.hid (hB0.out.trans (hb2.mono hB0.out.size))
  have hK2 := Lib.hid (hK0.out.later hb2)
  have hR2 := Lib.hid hr2
  obtain ⟨n, hn⟩ : ∃ n, ws.length = n := ⟨_, rfl⟩
  have HN := Lib.hid hn
  rw [hn] at hwl hwt hc2 ⊢
  clear hb2 ho hr2 hws hB0 hK0 hn
  obtain ⟨⟨b0, b1, b2, b3, b4, b5⟩, f0, f1, f2, f3, f4, f5⟩ := blk_cells hK2.out
  by_cases hbad : 60 < s.size ∨ (n ≠ 6 ∧ n ≠ 8)
  · have h1 : ok = false := by
      rw [← HO.out]; unfold okS; rw [HWS.out, HN.out, decide_eq_false (by omega)]; rfl
    have h2 : r = no := by rw [← HR.out]; exact ans_no (by rw [HO.out, h1])
    subst h1 h2
    clear hwl hwt z0 z4 z7
    by_cases h60 : 60 < s.size
    · clear hbad
      go_wp2
      clear b0 b1 b2 b3 b4 b5 f0 f1 f2 f3 f4 f5
      have hz := blk_zero hK2.out
      have HB9 := Lib.hid (hB2.out.trans (hz.2 w.heap.size (Nat.le_refl _)))
      replace hz := hz.1
      generalize (((((w2.setCell _ _).setCell _ _).setCell _ _).setCell _ _).setCell _ _).setCell _ _ = w9 at *
      obtain ⟨⟨u0, u1, u2, u3, u4, u5⟩, -⟩ := blk_cells hz
      refine bodyPost_ret (v := .tuple #[.agg #[.int .i64 no.id, .string no.nm, .string no.cl, .int .i64 no.bo, .bool no.wo, .int .i64 no.ca], .bool false]) (by simp [results, Tryd.results12, go_sem, u0, u1, u2, u3, u4, u5]) rfl ⟨rfl, HB9.out⟩
    · have e6 : ((n : Int) != 6) = true := by simp; omega
      have e8 : ((n : Int) != 8) = true := by simp; omega
      have e60 : decide (60 < (s.size : Int)) = false := by simp; omega
      clear hbad h60
      go_wp2
      clear b0 b1 b2 b3 b4 b5 f0 f1 f2 f3 f4 f5
      have hz := blk_zero hK2.out
      have HB9 := Lib.hid (hB2.out.trans (hz.2 w.heap.size (Nat.le_refl _)))
      replace hz := hz.1
      generalize (((((w2.setCell _ _).setCell _ _).setCell _ _).setCell _ _).setCell _ _).setCell _ _ = w9 at *
      obtain ⟨⟨u0, u1, u2, u3, u4, u5⟩, -⟩ := blk_cells hz
      refine bodyPost_ret (v := .tuple #[.agg #[.int .i64 no.id, .string no.nm, .string no.cl, .int .i64 no.bo, .bool no.wo, .int .i64 no.ca], .bool false]) (by simp [results, Tryd.results12, go_sem, u0, u1, u2, u3, u4, u5]) rfl ⟨rfl, HB9.out⟩
  · rcases (show n = 6 ∨ n = 8 by omega) with rfl | rfl
    · have e60 : decide (60 < (s.size : Int)) = false := by simp; omega
      have hlen := Lib.hid (show decide (s.size ≤ 60 ∧ ((parts s 32).length = 6 ∨ (parts s 32).length = 8)) = true from decide_eq_true ⟨by omega, by rw [HWS.out, HN.out]; exact .inl rfl⟩)
      have d0 := row_at hR2.out 0 (by rw [HN.out]; omega)
      have d1 := row_at hR2.out 1 (by rw [HN.out]; omega)
      have d3 := row_at hR2.out 3 (by rw [HN.out]; omega)
      have d5 := row_at hR2.out 5 (by rw [HN.out]; omega)
      have Z0 := Lib.hid (show (sAt ws 0).size ≤ 1048576 from by omega)
      have Z4 := Lib.hid (show (sAt ws 4).size ≤ 1048576 from by omega)
      have Z7 := Lib.hid (show (sAt ws 7).size ≤ 1048576 from by omega)
      have HM := Lib.hid (show canR s = ⟨(val (sAt ws 0)).getD 0, sAt ws 1, sAt ws 3, (val (sAt ws 4)).getD 0, decide (sAt ws 5 = RpM.wB), 0⟩ from by unfold canR mk; rw [HWS.out, HN.out]; rfl)
      obtain ⟨x0, hx0⟩ : ∃ x, sAt ws 0 = x := ⟨_, rfl⟩
      obtain ⟨x1, hx1⟩ : ∃ x, sAt ws 1 = x := ⟨_, rfl⟩
      obtain ⟨x3, hx3⟩ : ∃ x, sAt ws 3 = x := ⟨_, rfl⟩
      obtain ⟨x4, hx4⟩ : ∃ x, sAt ws 4 = x := ⟨_, rfl⟩
      obtain ⟨x5, hx5⟩ : ∃ x, sAt ws 5 = x := ⟨_, rfl⟩
      obtain ⟨x7, hx7⟩ : ∃ x, sAt ws 7 = x := ⟨_, rfl⟩
      obtain ⟨tw, htw⟩ : ∃ b, decide (x5 = RpM.wB) = b := ⟨_, rfl⟩
      have q5 : (x5.toList == [119]) = tw := by rw [wq, htw]
      obtain ⟨n0, hn0⟩ : ∃ z, (val x0).getD 0 = z := ⟨_, rfl⟩
      obtain ⟨n4, hn4⟩ : ∃ z, (val x4).getD 0 = z := ⟨_, rfl⟩
      obtain ⟨n7, hn7⟩ : ∃ z, (val x7).getD 0 = z := ⟨_, rfl⟩
      rw [hx0] at d0 Z0 HM
      rw [hx1] at d1 HM
      rw [hx3] at d3 HM
      rw [hx4] at Z4 HM
      rw [hx5, htw] at HM
      rw [hx5] at d5
      rw [hx7] at Z7 
      rw [hn0, hn4] at HM
      have HX0 := Lib.hid hx0
      have HX4 := Lib.hid hx4
      have HX7 := Lib.hid hx7
      have HN0 := Lib.hid hn0
      have HN4 := Lib.hid hn4
      have HN7 := Lib.hid hn7
      have HBK := Lib.hid hK2.out.lt
      clear hbad hwl hwt z0 z4 z7 hx0 hx1 hx3 hx4 hx5 hx7 htw hn0 hn4 hn7 b0 b1 b2 b3 b4 b5 f0 f1 f2 f3 f4 f5
      go_upto_region 5 with (fail)
      have hg2 : g2 < w2.heap.size := World.block_lt_of_cell? w2 _ d0
      have HZ := Lib.hid (Blk.new w2.drew 25 #[.int .i64 no.id, .string no.nm, .string no.cl, .int .i64 no.bo, .bool no.wo, .int .i64 no.ca])
      have HBz := Lib.hid ((Below.refl w2.heap.size w2).drew.alloc (Nat.le_refl _) (.cells #[.int .i64 no.id, .string no.nm, .string no.cl, .int .i64 no.bo, .bool no.wo, .int .i64 no.ca] 25))
      refine wp_region_noPanic ?_
      refine wp_region_held_drew (S := (fun Wx : World => Wx.cell? ⟨g2, 1, none⟩ = some (.string x1) ∧ Wx.cell? ⟨g2, 3, none⟩ = some (.string x3) ∧ Wx.cell? ⟨g2, 5, none⟩ = some (.string x5))) (by kernel_rfl) ⟨d1, d3, d5⟩ (fun hHeld => ?_)
      refine wpAnyH_take (i := 0) (oi := _) (v := ?_) rfl (by kernel_rfl) (by kernel_rfl) (by kernel_rfl) (fun _ _ _ h => h) (Or.inl ⟨by rfl, ?_⟩) (by assumption) ?_; rotate_left; focus (intro W hSw; (try dsimp only at hSw); go_simp; (first | done | with_reducible rfl))
      (try simp only [List.getElem_toArray, List.getElem_cons_succ, List.getElem_cons_zero, Act.put, List.setIfInBounds_toArray, List.set_cons_zero, List.set_cons_succ])
      refine wpAnyH_take (i := 1) (oi := _) (v := ?_) rfl (by kernel_rfl) (by kernel_rfl) (by kernel_rfl) (fun _ _ _ h => h) (Or.inl ⟨by rfl, ?_⟩) (by assumption) ?_; rotate_left; focus (intro W hSw; (try dsimp only at hSw); go_simp; (first | done | with_reducible rfl))
      (try simp only [List.getElem_toArray, List.getElem_cons_succ, List.getElem_cons_zero, Act.put, List.setIfInBounds_toArray, List.set_cons_zero, List.set_cons_succ])
      refine wpAnyH_take (i := 2) (oi := _) (v := ?_) rfl (by kernel_rfl) (by kernel_rfl) (by kernel_rfl) (fun _ _ _ h => h) (Or.inl ⟨by rfl, ?_⟩) (by assumption) ?_; rotate_left; focus (intro W hSw; (try dsimp only at hSw); go_simp; (first | done | with_reducible rfl))
      (try simp only [List.getElem_toArray, List.getElem_cons_succ, List.getElem_cons_zero, Act.put, List.setIfInBounds_toArray, List.set_cons_zero, List.set_cons_succ])
      refine wpAnyH_take (i := 3) (oi := _) (v := ?_) rfl (by kernel_rfl) (by kernel_rfl) (by kernel_rfl) (fun _ _ _ h => h) (Or.inl ⟨by rfl, ?_⟩) (by assumption) ?_; rotate_left; focus (intro W hSw; (try dsimp only at hSw); go_simp; (first | done | with_reducible rfl))
      (try simp only [List.getElem_toArray, List.getElem_cons_succ, List.getElem_cons_zero, Act.put, List.setIfInBounds_toArray, List.set_cons_zero, List.set_cons_succ])
      refine wpAnyH_take (i := 4) (oi := _) (v := ?_) rfl (by kernel_rfl) (by kernel_rfl) (by kernel_rfl) (fun _ _ _ h => h) (Or.inl ⟨by rfl, ?_⟩) (by assumption) ?_; rotate_left; focus (intro W hSw; (try dsimp only at hSw); go_simp; (first | done | with_reducible rfl))
      (try simp only [List.getElem_toArray, List.getElem_cons_succ, List.getElem_cons_zero, Act.put, List.setIfInBounds_toArray, List.set_cons_zero, List.set_cons_succ])
      refine wpAnyH_take (i := 5) (oi := _) (v := ?_) rfl (by kernel_rfl) (by kernel_rfl) (by kernel_rfl) (fun _ _ _ h => h) (Or.inl ⟨by rfl, ?_⟩) (by assumption) ?_; rotate_left; focus (intro W hSw; (try dsimp only at hSw); go_simp; (first | done | with_reducible rfl))
      (try simp only [List.getElem_toArray, List.getElem_cons_succ, List.getElem_cons_zero, Act.put, List.setIfInBounds_toArray, List.set_cons_zero, List.set_cons_succ])
      refine wpAnyH_take (i := 6) (oi := _) (v := ?_) rfl (by kernel_rfl) (by kernel_rfl) (by kernel_rfl) (fun _ _ _ h => h) (Or.inl ⟨by rfl, ?_⟩) (by assumption) ?_; rotate_left; focus (intro W hSw; (try dsimp only at hSw); go_simp; (first | done | with_reducible rfl))
      (try simp only [List.getElem_toArray, List.getElem_cons_succ, List.getElem_cons_zero, Act.put, List.setIfInBounds_toArray, List.set_cons_zero, List.set_cons_succ])
      refine wpAnyH_take (i := 7) (oi := _) (v := ?_) rfl (by kernel_rfl) (by kernel_rfl) (by kernel_rfl) (fun _ _ _ h => h) (Or.inl ⟨by rfl, ?_⟩) (by assumption) ?_; rotate_left; focus (intro W hSw; (try dsimp only at hSw); go_simp; (first | done | with_reducible rfl))
      (try simp only [List.getElem_toArray, List.getElem_cons_succ, List.getElem_cons_zero, Act.put, List.setIfInBounds_toArray, List.set_cons_zero, List.set_cons_succ])
      refine wpAnyH_take (i := 8) (oi := _) (v := ?_) rfl (by kernel_rfl) (by kernel_rfl) (by kernel_rfl) (fun _ _ _ h => h) (Or.inl ⟨by rfl, ?_⟩) (by assumption) ?_; rotate_left; focus (intro W hSw; (try dsimp only at hSw); go_simp; (first | done | with_reducible rfl))
      (try simp only [List.getElem_toArray, List.getElem_cons_succ, List.getElem_cons_zero, Act.put, List.setIfInBounds_toArray, List.set_cons_zero, List.set_cons_succ])
      refine wpAnyH_take (i := 9) (oi := _) (v := ?_) rfl (by kernel_rfl) (by kernel_rfl) (by kernel_rfl) (fun _ _ _ h => h) (Or.inl ⟨by rfl, ?_⟩) (by assumption) ?_; rotate_left; focus (intro W hSw; (try dsimp only at hSw); go_simp; (first | done | with_reducible rfl))
      (try simp only [List.getElem_toArray, List.getElem_cons_succ, List.getElem_cons_zero, Act.put, List.setIfInBounds_toArray, List.set_cons_zero, List.set_cons_succ])
      refine wpAnyH_take (i := 10) (oi := _) (v := ?_) rfl (by kernel_rfl) (by kernel_rfl) (by kernel_rfl) (fun _ _ _ h => h) (Or.inl ⟨by rfl, ?_⟩) (by assumption) ?_; rotate_left; focus (intro W hSw; (try dsimp only at hSw); go_simp; (first | done | with_reducible rfl))
      (try simp only [List.getElem_toArray, List.getElem_cons_succ, List.getElem_cons_zero, Act.put, List.setIfInBounds_toArray, List.set_cons_zero, List.set_cons_succ])
      refine wpAnyH_ready (rs := [11]) (by kernel_rfl) (by simp) ?_
      refine AllReadyH.cons (o := _) rfl (fun K hK => ?_) AllReadyH.nil
      go_simp
      refine hK.out _ _ ⟨(HBz.out.cell hg2).trans d1, (HBz.out.cell hg2).trans d3, (HBz.out.cell hg2).trans d5⟩ (fun hsA => ?_)
      clear hK K hHeld
      have hst := blk_stored HZ.out (⟨0, x1, x3, 0, tw, 0⟩ : Ru)
      have HB5 := Lib.hid (HBz.out.trans (hst.2 w2.heap.size (Nat.le_refl _)))
      refine wpAnyH_ready (rs := [12]) (by kernel_rfl) (by simp) ?_
      refine AllReadyH.cons (o := _) rfl (fun K hK => ?_) AllReadyH.nil
      rw [if_pos (by rfl)]
      refine wp_store_mid _ _ _ rfl w2.heap.size 0 #[.int .i64 ((⟨0,x1,x3,0,tw,0⟩:Ru)).id, .string ((⟨0,x1,x3,0,tw,0⟩:Ru)).nm, .string ((⟨0,x1,x3,0,tw,0⟩:Ru)).cl, .int .i64 ((⟨0,x1,x3,0,tw,0⟩:Ru)).bo, .bool ((⟨0,x1,x3,0,tw,0⟩:Ru)).wo, .int .i64 ((⟨0,x1,x3,0,tw,0⟩:Ru)).ca] rfl rfl (RuK.blk_there HZ.out) RuK.size (RuK.one_cell (⟨0,x1,x3,0,tw,0⟩:Ru)) ?_
      (try simp only [Act.put, List.setIfInBounds_toArray, List.set_cons_zero, List.set_cons_succ, List.toList_toArray])
      refine hK.out _ _ ⟨(HB5.out.cell hg2).trans d1, (HB5.out.cell hg2).trans d3, (HB5.out.cell hg2).trans d5⟩ (fun hsB => ?_)
      clear hK K
      refine wpAnyH_done (by kernel_rfl) ?_ _
      refine NoPanic.normal ?_
      (try simp only [List.getElem_toArray, List.getElem_cons_succ, List.getElem_cons_zero, Act.put, List.setIfInBounds_toArray, List.set_cons_zero, List.set_cons_succ])
      generalize hW5 : World.setCells _ _ _ _ = w5
      have HP5 := Lib.hid (show PS w w2 w5 ws g2 (⟨0, x1, x3, 0, tw, 0⟩ : Ru) from by
        rw [← hW5]
        exact ⟨hB2.out.trans (HB5.out.mono hB2.out.size), hst.1, hK2.out.later HB5.out, RowAt.below hR2.out HB5.out, HBK.out, hg2⟩)
      clear hst HZ HBz d0 d1 d3 d5 HB5 hg2 HBK hR2 hK2 hB2 hsA hsB hW5
      have d0 := row_at HP5.out.R 0 (by rw [HN.out]; omega)
      rw [HX0.out] at d0
      go_wp2_with fail
      clear d0
      refine (Prs.read_any x0 _ Z0.out).mono ?_
      rintro e w6 ⟨he, hb⟩
      unfold RdPost at he
      rw [HN0.out] at he
      subst he
      have HP6 := Lib.hid (HP5.out.later (hb.below _))
      obtain ⟨o0, ho0⟩ : ∃ b, (val x0).isSome = b := ⟨_, rfl⟩
      rw [ho0]
      clear hb ho0 HP5
      obtain ⟨⟨c0, -⟩, y0, -⟩ := blk_cells HP6.out.K
      go_upto_region 7 with (fail)
      have HP7 := Lib.hid (HP6.out.set0 n0)
      clear c0 y0 HP6
      generalize World.setCell _ _ _ = w7 at *
      have d4 := row_at HP7.out.R 4 (by rw [HN.out]; omega)
      rw [HX4.out] at d4
      go_wp2_with fail
      clear d4
      refine (Prs.read_any x4 _ Z4.out).mono ?_
      rintro e w8 ⟨he, hb⟩
      unfold RdPost at he
      rw [HN4.out] at he
      subst he
      have HP8 := Lib.hid (HP7.out.later (hb.below _))
      obtain ⟨o4, ho4⟩ : ∃ b, (val x4).isSome = b := ⟨_, rfl⟩
      rw [ho4]
      clear hb ho4 HP7
      obtain ⟨⟨-, -, -, c3, -⟩, -, -, -, y3, -⟩ := blk_cells HP8.out.K
      go_upto_region 8 with (fail)
      have HP9 := Lib.hid (HP8.out.set3 n4)
      clear c3 y3 HP8
      generalize World.setCell _ _ _ = w9 at *
      have HPa := Lib.hid HP9.out
      clear HP9
      obtain ⟨wa, hwa⟩ : ∃ wa, w9 = wa := ⟨_, rfl⟩
      subst hwa
      obtain ⟨m, hm⟩ : ∃ m, canR s = m := ⟨_, rfl⟩
      have HMq := Lib.hid hm
      have HPm := Lib.hid (show PS w w2 w9 ws g2 m from by rw [← hm, HM.out]; exact HPa.out)
      have HIm := Lib.hid (show Is m from by rw [← hm]; exact HIS.out)
      clear hm HPa
      obtain ⟨⟨p0, p1, p2, p3, p4, p5⟩, -⟩ := blk_cells HPm.out.K
      go_wp2_with fail
      clear p0 p1 p2 p3 p4 p5
      refine (RuI.spec_one m HIm.out _).mono ?_
      rintro e wb ⟨rfl, hb⟩
      have HPb := Lib.hid (HPm.out.later hb)
      clear hb HPm
      obtain ⟨⟨p0, p1, p2, p3, p4, p5⟩, -⟩ := blk_cells HPb.out.K
      by_cases hok : okR m = true
      · have HOK := Lib.hid hok
        rw [hok]
        clear hok
        go_wp2_with fail
        clear p0 p1 p2 p3 p4 p5
        refine (RuT.text_any m HOK.out _).mono ?_
        rintro e wc ⟨rfl, hb⟩
        have HPc := Lib.hid (HPb.out.later hb)
        clear hb HPb
        obtain ⟨⟨p0, p1, p2, p3, p4, p5⟩, -⟩ := blk_cells HPc.out.K
        obtain ⟨⟨b0, b1, b2, b3, b4, b5⟩, f0, f1, f2, f3, f4, f5⟩ := blk_cells HPc.out.Q
        by_cases htx : txR m = s
        · have h1 : ok = true := by rw [← HO.out]; unfold okS; rw [hlen.out, HMq.out, HOK.out, decide_eq_true htx]; rfl
          have h2 : r = m := by rw [← HR.out, ans_yes (by rw [HO.out, h1]), HMq.out]
          have hq : ((txR m).toList == s.toList) = true := by rw [htx]; simp
          subst h1 h2
          clear htx
          have hgl := HPc.out.lt
          go_wp2
          clear b0 b1 b2 b3 b4 b5 f0 f1 f2 f3 f4 f5 p0 p1 p2 p3 p4 p5
          have hz := blk_all HPc.out.Q r
          have HB9 := Lib.hid (HPc.out.D.trans (hz.2 w.heap.size (Nat.le_refl _)))
          replace hz := hz.1
          generalize (((((wc.setCell _ _).setCell _ _).setCell _ _).setCell _ _).setCell _ _).setCell _ _ = w9 at *
          obtain ⟨⟨u0, u1, u2, u3, u4, u5⟩, -⟩ := blk_cells hz
          refine bodyPost_ret (v := .tuple #[.agg #[.int .i64 r.id, .string r.nm, .string r.cl, .int .i64 r.bo, .bool r.wo, .int .i64 r.ca], .bool true]) (by simp [results, Tryd.results12, go_sem, u0, u1, u2, u3, u4, u5]) rfl ⟨rfl, HB9.out⟩
        · have h1 : ok = false := by rw [← HO.out]; unfold okS; rw [HMq.out, decide_eq_false htx]; simp
          have h2 : r = no := by rw [← HR.out]; exact ans_no (by rw [HO.out, h1])
          have hq := str_beq htx
          subst h1 h2
          clear htx
          go_wp2
          clear b0 b1 b2 b3 b4 b5 f0 f1 f2 f3 f4 f5 p0 p1 p2 p3 p4 p5
          have hz := blk_zero HPc.out.Q
          have HB9 := Lib.hid (HPc.out.D.trans (hz.2 w.heap.size (Nat.le_refl _)))
          replace hz := hz.1
          generalize (((((wc.setCell _ _).setCell _ _).setCell _ _).setCell _ _).setCell _ _).setCell _ _ = w9 at *
          obtain ⟨⟨u0, u1, u2, u3, u4, u5⟩, -⟩ := blk_cells hz
          refine bodyPost_ret (v := .tuple #[.agg #[.int .i64 no.id, .string no.nm, .string no.cl, .int .i64 no.bo, .bool no.wo, .int .i64 no.ca], .bool false]) (by simp [results, Tryd.results12, go_sem, u0, u1, u2, u3, u4, u5]) rfl ⟨rfl, HB9.out⟩
      · have hok' : okR m = false := by simpa using hok
        have h1 : ok = false := by rw [← HO.out]; unfold okS; rw [HMq.out, hok']; simp
        have h2 : r = no := by rw [← HR.out]; exact ans_no (by rw [HO.out, h1])
        subst h1 h2
        rw [hok']
        clear hok hok'
        obtain ⟨⟨b0, b1, b2, b3, b4, b5⟩, f0, f1, f2, f3, f4, f5⟩ := blk_cells HPb.out.Q
        go_wp2
        clear b0 b1 b2 b3 b4 b5 f0 f1 f2 f3 f4 f5 p0 p1 p2 p3 p4 p5
        have hz := blk_zero HPb.out.Q
        have HB9 := Lib.hid (HPb.out.D.trans (hz.2 w.heap.size (Nat.le_refl _)))
        replace hz := hz.1
        generalize (((((wb.setCell _ _).setCell _ _).setCell _ _).setCell _ _).setCell _ _).setCell _ _ = w9 at *
        obtain ⟨⟨u0, u1, u2, u3, u4, u5⟩, -⟩ := blk_cells hz
        refine bodyPost_ret (v := .tuple #[.agg #[.int .i64 no.id, .string no.nm, .string no.cl, .int .i64 no.bo, .bool no.wo, .int .i64 no.ca], .bool false]) (by simp [results, Tryd.results12, go_sem, u0, u1, u2, u3, u4, u5]) rfl ⟨rfl, HB9.out⟩
    · have e60 : decide (60 < (s.size : Int)) = false := by simp; omega
      have hlen := Lib.hid (show decide (s.size ≤ 60 ∧ ((parts s 32).length = 6 ∨ (parts s 32).length = 8)) = true from decide_eq_true ⟨by omega, by rw [HWS.out, HN.out]; exact .inr rfl⟩)
      have d0 := row_at hR2.out 0 (by rw [HN.out]; omega)
      have d1 := row_at hR2.out 1 (by rw [HN.out]; omega)
      have d3 := row_at hR2.out 3 (by rw [HN.out]; omega)
      have d5 := row_at hR2.out 5 (by rw [HN.out]; omega)
      have Z0 := Lib.hid (show (sAt ws 0).size ≤ 1048576 from by omega)
      have Z4 := Lib.hid (show (sAt ws 4).size ≤ 1048576 from by omega)
      have Z7 := Lib.hid (show (sAt ws 7).size ≤ 1048576 from by omega)
      have HM := Lib.hid (show canR s = ⟨(val (sAt ws 0)).getD 0, sAt ws 1, sAt ws 3, (val (sAt ws 4)).getD 0, decide (sAt ws 5 = RpM.wB), (val (sAt ws 7)).getD 0⟩ from by unfold canR mk; rw [HWS.out, HN.out]; rfl)
      obtain ⟨x0, hx0⟩ : ∃ x, sAt ws 0 = x := ⟨_, rfl⟩
      obtain ⟨x1, hx1⟩ : ∃ x, sAt ws 1 = x := ⟨_, rfl⟩
      obtain ⟨x3, hx3⟩ : ∃ x, sAt ws 3 = x := ⟨_, rfl⟩
      obtain ⟨x4, hx4⟩ : ∃ x, sAt ws 4 = x := ⟨_, rfl⟩
      obtain ⟨x5, hx5⟩ : ∃ x, sAt ws 5 = x := ⟨_, rfl⟩
      obtain ⟨x7, hx7⟩ : ∃ x, sAt ws 7 = x := ⟨_, rfl⟩
      obtain ⟨tw, htw⟩ : ∃ b, decide (x5 = RpM.wB) = b := ⟨_, rfl⟩
      have q5 : (x5.toList == [119]) = tw := by rw [wq, htw]
      obtain ⟨n0, hn0⟩ : ∃ z, (val x0).getD 0 = z := ⟨_, rfl⟩
      obtain ⟨n4, hn4⟩ : ∃ z, (val x4).getD 0 = z := ⟨_, rfl⟩
      obtain ⟨n7, hn7⟩ : ∃ z, (val x7).getD 0 = z := ⟨_, rfl⟩
      rw [hx0] at d0 Z0 HM
      rw [hx1] at d1 HM
      rw [hx3] at d3 HM
      rw [hx4] at Z4 HM
      rw [hx5, htw] at HM
      rw [hx5] at d5
      rw [hx7] at Z7 HM
      rw [hn0, hn4, hn7] at HM
      have HX0 := Lib.hid hx0
      have HX4 := Lib.hid hx4
      have HX7 := Lib.hid hx7
      have HN0 := Lib.hid hn0
      have HN4 := Lib.hid hn4
      have HN7 := Lib.hid hn7
      have HBK := Lib.hid hK2.out.lt
      clear hbad hwl hwt z0 z4 z7 hx0 hx1 hx3 hx4 hx5 hx7 htw hn0 hn4 hn7 b0 b1 b2 b3 b4 b5 f0 f1 f2 f3 f4 f5
      go_upto_region 5 with (fail)
      have hg2 : g2 < w2.heap.size := World.block_lt_of_cell? w2 _ d0
      have HZ := Lib.hid (Blk.new w2.drew 25 #[.int .i64 no.id, .string no.nm, .string no.cl, .int .i64 no.bo, .bool no.wo, .int .i64 no.ca])
      have HBz := Lib.hid ((Below.refl w2.heap.size w2).drew.alloc (Nat.le_refl _) (.cells #[.int .i64 no.id, .string no.nm, .string no.cl, .int .i64 no.bo, .bool no.wo, .int .i64 no.ca] 25))
      refine wp_region_noPanic ?_
      refine wp_region_held_drew (S := (fun Wx : World => Wx.cell? ⟨g2, 1, none⟩ = some (.string x1) ∧ Wx.cell? ⟨g2, 3, none⟩ = some (.string x3) ∧ Wx.cell? ⟨g2, 5, none⟩ = some (.string x5))) (by kernel_rfl) ⟨d1, d3, d5⟩ (fun hHeld => ?_)
      refine wpAnyH_take (i := 0) (oi := _) (v := ?_) rfl (by kernel_rfl) (by kernel_rfl) (by kernel_rfl) (fun _ _ _ h => h) (Or.inl ⟨by rfl, ?_⟩) (by assumption) ?_; rotate_left; focus (intro W hSw; (try dsimp only at hSw); go_simp; (first | done | with_reducible rfl))
      (try simp only [List.getElem_toArray, List.getElem_cons_succ, List.getElem_cons_zero, Act.put, List.setIfInBounds_toArray, List.set_cons_zero, List.set_cons_succ])
      refine wpAnyH_take (i := 1) (oi := _) (v := ?_) rfl (by kernel_rfl) (by kernel_rfl) (by kernel_rfl) (fun _ _ _ h => h) (Or.inl ⟨by rfl, ?_⟩) (by assumption) ?_; rotate_left; focus (intro W hSw; (try dsimp only at hSw); go_simp; (first | done | with_reducible rfl))
      (try simp only [List.getElem_toArray, List.getElem_cons_succ, List.getElem_cons_zero, Act.put, List.setIfInBounds_toArray, List.set_cons_zero, List.set_cons_succ])
      refine wpAnyH_take (i := 2) (oi := _) (v := ?_) rfl (by kernel_rfl) (by kernel_rfl) (by kernel_rfl) (fun _ _ _ h => h) (Or.inl ⟨by rfl, ?_⟩) (by assumption) ?_; rotate_left; focus (intro W hSw; (try dsimp only at hSw); go_simp; (first | done | with_reducible rfl))
      (try simp only [List.getElem_toArray, List.getElem_cons_succ, List.getElem_cons_zero, Act.put, List.setIfInBounds_toArray, List.set_cons_zero, List.set_cons_succ])
      refine wpAnyH_take (i := 3) (oi := _) (v := ?_) rfl (by kernel_rfl) (by kernel_rfl) (by kernel_rfl) (fun _ _ _ h => h) (Or.inl ⟨by rfl, ?_⟩) (by assumption) ?_; rotate_left; focus (intro W hSw; (try dsimp only at hSw); go_simp; (first | done | with_reducible rfl))
      (try simp only [List.getElem_toArray, List.getElem_cons_succ, List.getElem_cons_zero, Act.put, List.setIfInBounds_toArray, List.set_cons_zero, List.set_cons_succ])
      refine wpAnyH_take (i := 4) (oi := _) (v := ?_) rfl (by kernel_rfl) (by kernel_rfl) (by kernel_rfl) (fun _ _ _ h => h) (Or.inl ⟨by rfl, ?_⟩) (by assumption) ?_; rotate_left; focus (intro W hSw; (try dsimp only at hSw); go_simp; (first | done | with_reducible rfl))
      (try simp only [List.getElem_toArray, List.getElem_cons_succ, List.getElem_cons_zero, Act.put, List.setIfInBounds_toArray, List.set_cons_zero, List.set_cons_succ])
      refine wpAnyH_take (i := 5) (oi := _) (v := ?_) rfl (by kernel_rfl) (by kernel_rfl) (by kernel_rfl) (fun _ _ _ h => h) (Or.inl ⟨by rfl, ?_⟩) (by assumption) ?_; rotate_left; focus (intro W hSw; (try dsimp only at hSw); go_simp; (first | done | with_reducible rfl))
      (try simp only [List.getElem_toArray, List.getElem_cons_succ, List.getElem_cons_zero, Act.put, List.setIfInBounds_toArray, List.set_cons_zero, List.set_cons_succ])
      refine wpAnyH_take (i := 6) (oi := _) (v := ?_) rfl (by kernel_rfl) (by kernel_rfl) (by kernel_rfl) (fun _ _ _ h => h) (Or.inl ⟨by rfl, ?_⟩) (by assumption) ?_; rotate_left; focus (intro W hSw; (try dsimp only at hSw); go_simp; (first | done | with_reducible rfl))
      (try simp only [List.getElem_toArray, List.getElem_cons_succ, List.getElem_cons_zero, Act.put, List.setIfInBounds_toArray, List.set_cons_zero, List.set_cons_succ])
      refine wpAnyH_take (i := 7) (oi := _) (v := ?_) rfl (by kernel_rfl) (by kernel_rfl) (by kernel_rfl) (fun _ _ _ h => h) (Or.inl ⟨by rfl, ?_⟩) (by assumption) ?_; rotate_left; focus (intro W hSw; (try dsimp only at hSw); go_simp; (first | done | with_reducible rfl))
      (try simp only [List.getElem_toArray, List.getElem_cons_succ, List.getElem_cons_zero, Act.put, List.setIfInBounds_toArray, List.set_cons_zero, List.set_cons_succ])
      refine wpAnyH_take (i := 8) (oi := _) (v := ?_) rfl (by kernel_rfl) (by kernel_rfl) (by kernel_rfl) (fun _ _ _ h => h) (Or.inl ⟨by rfl, ?_⟩) (by assumption) ?_; rotate_left; focus (intro W hSw; (try dsimp only at hSw); go_simp; (first | done | with_reducible rfl))
      (try simp only [List.getElem_toArray, List.getElem_cons_succ, List.getElem_cons_zero, Act.put, List.setIfInBounds_toArray, List.set_cons_zero, List.set_cons_succ])
      refine wpAnyH_take (i := 9) (oi := _) (v := ?_) rfl (by kernel_rfl) (by kernel_rfl) (by kernel_rfl) (fun _ _ _ h => h) (Or.inl ⟨by rfl, ?_⟩) (by assumption) ?_; rotate_left; focus (intro W hSw; (try dsimp only at hSw); go_simp; (first | done | with_reducible rfl))
      (try simp only [List.getElem_toArray, List.getElem_cons_succ, List.getElem_cons_zero, Act.put, List.setIfInBounds_toArray, List.set_cons_zero, List.set_cons_succ])
      refine wpAnyH_take (i := 10) (oi := _) (v := ?_) rfl (by kernel_rfl) (by kernel_rfl) (by kernel_rfl) (fun _ _ _ h => h) (Or.inl ⟨by rfl, ?_⟩) (by assumption) ?_; rotate_left; focus (intro W hSw; (try dsimp only at hSw); go_simp; (first | done | with_reducible rfl))
      (try simp only [List.getElem_toArray, List.getElem_cons_succ, List.getElem_cons_zero, Act.put, List.setIfInBounds_toArray, List.set_cons_zero, List.set_cons_succ])
      refine wpAnyH_ready (rs := [11]) (by kernel_rfl) (by simp) ?_
      refine AllReadyH.cons (o := _) rfl (fun K hK => ?_) AllReadyH.nil
      go_simp
      refine hK.out _ _ ⟨(HBz.out.cell hg2).trans d1, (HBz.out.cell hg2).trans d3, (HBz.out.cell hg2).trans d5⟩ (fun hsA => ?_)
      clear hK K hHeld
      have hst := blk_stored HZ.out (⟨0, x1, x3, 0, tw, 0⟩ : Ru)
      have HB5 := Lib.hid (HBz.out.trans (hst.2 w2.heap.size (Nat.le_refl _)))
      refine wpAnyH_ready (rs := [12]) (by kernel_rfl) (by simp) ?_
      refine AllReadyH.cons (o := _) rfl (fun K hK => ?_) AllReadyH.nil
      rw [if_pos (by rfl)]
      refine wp_store_mid _ _ _ rfl w2.heap.size 0 #[.int .i64 ((⟨0,x1,x3,0,tw,0⟩:Ru)).id, .string ((⟨0,x1,x3,0,tw,0⟩:Ru)).nm, .string ((⟨0,x1,x3,0,tw,0⟩:Ru)).cl, .int .i64 ((⟨0,x1,x3,0,tw,0⟩:Ru)).bo, .bool ((⟨0,x1,x3,0,tw,0⟩:Ru)).wo, .int .i64 ((⟨0,x1,x3,0,tw,0⟩:Ru)).ca] rfl rfl (RuK.blk_there HZ.out) RuK.size (RuK.one_cell (⟨0,x1,x3,0,tw,0⟩:Ru)) ?_
      (try simp only [Act.put, List.setIfInBounds_toArray, List.set_cons_zero, List.set_cons_succ, List.toList_toArray])
      refine hK.out _ _ ⟨(HB5.out.cell hg2).trans d1, (HB5.out.cell hg2).trans d3, (HB5.out.cell hg2).trans d5⟩ (fun hsB => ?_)
      clear hK K
      refine wpAnyH_done (by kernel_rfl) ?_ _
      refine NoPanic.normal ?_
      (try simp only [List.getElem_toArray, List.getElem_cons_succ, List.getElem_cons_zero, Act.put, List.setIfInBounds_toArray, List.set_cons_zero, List.set_cons_succ])
      generalize hW5 : World.setCells _ _ _ _ = w5
      have HP5 := Lib.hid (show PS w w2 w5 ws g2 (⟨0, x1, x3, 0, tw, 0⟩ : Ru) from by
        rw [← hW5]
        exact ⟨hB2.out.trans (HB5.out.mono hB2.out.size), hst.1, hK2.out.later HB5.out, RowAt.below hR2.out HB5.out, HBK.out, hg2⟩)
      clear hst HZ HBz d0 d1 d3 d5 HB5 hg2 HBK hR2 hK2 hB2 hsA hsB hW5
      have d0 := row_at HP5.out.R 0 (by rw [HN.out]; omega)
      rw [HX0.out] at d0
      go_wp2_with fail
      clear d0
      refine (Prs.read_any x0 _ Z0.out).mono ?_
      rintro e w6 ⟨he, hb⟩
      unfold RdPost at he
      rw [HN0.out] at he
      subst he
      have HP6 := Lib.hid (HP5.out.later (hb.below _))
      obtain ⟨o0, ho0⟩ : ∃ b, (val x0).isSome = b := ⟨_, rfl⟩
      rw [ho0]
      clear hb ho0 HP5
      obtain ⟨⟨c0, -⟩, y0, -⟩ := blk_cells HP6.out.K
      go_upto_region 7 with (fail)
      have HP7 := Lib.hid (HP6.out.set0 n0)
      clear c0 y0 HP6
      generalize World.setCell _ _ _ = w7 at *
      have d4 := row_at HP7.out.R 4 (by rw [HN.out]; omega)
      rw [HX4.out] at d4
      go_wp2_with fail
      clear d4
      refine (Prs.read_any x4 _ Z4.out).mono ?_
      rintro e w8 ⟨he, hb⟩
      unfold RdPost at he
      rw [HN4.out] at he
      subst he
      have HP8 := Lib.hid (HP7.out.later (hb.below _))
      obtain ⟨o4, ho4⟩ : ∃ b, (val x4).isSome = b := ⟨_, rfl⟩
      rw [ho4]
      clear hb ho4 HP7
      obtain ⟨⟨-, -, -, c3, -⟩, -, -, -, y3, -⟩ := blk_cells HP8.out.K
      go_upto_region 8 with (fail)
      have HP9 := Lib.hid (HP8.out.set3 n4)
      clear c3 y3 HP8
      generalize World.setCell _ _ _ = w9 at *
      have d7 := row_at HP9.out.R 7 (by rw [HN.out]; omega)
      rw [HX7.out] at d7
      go_wp2_with fail
      clear d7
      refine (Prs.read_any x7 _ Z7.out).mono ?_
      rintro e w10 ⟨he, hb⟩
      unfold RdPost at he
      rw [HN7.out] at he
      subst he
      have HP10 := Lib.hid (HP9.out.later (hb.below _))
      obtain ⟨o7, ho7⟩ : ∃ b, (val x7).isSome = b := ⟨_, rfl⟩
      rw [ho7]
      clear hb ho7 HP9
      obtain ⟨⟨-, -, -, -, -, c5⟩, -, -, -, -, -, y5⟩ := blk_cells HP10.out.K
      go_upto_region 10 with (fail)
      have HPa := Lib.hid (HP10.out.set5 n7)
      clear c5 y5 HP10
      generalize World.setCell _ _ _ = wa at *
      obtain ⟨m, hm⟩ : ∃ m, canR s = m := ⟨_, rfl⟩
      have HMq := Lib.hid hm
      have HPm := Lib.hid (show PS w w2 wa ws g2 m from by rw [← hm, HM.out]; exact HPa.out)
      have HIm := Lib.hid (show Is m from by rw [← hm]; exact HIS.out)
      clear hm HPa
      obtain ⟨⟨p0, p1, p2, p3, p4, p5⟩, -⟩ := blk_cells HPm.out.K
      go_wp2_with fail
      clear p0 p1 p2 p3 p4 p5
      refine (RuI.spec_one m HIm.out _).mono ?_
      rintro e wb ⟨rfl, hb⟩
      have HPb := Lib.hid (HPm.out.later hb)
      clear hb HPm
      obtain ⟨⟨p0, p1, p2, p3, p4, p5⟩, -⟩ := blk_cells HPb.out.K
      by_cases hok : okR m = true
      · have HOK := Lib.hid hok
        rw [hok]
        clear hok
        go_wp2_with fail
        clear p0 p1 p2 p3 p4 p5
        refine (RuT.text_any m HOK.out _).mono ?_
        rintro e wc ⟨rfl, hb⟩
        have HPc := Lib.hid (HPb.out.later hb)
        clear hb HPb
        obtain ⟨⟨p0, p1, p2, p3, p4, p5⟩, -⟩ := blk_cells HPc.out.K
        obtain ⟨⟨b0, b1, b2, b3, b4, b5⟩, f0, f1, f2, f3, f4, f5⟩ := blk_cells HPc.out.Q
        by_cases htx : txR m = s
        · have h1 : ok = true := by rw [← HO.out]; unfold okS; rw [hlen.out, HMq.out, HOK.out, decide_eq_true htx]; rfl
          have h2 : r = m := by rw [← HR.out, ans_yes (by rw [HO.out, h1]), HMq.out]
          have hq : ((txR m).toList == s.toList) = true := by rw [htx]; simp
          subst h1 h2
          clear htx
          have hgl := HPc.out.lt
          go_wp2
          clear b0 b1 b2 b3 b4 b5 f0 f1 f2 f3 f4 f5 p0 p1 p2 p3 p4 p5
          have hz := blk_all HPc.out.Q r
          have HB9 := Lib.hid (HPc.out.D.trans (hz.2 w.heap.size (Nat.le_refl _)))
          replace hz := hz.1
          generalize (((((wc.setCell _ _).setCell _ _).setCell _ _).setCell _ _).setCell _ _).setCell _ _ = w9 at *
          obtain ⟨⟨u0, u1, u2, u3, u4, u5⟩, -⟩ := blk_cells hz
          refine bodyPost_ret (v := .tuple #[.agg #[.int .i64 r.id, .string r.nm, .string r.cl, .int .i64 r.bo, .bool r.wo, .int .i64 r.ca], .bool true]) (by simp [results, Tryd.results12, go_sem, u0, u1, u2, u3, u4, u5]) rfl ⟨rfl, HB9.out⟩
        · have h1 : ok = false := by rw [← HO.out]; unfold okS; rw [HMq.out, decide_eq_false htx]; simp
          have h2 : r = no := by rw [← HR.out]; exact ans_no (by rw [HO.out, h1])
          have hq := str_beq htx
          subst h1 h2
          clear htx
          go_wp2
          clear b0 b1 b2 b3 b4 b5 f0 f1 f2 f3 f4 f5 p0 p1 p2 p3 p4 p5
          have hz := blk_zero HPc.out.Q
          have HB9 := Lib.hid (HPc.out.D.trans (hz.2 w.heap.size (Nat.le_refl _)))
          replace hz := hz.1
          generalize (((((wc.setCell _ _).setCell _ _).setCell _ _).setCell _ _).setCell _ _).setCell _ _ = w9 at *
          obtain ⟨⟨u0, u1, u2, u3, u4, u5⟩, -⟩ := blk_cells hz
          refine bodyPost_ret (v := .tuple #[.agg #[.int .i64 no.id, .string no.nm, .string no.cl, .int .i64 no.bo, .bool no.wo, .int .i64 no.ca], .bool false]) (by simp [results, Tryd.results12, go_sem, u0, u1, u2, u3, u4, u5]) rfl ⟨rfl, HB9.out⟩
      · have hok' : okR m = false := by simpa using hok
        have h1 : ok = false := by rw [← HO.out]; unfold okS; rw [HMq.out, hok']; simp
        have h2 : r = no := by rw [← HR.out]; exact ans_no (by rw [HO.out, h1])
        subst h1 h2
        rw [hok']
        clear hok hok'
        obtain ⟨⟨b0, b1, b2, b3, b4, b5⟩, f0, f1, f2, f3, f4, f5⟩ := blk_cells HPb.out.Q
        go_wp2
        clear b0 b1 b2 b3 b4 b5 f0 f1 f2 f3 f4 f5 p0 p1 p2 p3 p4 p5
        have hz := blk_zero HPb.out.Q
        have HB9 := Lib.hid (HPb.out.D.trans (hz.2 w.heap.size (Nat.le_refl _)))
        replace hz := hz.1
        generalize (((((wb.setCell _ _).setCell _ _).setCell _ _).setCell _ _).setCell _ _).setCell _ _ = w9 at *
        obtain ⟨⟨u0, u1, u2, u3, u4, u5⟩, -⟩ := blk_cells hz
        refine bodyPost_ret (v := .tuple #[.agg #[.int .i64 no.id, .string no.nm, .string no.cl, .int .i64 no.bo, .bool no.wo, .int .i64 no.ca], .bool false]) (by simp [results, Tryd.results12, go_sem, u0, u1, u2, u3, u4, u5]) rfl ⟨rfl, HB9.out⟩

end Go.Proofs.YtjngnjokbnklfaaDoor.RpS
