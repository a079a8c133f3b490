/- ClassText: the program's text; both. -/
import Derived.Test.YtleoljnofdajfaaGreatDoorKtT
import Derived.Test.YtleoljnofdajfaaGreatDoorRuQ
namespace Go.Proofs.YtleoljnofdajfaaGreatDoor.KtQ
open Go.RowKit Lb Bk InA Wd KlK KlI Fmt KtT
open RuQ (tab_below itoa_b str_read join_size)
set_option linter.unusedSimpArgs false
set_option linter.unusedVariables false

def ws (r : Kl) (ag sx : ByteArray) : List ByteArray := [fmtB r.id, r.nm, ag, sx, ⟨#[99, 111, 117, 114, 115, 101]⟩, fmtB r.co, ⟨#[109, 111, 115, 116]⟩, fmtB r.mo]
/-- What stands behind the words. -/
structure Wd8 (w : World) (r : Kl) (ag sx : ByteArray) (B : Nat) (wx : World) : Prop where
  b : Below w.heap.size w wx
  tab : Tab wx
  words : StrB wx B (ws r ag sx)
  lo : w.heap.size ≤ B
theorem join8 (r : Kl) (sx : ByteArray) (h : sxK r = (⟨#[32]⟩ ++ sx : ByteArray)) : jn ⟨#[32]⟩ (ws r (agK r) sx) 8 = txK r := by
  have e : (⟨#[32, 99, 111, 117, 114, 115, 101, 32]⟩ : ByteArray) = ⟨#[32]⟩ ++ (⟨#[99, 111, 117, 114, 115, 101]⟩ ++ ⟨#[32]⟩) := rfl
  have e2 : (⟨#[32, 109, 111, 115, 116, 32]⟩ : ByteArray) = ⟨#[32]⟩ ++ (⟨#[109, 111, 115, 116]⟩ ++ ⟨#[32]⟩) := rfl
  unfold txK tK agK
  rw [h, e, e2]
  simp only [jn, ws, sAt, List.getD_cons_zero, List.getD_cons_succ, ByteArray.append_assoc]
theorem tx_size (r : Kl) (h : okK r = true) : (txK r).size ≤ 100 := by
  obtain ⟨hid1, hid2⟩ := ok_id h
  obtain ⟨hlo, hlh, hhi⟩ := ok_ages h
  obtain ⟨hco1, hco2⟩ := ok_co h
  obtain ⟨hmo1, hmo2⟩ := ok_mo h
  have hn := word_size (ok_word h)
  have s1 := fmtB_size r.id (by omega) (by omega)
  have s2 := fmtB_size r.lo (by omega) (by omega)
  have s3 := fmtB_size r.hi (by omega) (by omega)
  have s4 := fmtB_size r.co (by omega) (by omega)
  have s5 := fmtB_size r.mo (by omega) (by omega)
  have s6 : (sxK r).size ≤ 3 := by unfold sxK; split <;> (try split) <;> decide
  unfold txK tK
  simp only [ByteArray.size_append]
  show _ + 1 + _ + 1 + _ + 1 + _ + _ + 8 + _ + 6 + _ ≤ 100
  omega

set_option maxRecDepth 100000 in
set_option maxHeartbeats 8000000 in
theorem impl_any (r : Kl) (hr : Is r) (w : World) (ht : Tab w) : Calls Tryz.prog 6 #[.agg #[.int .i64 r.id, .string r.nm, .int .i64 r.lo, .int .i64 r.hi, .bool r.wo, .bool r.me, .int .i64 r.co, .int .i64 r.mo]] w fun e w' => e = .returned (.tuple #[.string (ktx r), .bool (okK r)]) ∧ Below w.heap.size w w' := by
  have hB0 := (Below.refl w.heap.size w).alloc (Nat.le_refl _) (.cells #[.int .i64 r.id, .string r.nm, .int .i64 r.lo, .int .i64 r.hi, .bool r.wo, .bool r.me, .int .i64 r.co, .int .i64 r.mo] 25)
  have HB := Lib.hid hB0
  have HT := Lib.hid (tab_below ht hB0)
  have HK := Lib.hid (Blk.new w 25 #[.int .i64 r.id, .string r.nm, .int .i64 r.lo, .int .i64 r.hi, .bool r.wo, .bool r.me, .int .i64 r.co, .int .i64 r.mo])
  obtain ⟨⟨p0, p1, p2, p3, p4, p5, p6, p7⟩, -⟩ := blk_cells HK.out
  cases hok : okK r with
  | false =>
    have c1 := Lib.hid (show ∀ w, Calls Tryz.prog 8 #[.agg #[.int .i64 r.id, .string r.nm, .int .i64 r.lo, .int .i64 r.hi, .bool r.wo, .bool r.me, .int .i64 r.co, .int .i64 r.mo]] w fun e w' => e = .returned (.bool false) ∧ Below w.heap.size w w' from fun w => by have := KlI.impl_any r hr w; rw [hok] at this; exact this)
    have HX := Lib.hid (show ktx r = ⟨#[]⟩ from by unfold ktx; rw [hok]; rfl)
    clear hok hr ht hB0
    go_enter Tryz.func6, Tryz.ntmps6
    go_wp2_with fail
    refine (c1.out _).mono ?_
    rintro e w1 ⟨rfl, hb⟩
    have HB1 := Lib.hid (HB.out.trans (hb.mono (by simp)))
    clear hb
    go_wp2
    go_ret2
    exact ⟨by rw [HX.out]; rfl, HB1.out⟩
  | true =>
    have c1 := Lib.hid (show ∀ w, Calls Tryz.prog 8 #[.agg #[.int .i64 r.id, .string r.nm, .int .i64 r.lo, .int .i64 r.hi, .bool r.wo, .bool r.me, .int .i64 r.co, .int .i64 r.mo]] w fun e w' => e = .returned (.bool true) ∧ Below w.heap.size w w' from fun w => by have := KlI.impl_any r hr w; rw [hok] at this; exact this)
    have HR := Lib.hid (show ktx r = txK r from by unfold ktx; rw [hok]; rfl)
    have hsz := tx_size r hok
    obtain ⟨hid1, hid2⟩ := ok_id hok
    obtain ⟨hlo, hlh, hhi⟩ := ok_ages hok
    obtain ⟨hco1, hco2⟩ := ok_co hok
    obtain ⟨hmo1, hmo2⟩ := ok_mo hok
    have s2 := fmtB_size r.lo (by omega) (by omega)
    have s3 := fmtB_size r.hi (by omega) (by omega)
    have hsx := ok_sex hok
    obtain ⟨wo, hwo⟩ : ∃ d, r.wo = d := ⟨_, rfl⟩
    obtain ⟨me, hme⟩ : ∃ d, r.me = d := ⟨_, rfl⟩
    rw [hwo, hme] at hsx
    have HW := Lib.hid hwo
    have HM := Lib.hid hme
    clear hr ht hB0 hwo hme
    go_enter Tryz.func6, Tryz.ntmps6
    go_wp2_with fail
    refine (c1.out _).mono ?_
    rintro e w1 ⟨rfl, hb⟩
    have HB1 := Lib.hid (HB.out.trans (hb.mono (by simp)))
    have HK1 := Lib.hid (HK.out.later hb)
    have HT1 := Lib.hid (tab_below HT.out hb)
    clear hb HB HK HT p0 p1 p2 p3 p4 p5 p6 p7
    obtain ⟨⟨p0, p1, p2, p3, p4, p5, p6, p7⟩, -⟩ := blk_cells HK1.out
    rw [HW.out] at p4
    rw [HM.out] at p5
    cases wo with
    | true =>
      cases me with
      | true =>
        go_upto_region 8 with (fail)
        have HBd := Lib.hid (show Below w.heap.size w w1.drew from HB1.out.drew)
        have HKd := Lib.hid (show Blk w1.drew w.heap.size 25 #[.int .i64 r.id, .string r.nm, .int .i64 r.lo, .int .i64 r.hi, .bool r.wo, .bool r.me, .int .i64 r.co, .int .i64 r.mo] from HK1.out)
        have HTd := Lib.hid (show Tab w1.drew from tab_below HT1.out (Below.refl _ _).drew)
        have hq1 : (9223372036854775807 < (fmtB r.lo).size + 1) = False := eq_false (by omega)
        have hq2 : (9223372036854775807 < (fmtB r.lo).size + 1 + (fmtB r.hi).size) = False := eq_false (by omega)
        have hq3 : (9223372036854775807 < (fmtB r.lo ++ ⟨#[45]⟩).size + (fmtB r.hi).size) = False := eq_false (by rw [ByteArray.size_append]; show ¬ _ < _ + 1 + _; omega)
        go_cut [5] from 18 to 26 (fun s wx => s = .string (agK r) ∧ Below w.heap.size w wx ∧ Blk wx w.heap.size 25 #[.int .i64 r.id, .string r.nm, .int .i64 r.lo, .int .i64 r.hi, .bool r.wo, .bool r.me, .int .i64 r.co, .int .i64 r.mo] ∧ Tab wx)
        case first =>
          refine wp_region_noPanic ?_
          refine wp_region_held_drew (S := (fun Wx : World => Wx.cell? ⟨w.heap.size, 2, none⟩ = some (.int .i64 r.lo) ∧ Wx.cell? ⟨w.heap.size, 3, none⟩ = some (.int .i64 r.hi))) (by kernel_rfl) ⟨p2, p3⟩ (fun hHeld => ?_)
          refine wpAnyH_take (i := 0) (oi := _) (v := ?_) rfl (by kernel_rfl) (by kernel_rfl) (by kernel_rfl) (fun _ _ _ h => h) (Or.inl ⟨by rfl, ?_⟩) (by assumption) ?_; rotate_left; focus (intro W hSw; (try dsimp only at hSw); go_simp; (first | done | with_reducible rfl))
          (try simp only [List.getElem_toArray, List.getElem_cons_succ, List.getElem_cons_zero, Act.put, List.setIfInBounds_toArray, List.set_cons_zero, List.set_cons_succ])
          refine wpAnyH_take (i := 1) (oi := _) (v := ?_) rfl (by kernel_rfl) (by kernel_rfl) (by kernel_rfl) (fun _ _ _ h => h) (Or.inl ⟨by rfl, ?_⟩) (by assumption) ?_; rotate_left; focus (intro W hSw; (try dsimp only at hSw); go_simp; (first | done | with_reducible rfl))
          (try simp only [List.getElem_toArray, List.getElem_cons_succ, List.getElem_cons_zero, Act.put, List.setIfInBounds_toArray, List.set_cons_zero, List.set_cons_succ])
          refine wpAnyH_take (i := 4) (oi := _) (v := ?_) rfl (by kernel_rfl) (by kernel_rfl) (by kernel_rfl) (fun _ _ _ h => h) (Or.inl ⟨by rfl, ?_⟩) (by assumption) ?_; rotate_left; focus (intro W hSw; (try dsimp only at hSw); go_simp; (first | done | with_reducible rfl))
          (try simp only [List.getElem_toArray, List.getElem_cons_succ, List.getElem_cons_zero, Act.put, List.setIfInBounds_toArray, List.set_cons_zero, List.set_cons_succ])
          refine wpAnyH_take (i := 5) (oi := _) (v := ?_) rfl (by kernel_rfl) (by kernel_rfl) (by kernel_rfl) (fun _ _ _ h => h) (Or.inl ⟨by rfl, ?_⟩) (by assumption) ?_; rotate_left; focus (intro W hSw; (try dsimp only at hSw); go_simp; (first | done | with_reducible rfl))
          (try simp only [List.getElem_toArray, List.getElem_cons_succ, List.getElem_cons_zero, Act.put, List.setIfInBounds_toArray, List.set_cons_zero, List.set_cons_succ])
          refine wpAnyH_ready (rs := [2]) (by kernel_rfl) (by simp) ?_
          refine AllReadyH.cons (o := _) rfl (fun K hK => ?_) AllReadyH.nil
          go_simp
          go_at_call 23
          refine (itoa_b r.lo (by omega) (by omega) _ HTd.out).mono ?_
          rintro e wa ⟨rfl, hb⟩
          have HBwa := Lib.hid (HBd.out.trans (hb.mono HBd.out.size))
          have HKwa := Lib.hid (HKd.out.later hb)
          have HTwa := Lib.hid (tab_below HTd.out hb)
          have hS : (wa.cell? ⟨w.heap.size, 2, none⟩ = some (.int .i64 r.lo) ∧ wa.cell? ⟨w.heap.size, 3, none⟩ = some (.int .i64 r.hi)) := by
            obtain ⟨⟨a0, a1, a2, a3, a4, a5, a6, a7⟩, -⟩ := blk_cells HKwa.out
            exact ⟨a2, a3⟩
          clear hb
          go_wp2_with fail
          refine hK.out _ _ hS (fun _ => ?_)
          clear hK K hS
          clear hHeld
          refine wpAnyH_take (i := 3) (oi := _) (v := ?_) rfl (by kernel_rfl) (by kernel_rfl) (by kernel_rfl) (fun _ _ _ h => h) (Or.inl ⟨by rfl, ?_⟩) (by assumption) ?_; rotate_left; focus (intro W hSw; (try dsimp only at hSw); go_simp; (first | done | with_reducible rfl))
          (try simp only [List.getElem_toArray, List.getElem_cons_succ, List.getElem_cons_zero, Act.put, List.setIfInBounds_toArray, List.set_cons_zero, List.set_cons_succ])
          refine wpAnyH_ready (rs := [6]) (by kernel_rfl) (by simp) ?_
          refine AllReadyH.cons (o := _) rfl (fun K hK => ?_) AllReadyH.nil
          go_simp
          go_at_call 23
          refine (itoa_b r.hi (by omega) (by omega) _ HTwa.out).mono ?_
          rintro e wb ⟨rfl, hb⟩
          have HBwb := Lib.hid (HBwa.out.trans (hb.mono HBwa.out.size))
          have HKwb := Lib.hid (HKwa.out.later hb)
          have HTwb := Lib.hid (tab_below HTwa.out hb)
          have hS : (wb.cell? ⟨w.heap.size, 2, none⟩ = some (.int .i64 r.lo) ∧ wb.cell? ⟨w.heap.size, 3, none⟩ = some (.int .i64 r.hi)) := by
            obtain ⟨⟨a0, a1, a2, a3, a4, a5, a6, a7⟩, -⟩ := blk_cells HKwb.out
            exact ⟨a2, a3⟩
          clear hb
          go_wp2_with fail
          refine hK.out _ _ hS (fun _ => ?_)
          clear hK K hS
          refine wpAnyH_take (i := 7) (oi := _) (v := ?_) rfl (by kernel_rfl) (by kernel_rfl) (by kernel_rfl) (fun _ _ _ h => h) (Or.inl ⟨by rfl, ?_⟩) (by assumption) ?_; rotate_left; focus (intro W hSw; (try dsimp only at hSw); go_simp; (first | done | with_reducible rfl))
          (try simp only [List.getElem_toArray, List.getElem_cons_succ, List.getElem_cons_zero, Act.put, List.setIfInBounds_toArray, List.set_cons_zero, List.set_cons_succ])
          refine wpAnyH_take (i := 8) (oi := _) (v := ?_) rfl (by kernel_rfl) (by kernel_rfl) (by kernel_rfl) (fun _ _ _ h => h) (Or.inl ⟨by rfl, ?_⟩) (by assumption) ?_; rotate_left; focus (intro W hSw; (try dsimp only at hSw); go_simp; (first | done | with_reducible rfl))
          (try simp only [List.getElem_toArray, List.getElem_cons_succ, List.getElem_cons_zero, Act.put, List.setIfInBounds_toArray, List.set_cons_zero, List.set_cons_succ])
          refine wpAnyH_done (by kernel_rfl) ?_ _
          refine NoPanic.normal ?_
          (try simp only [List.getElem_toArray, List.getElem_cons_succ, List.getElem_cons_zero, Act.put, List.setIfInBounds_toArray, List.set_cons_zero, List.set_cons_succ])
          go_wp2
          go_meet
          exact ⟨rfl, HBwb.out, HKwb.out, HTwb.out⟩
        case rest =>
        obtain ⟨rfl, hb5, hk5, ht5⟩ := hcut
        have HB5 := Lib.hid hb5
        have HK5 := Lib.hid hk5
        have HT5 := Lib.hid ht5
        clear hq1 hq2 hq3 hb5 hk5 ht5 HB1 HK1 HT1 HBd HKd HTd p0 p1 p2 p3 p4 p5 p6 p7
        obtain ⟨ag, hag⟩ : ∃ x, agK r = x := ⟨_, rfl⟩
        have HAG := Lib.hid hag
        rw [hag]
        clear hag
        obtain ⟨⟨p0, p1, p2, p3, p4, p5, p6, p7⟩, -⟩ := blk_cells HK5.out
        clear p4 p5
        go_upto_region 9 with (fail)
        have HBe := Lib.hid (show Below w.heap.size w wc.drew from HB5.out.drew)
        have HKe := Lib.hid (show Blk wc.drew w.heap.size 25 #[.int .i64 r.id, .string r.nm, .int .i64 r.lo, .int .i64 r.hi, .bool r.wo, .bool r.me, .int .i64 r.co, .int .i64 r.mo] from HK5.out)
        have HTe := Lib.hid (show Tab wc.drew from tab_below HT5.out (Below.refl _ _).drew)
        go_cut [6] from 26 to 40 (fun s wx => ∃ B, s = .slice (some ⟨B, 0, none⟩) 8 8 ∧ Wd8 w r ag ⟨#[119, 109]⟩ B wx)
        case first =>
          refine wp_region_noPanic ?_
          refine wp_region_held_drew (S := (fun Wx : World => Wx.cell? ⟨w.heap.size, 0, none⟩ = some (.int .i64 r.id) ∧ Wx.cell? ⟨w.heap.size, 1, none⟩ = some (.string r.nm) ∧ Wx.cell? ⟨w.heap.size, 6, none⟩ = some (.int .i64 r.co) ∧ Wx.cell? ⟨w.heap.size, 7, none⟩ = some (.int .i64 r.mo))) (by kernel_rfl) ⟨p0, p1, p6, p7⟩ (fun hHeld => ?_)
          refine wpAnyH_take (i := 0) (oi := _) (v := ?_) rfl (by kernel_rfl) (by kernel_rfl) (by kernel_rfl) (fun _ _ _ h => h) (Or.inl ⟨by rfl, ?_⟩) (by assumption) ?_; rotate_left; focus (intro W hSw; (try dsimp only at hSw); go_simp; (first | done | with_reducible rfl))
          (try simp only [List.getElem_toArray, List.getElem_cons_succ, List.getElem_cons_zero, Act.put, List.setIfInBounds_toArray, List.set_cons_zero, List.set_cons_succ])
          refine wpAnyH_take (i := 1) (oi := _) (v := ?_) rfl (by kernel_rfl) (by kernel_rfl) (by kernel_rfl) (fun _ _ _ h => h) (Or.inl ⟨by rfl, ?_⟩) (by assumption) ?_; rotate_left; focus (intro W hSw; (try dsimp only at hSw); go_simp; (first | done | with_reducible rfl))
          (try simp only [List.getElem_toArray, List.getElem_cons_succ, List.getElem_cons_zero, Act.put, List.setIfInBounds_toArray, List.set_cons_zero, List.set_cons_succ])
          refine wpAnyH_take (i := 3) (oi := _) (v := ?_) rfl (by kernel_rfl) (by kernel_rfl) (by kernel_rfl) (fun _ _ _ h => h) (Or.inl ⟨by rfl, ?_⟩) (by assumption) ?_; rotate_left; focus (intro W hSw; (try dsimp only at hSw); go_simp; (first | done | with_reducible rfl))
          (try simp only [List.getElem_toArray, List.getElem_cons_succ, List.getElem_cons_zero, Act.put, List.setIfInBounds_toArray, List.set_cons_zero, List.set_cons_succ])
          refine wpAnyH_take (i := 4) (oi := _) (v := ?_) rfl (by kernel_rfl) (by kernel_rfl) (by kernel_rfl) (fun _ _ _ h => h) (Or.inl ⟨by rfl, ?_⟩) (by assumption) ?_; rotate_left; focus (intro W hSw; (try dsimp only at hSw); go_simp; (first | done | with_reducible rfl))
          (try simp only [List.getElem_toArray, List.getElem_cons_succ, List.getElem_cons_zero, Act.put, List.setIfInBounds_toArray, List.set_cons_zero, List.set_cons_succ])
          refine wpAnyH_take (i := 5) (oi := _) (v := ?_) rfl (by kernel_rfl) (by kernel_rfl) (by kernel_rfl) (fun _ _ _ h => h) (Or.inl ⟨by rfl, ?_⟩) (by assumption) ?_; rotate_left; focus (intro W hSw; (try dsimp only at hSw); go_simp; (first | done | with_reducible rfl))
          (try simp only [List.getElem_toArray, List.getElem_cons_succ, List.getElem_cons_zero, Act.put, List.setIfInBounds_toArray, List.set_cons_zero, List.set_cons_succ])
          refine wpAnyH_take (i := 6) (oi := _) (v := ?_) rfl (by kernel_rfl) (by kernel_rfl) (by kernel_rfl) (fun _ _ _ h => h) (Or.inl ⟨by rfl, ?_⟩) (by assumption) ?_; rotate_left; focus (intro W hSw; (try dsimp only at hSw); go_simp; (first | done | with_reducible rfl))
          (try simp only [List.getElem_toArray, List.getElem_cons_succ, List.getElem_cons_zero, Act.put, List.setIfInBounds_toArray, List.set_cons_zero, List.set_cons_succ])
          refine wpAnyH_take (i := 7) (oi := _) (v := ?_) rfl (by kernel_rfl) (by kernel_rfl) (by kernel_rfl) (fun _ _ _ h => h) (Or.inl ⟨by rfl, ?_⟩) (by assumption) ?_; rotate_left; focus (intro W hSw; (try dsimp only at hSw); go_simp; (first | done | with_reducible rfl))
          (try simp only [List.getElem_toArray, List.getElem_cons_succ, List.getElem_cons_zero, Act.put, List.setIfInBounds_toArray, List.set_cons_zero, List.set_cons_succ])
          refine wpAnyH_take (i := 8) (oi := _) (v := ?_) rfl (by kernel_rfl) (by kernel_rfl) (by kernel_rfl) (fun _ _ _ h => h) (Or.inl ⟨by rfl, ?_⟩) (by assumption) ?_; rotate_left; focus (intro W hSw; (try dsimp only at hSw); go_simp; (first | done | with_reducible rfl))
          (try simp only [List.getElem_toArray, List.getElem_cons_succ, List.getElem_cons_zero, Act.put, List.setIfInBounds_toArray, List.set_cons_zero, List.set_cons_succ])
          refine wpAnyH_take (i := 10) (oi := _) (v := ?_) rfl (by kernel_rfl) (by kernel_rfl) (by kernel_rfl) (fun _ _ _ h => h) (Or.inl ⟨by rfl, ?_⟩) (by assumption) ?_; rotate_left; focus (intro W hSw; (try dsimp only at hSw); go_simp; (first | done | with_reducible rfl))
          (try simp only [List.getElem_toArray, List.getElem_cons_succ, List.getElem_cons_zero, Act.put, List.setIfInBounds_toArray, List.set_cons_zero, List.set_cons_succ])
          refine wpAnyH_take (i := 11) (oi := _) (v := ?_) rfl (by kernel_rfl) (by kernel_rfl) (by kernel_rfl) (fun _ _ _ h => h) (Or.inl ⟨by rfl, ?_⟩) (by assumption) ?_; rotate_left; focus (intro W hSw; (try dsimp only at hSw); go_simp; (first | done | with_reducible rfl))
          (try simp only [List.getElem_toArray, List.getElem_cons_succ, List.getElem_cons_zero, Act.put, List.setIfInBounds_toArray, List.set_cons_zero, List.set_cons_succ])
          refine wpAnyH_ready (rs := [2]) (by kernel_rfl) (by simp) ?_
          refine AllReadyH.cons (o := _) rfl (fun K hK => ?_) AllReadyH.nil
          go_simp
          go_at_call 23
          refine (itoa_b r.id (by omega) (by omega) _ HTe.out).mono ?_
          rintro e wf ⟨rfl, hb⟩
          have HBwf := Lib.hid (HBe.out.trans (hb.mono HBe.out.size))
          have HKwf := Lib.hid (HKe.out.later hb)
          have HTwf := Lib.hid (tab_below HTe.out hb)
          have hS : (wf.cell? ⟨w.heap.size, 0, none⟩ = some (.int .i64 r.id) ∧ wf.cell? ⟨w.heap.size, 1, none⟩ = some (.string r.nm) ∧ wf.cell? ⟨w.heap.size, 6, none⟩ = some (.int .i64 r.co) ∧ wf.cell? ⟨w.heap.size, 7, none⟩ = some (.int .i64 r.mo)) := by
            obtain ⟨⟨a0, a1, a2, a3, a4, a5, a6, a7⟩, -⟩ := blk_cells HKwf.out
            exact ⟨a0, a1, a6, a7⟩
          clear hb
          go_wp2_with fail
          refine hK.out _ _ hS (fun _ => ?_)
          clear hK K hS
          clear hHeld
          refine wpAnyH_ready (rs := [9]) (by kernel_rfl) (by simp) ?_
          refine AllReadyH.cons (o := _) rfl (fun K hK => ?_) AllReadyH.nil
          go_simp
          go_at_call 23
          refine (itoa_b r.co (by omega) (by omega) _ HTwf.out).mono ?_
          rintro e wg ⟨rfl, hb⟩
          have HBwg := Lib.hid (HBwf.out.trans (hb.mono HBwf.out.size))
          have HKwg := Lib.hid (HKwf.out.later hb)
          have HTwg := Lib.hid (tab_below HTwf.out hb)
          have hS : (wg.cell? ⟨w.heap.size, 0, none⟩ = some (.int .i64 r.id) ∧ wg.cell? ⟨w.heap.size, 1, none⟩ = some (.string r.nm) ∧ wg.cell? ⟨w.heap.size, 6, none⟩ = some (.int .i64 r.co) ∧ wg.cell? ⟨w.heap.size, 7, none⟩ = some (.int .i64 r.mo)) := by
            obtain ⟨⟨a0, a1, a2, a3, a4, a5, a6, a7⟩, -⟩ := blk_cells HKwg.out
            exact ⟨a0, a1, a6, a7⟩
          clear hb
          go_wp2_with fail
          refine hK.out _ _ hS (fun _ => ?_)
          clear hK K hS
          refine wpAnyH_ready (rs := [12]) (by kernel_rfl) (by simp) ?_
          refine AllReadyH.cons (o := _) rfl (fun K hK => ?_) AllReadyH.nil
          go_simp
          go_at_call 23
          refine (itoa_b r.mo (by omega) (by omega) _ HTwg.out).mono ?_
          rintro e wh ⟨rfl, hb⟩
          have HBwh := Lib.hid (HBwg.out.trans (hb.mono HBwg.out.size))
          have HKwh := Lib.hid (HKwg.out.later hb)
          have HTwh := Lib.hid (tab_below HTwg.out hb)
          have hS : (wh.cell? ⟨w.heap.size, 0, none⟩ = some (.int .i64 r.id) ∧ wh.cell? ⟨w.heap.size, 1, none⟩ = some (.string r.nm) ∧ wh.cell? ⟨w.heap.size, 6, none⟩ = some (.int .i64 r.co) ∧ wh.cell? ⟨w.heap.size, 7, none⟩ = some (.int .i64 r.mo)) := by
            obtain ⟨⟨a0, a1, a2, a3, a4, a5, a6, a7⟩, -⟩ := blk_cells HKwh.out
            exact ⟨a0, a1, a6, a7⟩
          clear hb
          go_wp2_with fail
          refine hK.out _ _ hS (fun _ => ?_)
          clear hK K hS
          refine wpAnyH_ready (rs := [13]) (by kernel_rfl) (by simp) ?_
          refine AllReadyH.cons (o := _) rfl (fun K hK => ?_) AllReadyH.nil
          go_simp
          have HBz := Lib.hid (HBwh.out.alloc HBwh.out.size (.cells #[.string (fmtB r.id), .string r.nm, .string ag, .string ⟨#[119, 109]⟩, .string ⟨#[99, 111, 117, 114, 115, 101]⟩, .string (fmtB r.co), .string ⟨#[109, 111, 115, 116]⟩, .string (fmtB r.mo)] 9))
          have HKz := Lib.hid (HKwh.out.alloc (.cells #[.string (fmtB r.id), .string r.nm, .string ag, .string ⟨#[119, 109]⟩, .string ⟨#[99, 111, 117, 114, 115, 101]⟩, .string (fmtB r.co), .string ⟨#[109, 111, 115, 116]⟩, .string (fmtB r.mo)] 9))
          have hS : ((wh.alloc (.cells #[.string (fmtB r.id), .string r.nm, .string ag, .string ⟨#[119, 109]⟩, .string ⟨#[99, 111, 117, 114, 115, 101]⟩, .string (fmtB r.co), .string ⟨#[109, 111, 115, 116]⟩, .string (fmtB r.mo)] 9)).cell? ⟨w.heap.size, 0, none⟩ = some (.int .i64 r.id) ∧ (wh.alloc (.cells #[.string (fmtB r.id), .string r.nm, .string ag, .string ⟨#[119, 109]⟩, .string ⟨#[99, 111, 117, 114, 115, 101]⟩, .string (fmtB r.co), .string ⟨#[109, 111, 115, 116]⟩, .string (fmtB r.mo)] 9)).cell? ⟨w.heap.size, 1, none⟩ = some (.string r.nm) ∧ (wh.alloc (.cells #[.string (fmtB r.id), .string r.nm, .string ag, .string ⟨#[119, 109]⟩, .string ⟨#[99, 111, 117, 114, 115, 101]⟩, .string (fmtB r.co), .string ⟨#[109, 111, 115, 116]⟩, .string (fmtB r.mo)] 9)).cell? ⟨w.heap.size, 6, none⟩ = some (.int .i64 r.co) ∧ (wh.alloc (.cells #[.string (fmtB r.id), .string r.nm, .string ag, .string ⟨#[119, 109]⟩, .string ⟨#[99, 111, 117, 114, 115, 101]⟩, .string (fmtB r.co), .string ⟨#[109, 111, 115, 116]⟩, .string (fmtB r.mo)] 9)).cell? ⟨w.heap.size, 7, none⟩ = some (.int .i64 r.mo)) := by
            obtain ⟨⟨a0, a1, a2, a3, a4, a5, a6, a7⟩, -⟩ := blk_cells HKz.out
            exact ⟨a0, a1, a6, a7⟩
          refine hK.out _ _ hS (fun _ => ?_)
          clear hK K hS
          refine wpAnyH_take (i := 14) (oi := _) (v := ?_) rfl (by kernel_rfl) (by kernel_rfl) (by kernel_rfl) (fun _ _ _ h => h) (Or.inl ⟨by rfl, ?_⟩) (by assumption) ?_; rotate_left; focus (intro W hSw; (try dsimp only at hSw); go_simp; (first | done | with_reducible rfl))
          (try simp only [List.getElem_toArray, List.getElem_cons_succ, List.getElem_cons_zero, Act.put, List.setIfInBounds_toArray, List.set_cons_zero, List.set_cons_succ])
          refine wpAnyH_done (by kernel_rfl) ?_ _
          refine NoPanic.normal ?_
          (try simp only [List.getElem_toArray, List.getElem_cons_succ, List.getElem_cons_zero, Act.put, List.setIfInBounds_toArray, List.set_cons_zero, List.set_cons_succ])
          go_wp2
          go_meet
          exact ⟨_, rfl, ⟨HBz.out, tab_below HTwh.out ((Below.refl _ _).alloc (Nat.le_refl _) _), Blk.new _ _ _, HBwh.out.size⟩⟩
        case rest =>
        obtain ⟨B, rfl, hW⟩ := hcut
        have HWW := Lib.hid hW
        clear hW HB5 HK5 HT5 HBe HKe HTe p0 p1 p2 p3 p6 p7
        have hTx := Lib.hid (show jn ⟨#[32]⟩ (ws r ag ⟨#[119, 109]⟩) 8 = txK r from by rw [← HAG.out]; exact join8 r ⟨#[119, 109]⟩ (by unfold sxK; rw [HW.out]; (try rw [HM.out]); rfl))
        have hrd := str_read HWW.out.words
        have HJ := Lib.hid (show (⟨(Lib.join ((ws r ag ⟨#[119, 109]⟩).map (·.data.toList)) (⟨#[32]⟩ : ByteArray).data.toList).toArray⟩ : ByteArray) = txK r from by rw [jn_all]; exact hTx.out)
        go_wp2_with fail
        refine (Tryz.strings_Join B 0 8 (ws r ag ⟨#[119, 109]⟩) ⟨#[32]⟩ _ hrd.1 hrd.2 (by simp [ws]) (by simp [ws]) (by rw [join_size, HJ.out]; omega)).mono ?_
        rw [HJ.out]
        rintro e w9 ⟨rfl, hb⟩
        have HB9 := Lib.hid (HWW.out.b.trans (hb.mono HWW.out.b.size))
        clear hb
        go_wp2
        go_ret2
        exact ⟨by rw [HR.out]; rfl, HB9.out⟩
      | false =>
        go_upto_region 8 with (fail)
        have HBd := Lib.hid (show Below w.heap.size w w1.drew from HB1.out.drew)
        have HKd := Lib.hid (show Blk w1.drew w.heap.size 25 #[.int .i64 r.id, .string r.nm, .int .i64 r.lo, .int .i64 r.hi, .bool r.wo, .bool r.me, .int .i64 r.co, .int .i64 r.mo] from HK1.out)
        have HTd := Lib.hid (show Tab w1.drew from tab_below HT1.out (Below.refl _ _).drew)
        have hq1 : (9223372036854775807 < (fmtB r.lo).size + 1) = False := eq_false (by omega)
        have hq2 : (9223372036854775807 < (fmtB r.lo).size + 1 + (fmtB r.hi).size) = False := eq_false (by omega)
        have hq3 : (9223372036854775807 < (fmtB r.lo ++ ⟨#[45]⟩).size + (fmtB r.hi).size) = False := eq_false (by rw [ByteArray.size_append]; show ¬ _ < _ + 1 + _; omega)
        go_cut [5] from 18 to 26 (fun s wx => s = .string (agK r) ∧ Below w.heap.size w wx ∧ Blk wx w.heap.size 25 #[.int .i64 r.id, .string r.nm, .int .i64 r.lo, .int .i64 r.hi, .bool r.wo, .bool r.me, .int .i64 r.co, .int .i64 r.mo] ∧ Tab wx)
        case first =>
          refine wp_region_noPanic ?_
          refine wp_region_held_drew (S := (fun Wx : World => Wx.cell? ⟨w.heap.size, 2, none⟩ = some (.int .i64 r.lo) ∧ Wx.cell? ⟨w.heap.size, 3, none⟩ = some (.int .i64 r.hi))) (by kernel_rfl) ⟨p2, p3⟩ (fun hHeld => ?_)
          refine wpAnyH_take (i := 0) (oi := _) (v := ?_) rfl (by kernel_rfl) (by kernel_rfl) (by kernel_rfl) (fun _ _ _ h => h) (Or.inl ⟨by rfl, ?_⟩) (by assumption) ?_; rotate_left; focus (intro W hSw; (try dsimp only at hSw); go_simp; (first | done | with_reducible rfl))
          (try simp only [List.getElem_toArray, List.getElem_cons_succ, List.getElem_cons_zero, Act.put, List.setIfInBounds_toArray, List.set_cons_zero, List.set_cons_succ])
          refine wpAnyH_take (i := 1) (oi := _) (v := ?_) rfl (by kernel_rfl) (by kernel_rfl) (by kernel_rfl) (fun _ _ _ h => h) (Or.inl ⟨by rfl, ?_⟩) (by assumption) ?_; rotate_left; focus (intro W hSw; (try dsimp only at hSw); go_simp; (first | done | with_reducible rfl))
          (try simp only [List.getElem_toArray, List.getElem_cons_succ, List.getElem_cons_zero, Act.put, List.setIfInBounds_toArray, List.set_cons_zero, List.set_cons_succ])
          refine wpAnyH_take (i := 4) (oi := _) (v := ?_) rfl (by kernel_rfl) (by kernel_rfl) (by kernel_rfl) (fun _ _ _ h => h) (Or.inl ⟨by rfl, ?_⟩) (by assumption) ?_; rotate_left; focus (intro W hSw; (try dsimp only at hSw); go_simp; (first | done | with_reducible rfl))
          (try simp only [List.getElem_toArray, List.getElem_cons_succ, List.getElem_cons_zero, Act.put, List.setIfInBounds_toArray, List.set_cons_zero, List.set_cons_succ])
          refine wpAnyH_take (i := 5) (oi := _) (v := ?_) rfl (by kernel_rfl) (by kernel_rfl) (by kernel_rfl) (fun _ _ _ h => h) (Or.inl ⟨by rfl, ?_⟩) (by assumption) ?_; rotate_left; focus (intro W hSw; (try dsimp only at hSw); go_simp; (first | done | with_reducible rfl))
          (try simp only [List.getElem_toArray, List.getElem_cons_succ, List.getElem_cons_zero, Act.put, List.setIfInBounds_toArray, List.set_cons_zero, List.set_cons_succ])
          refine wpAnyH_ready (rs := [2]) (by kernel_rfl) (by simp) ?_
          refine AllReadyH.cons (o := _) rfl (fun K hK => ?_) AllReadyH.nil
          go_simp
          go_at_call 23
          refine (itoa_b r.lo (by omega) (by omega) _ HTd.out).mono ?_
          rintro e wa ⟨rfl, hb⟩
          have HBwa := Lib.hid (HBd.out.trans (hb.mono HBd.out.size))
          have HKwa := Lib.hid (HKd.out.later hb)
          have HTwa := Lib.hid (tab_below HTd.out hb)
          have hS : (wa.cell? ⟨w.heap.size, 2, none⟩ = some (.int .i64 r.lo) ∧ wa.cell? ⟨w.heap.size, 3, none⟩ = some (.int .i64 r.hi)) := by
            obtain ⟨⟨a0, a1, a2, a3, a4, a5, a6, a7⟩, -⟩ := blk_cells HKwa.out
            exact ⟨a2, a3⟩
          clear hb
          go_wp2_with fail
          refine hK.out _ _ hS (fun _ => ?_)
          clear hK K hS
          clear hHeld
          refine wpAnyH_take (i := 3) (oi := _) (v := ?_) rfl (by kernel_rfl) (by kernel_rfl) (by kernel_rfl) (fun _ _ _ h => h) (Or.inl ⟨by rfl, ?_⟩) (by assumption) ?_; rotate_left; focus (intro W hSw; (try dsimp only at hSw); go_simp; (first | done | with_reducible rfl))
          (try simp only [List.getElem_toArray, List.getElem_cons_succ, List.getElem_cons_zero, Act.put, List.setIfInBounds_toArray, List.set_cons_zero, List.set_cons_succ])
          refine wpAnyH_ready (rs := [6]) (by kernel_rfl) (by simp) ?_
          refine AllReadyH.cons (o := _) rfl (fun K hK => ?_) AllReadyH.nil
          go_simp
          go_at_call 23
          refine (itoa_b r.hi (by omega) (by omega) _ HTwa.out).mono ?_
          rintro e wb ⟨rfl, hb⟩
          have HBwb := Lib.hid (HBwa.out.trans (hb.mono HBwa.out.size))
          have HKwb := Lib.hid (HKwa.out.later hb)
          have HTwb := Lib.hid (tab_below HTwa.out hb)
          have hS : (wb.cell? ⟨w.heap.size, 2, none⟩ = some (.int .i64 r.lo) ∧ wb.cell? ⟨w.heap.size, 3, none⟩ = some (.int .i64 r.hi)) := by
            obtain ⟨⟨a0, a1, a2, a3, a4, a5, a6, a7⟩, -⟩ := blk_cells HKwb.out
            exact ⟨a2, a3⟩
          clear hb
          go_wp2_with fail
          refine hK.out _ _ hS (fun _ => ?_)
          clear hK K hS
          refine wpAnyH_take (i := 7) (oi := _) (v := ?_) rfl (by kernel_rfl) (by kernel_rfl) (by kernel_rfl) (fun _ _ _ h => h) (Or.inl ⟨by rfl, ?_⟩) (by assumption) ?_; rotate_left; focus (intro W hSw; (try dsimp only at hSw); go_simp; (first | done | with_reducible rfl))
          (try simp only [List.getElem_toArray, List.getElem_cons_succ, List.getElem_cons_zero, Act.put, List.setIfInBounds_toArray, List.set_cons_zero, List.set_cons_succ])
          refine wpAnyH_take (i := 8) (oi := _) (v := ?_) rfl (by kernel_rfl) (by kernel_rfl) (by kernel_rfl) (fun _ _ _ h => h) (Or.inl ⟨by rfl, ?_⟩) (by assumption) ?_; rotate_left; focus (intro W hSw; (try dsimp only at hSw); go_simp; (first | done | with_reducible rfl))
          (try simp only [List.getElem_toArray, List.getElem_cons_succ, List.getElem_cons_zero, Act.put, List.setIfInBounds_toArray, List.set_cons_zero, List.set_cons_succ])
          refine wpAnyH_done (by kernel_rfl) ?_ _
          refine NoPanic.normal ?_
          (try simp only [List.getElem_toArray, List.getElem_cons_succ, List.getElem_cons_zero, Act.put, List.setIfInBounds_toArray, List.set_cons_zero, List.set_cons_succ])
          go_wp2
          go_meet
          exact ⟨rfl, HBwb.out, HKwb.out, HTwb.out⟩
        case rest =>
        obtain ⟨rfl, hb5, hk5, ht5⟩ := hcut
        have HB5 := Lib.hid hb5
        have HK5 := Lib.hid hk5
        have HT5 := Lib.hid ht5
        clear hq1 hq2 hq3 hb5 hk5 ht5 HB1 HK1 HT1 HBd HKd HTd p0 p1 p2 p3 p4 p5 p6 p7
        obtain ⟨ag, hag⟩ : ∃ x, agK r = x := ⟨_, rfl⟩
        have HAG := Lib.hid hag
        rw [hag]
        clear hag
        obtain ⟨⟨p0, p1, p2, p3, p4, p5, p6, p7⟩, -⟩ := blk_cells HK5.out
        clear p4 p5
        go_upto_region 9 with (fail)
        have HBe := Lib.hid (show Below w.heap.size w wc.drew from HB5.out.drew)
        have HKe := Lib.hid (show Blk wc.drew w.heap.size 25 #[.int .i64 r.id, .string r.nm, .int .i64 r.lo, .int .i64 r.hi, .bool r.wo, .bool r.me, .int .i64 r.co, .int .i64 r.mo] from HK5.out)
        have HTe := Lib.hid (show Tab wc.drew from tab_below HT5.out (Below.refl _ _).drew)
        go_cut [6] from 26 to 40 (fun s wx => ∃ B, s = .slice (some ⟨B, 0, none⟩) 8 8 ∧ Wd8 w r ag ⟨#[119]⟩ B wx)
        case first =>
          refine wp_region_noPanic ?_
          refine wp_region_held_drew (S := (fun Wx : World => Wx.cell? ⟨w.heap.size, 0, none⟩ = some (.int .i64 r.id) ∧ Wx.cell? ⟨w.heap.size, 1, none⟩ = some (.string r.nm) ∧ Wx.cell? ⟨w.heap.size, 6, none⟩ = some (.int .i64 r.co) ∧ Wx.cell? ⟨w.heap.size, 7, none⟩ = some (.int .i64 r.mo))) (by kernel_rfl) ⟨p0, p1, p6, p7⟩ (fun hHeld => ?_)
          refine wpAnyH_take (i := 0) (oi := _) (v := ?_) rfl (by kernel_rfl) (by kernel_rfl) (by kernel_rfl) (fun _ _ _ h => h) (Or.inl ⟨by rfl, ?_⟩) (by assumption) ?_; rotate_left; focus (intro W hSw; (try dsimp only at hSw); go_simp; (first | done | with_reducible rfl))
          (try simp only [List.getElem_toArray, List.getElem_cons_succ, List.getElem_cons_zero, Act.put, List.setIfInBounds_toArray, List.set_cons_zero, List.set_cons_succ])
          refine wpAnyH_take (i := 1) (oi := _) (v := ?_) rfl (by kernel_rfl) (by kernel_rfl) (by kernel_rfl) (fun _ _ _ h => h) (Or.inl ⟨by rfl, ?_⟩) (by assumption) ?_; rotate_left; focus (intro W hSw; (try dsimp only at hSw); go_simp; (first | done | with_reducible rfl))
          (try simp only [List.getElem_toArray, List.getElem_cons_succ, List.getElem_cons_zero, Act.put, List.setIfInBounds_toArray, List.set_cons_zero, List.set_cons_succ])
          refine wpAnyH_take (i := 3) (oi := _) (v := ?_) rfl (by kernel_rfl) (by kernel_rfl) (by kernel_rfl) (fun _ _ _ h => h) (Or.inl ⟨by rfl, ?_⟩) (by assumption) ?_; rotate_left; focus (intro W hSw; (try dsimp only at hSw); go_simp; (first | done | with_reducible rfl))
          (try simp only [List.getElem_toArray, List.getElem_cons_succ, List.getElem_cons_zero, Act.put, List.setIfInBounds_toArray, List.set_cons_zero, List.set_cons_succ])
          refine wpAnyH_take (i := 4) (oi := _) (v := ?_) rfl (by kernel_rfl) (by kernel_rfl) (by kernel_rfl) (fun _ _ _ h => h) (Or.inl ⟨by rfl, ?_⟩) (by assumption) ?_; rotate_left; focus (intro W hSw; (try dsimp only at hSw); go_simp; (first | done | with_reducible rfl))
          (try simp only [List.getElem_toArray, List.getElem_cons_succ, List.getElem_cons_zero, Act.put, List.setIfInBounds_toArray, List.set_cons_zero, List.set_cons_succ])
          refine wpAnyH_take (i := 5) (oi := _) (v := ?_) rfl (by kernel_rfl) (by kernel_rfl) (by kernel_rfl) (fun _ _ _ h => h) (Or.inl ⟨by rfl, ?_⟩) (by assumption) ?_; rotate_left; focus (intro W hSw; (try dsimp only at hSw); go_simp; (first | done | with_reducible rfl))
          (try simp only [List.getElem_toArray, List.getElem_cons_succ, List.getElem_cons_zero, Act.put, List.setIfInBounds_toArray, List.set_cons_zero, List.set_cons_succ])
          refine wpAnyH_take (i := 6) (oi := _) (v := ?_) rfl (by kernel_rfl) (by kernel_rfl) (by kernel_rfl) (fun _ _ _ h => h) (Or.inl ⟨by rfl, ?_⟩) (by assumption) ?_; rotate_left; focus (intro W hSw; (try dsimp only at hSw); go_simp; (first | done | with_reducible rfl))
          (try simp only [List.getElem_toArray, List.getElem_cons_succ, List.getElem_cons_zero, Act.put, List.setIfInBounds_toArray, List.set_cons_zero, List.set_cons_succ])
          refine wpAnyH_take (i := 7) (oi := _) (v := ?_) rfl (by kernel_rfl) (by kernel_rfl) (by kernel_rfl) (fun _ _ _ h => h) (Or.inl ⟨by rfl, ?_⟩) (by assumption) ?_; rotate_left; focus (intro W hSw; (try dsimp only at hSw); go_simp; (first | done | with_reducible rfl))
          (try simp only [List.getElem_toArray, List.getElem_cons_succ, List.getElem_cons_zero, Act.put, List.setIfInBounds_toArray, List.set_cons_zero, List.set_cons_succ])
          refine wpAnyH_take (i := 8) (oi := _) (v := ?_) rfl (by kernel_rfl) (by kernel_rfl) (by kernel_rfl) (fun _ _ _ h => h) (Or.inl ⟨by rfl, ?_⟩) (by assumption) ?_; rotate_left; focus (intro W hSw; (try dsimp only at hSw); go_simp; (first | done | with_reducible rfl))
          (try simp only [List.getElem_toArray, List.getElem_cons_succ, List.getElem_cons_zero, Act.put, List.setIfInBounds_toArray, List.set_cons_zero, List.set_cons_succ])
          refine wpAnyH_take (i := 10) (oi := _) (v := ?_) rfl (by kernel_rfl) (by kernel_rfl) (by kernel_rfl) (fun _ _ _ h => h) (Or.inl ⟨by rfl, ?_⟩) (by assumption) ?_; rotate_left; focus (intro W hSw; (try dsimp only at hSw); go_simp; (first | done | with_reducible rfl))
          (try simp only [List.getElem_toArray, List.getElem_cons_succ, List.getElem_cons_zero, Act.put, List.setIfInBounds_toArray, List.set_cons_zero, List.set_cons_succ])
          refine wpAnyH_take (i := 11) (oi := _) (v := ?_) rfl (by kernel_rfl) (by kernel_rfl) (by kernel_rfl) (fun _ _ _ h => h) (Or.inl ⟨by rfl, ?_⟩) (by assumption) ?_; rotate_left; focus (intro W hSw; (try dsimp only at hSw); go_simp; (first | done | with_reducible rfl))
          (try simp only [List.getElem_toArray, List.getElem_cons_succ, List.getElem_cons_zero, Act.put, List.setIfInBounds_toArray, List.set_cons_zero, List.set_cons_succ])
          refine wpAnyH_ready (rs := [2]) (by kernel_rfl) (by simp) ?_
          refine AllReadyH.cons (o := _) rfl (fun K hK => ?_) AllReadyH.nil
          go_simp
          go_at_call 23
          refine (itoa_b r.id (by omega) (by omega) _ HTe.out).mono ?_
          rintro e wf ⟨rfl, hb⟩
          have HBwf := Lib.hid (HBe.out.trans (hb.mono HBe.out.size))
          have HKwf := Lib.hid (HKe.out.later hb)
          have HTwf := Lib.hid (tab_below HTe.out hb)
          have hS : (wf.cell? ⟨w.heap.size, 0, none⟩ = some (.int .i64 r.id) ∧ wf.cell? ⟨w.heap.size, 1, none⟩ = some (.string r.nm) ∧ wf.cell? ⟨w.heap.size, 6, none⟩ = some (.int .i64 r.co) ∧ wf.cell? ⟨w.heap.size, 7, none⟩ = some (.int .i64 r.mo)) := by
            obtain ⟨⟨a0, a1, a2, a3, a4, a5, a6, a7⟩, -⟩ := blk_cells HKwf.out
            exact ⟨a0, a1, a6, a7⟩
          clear hb
          go_wp2_with fail
          refine hK.out _ _ hS (fun _ => ?_)
          clear hK K hS
          clear hHeld
          refine wpAnyH_ready (rs := [9]) (by kernel_rfl) (by simp) ?_
          refine AllReadyH.cons (o := _) rfl (fun K hK => ?_) AllReadyH.nil
          go_simp
          go_at_call 23
          refine (itoa_b r.co (by omega) (by omega) _ HTwf.out).mono ?_
          rintro e wg ⟨rfl, hb⟩
          have HBwg := Lib.hid (HBwf.out.trans (hb.mono HBwf.out.size))
          have HKwg := Lib.hid (HKwf.out.later hb)
          have HTwg := Lib.hid (tab_below HTwf.out hb)
          have hS : (wg.cell? ⟨w.heap.size, 0, none⟩ = some (.int .i64 r.id) ∧ wg.cell? ⟨w.heap.size, 1, none⟩ = some (.string r.nm) ∧ wg.cell? ⟨w.heap.size, 6, none⟩ = some (.int .i64 r.co) ∧ wg.cell? ⟨w.heap.size, 7, none⟩ = some (.int .i64 r.mo)) := by
            obtain ⟨⟨a0, a1, a2, a3, a4, a5, a6, a7⟩, -⟩ := blk_cells HKwg.out
            exact ⟨a0, a1, a6, a7⟩
          clear hb
          go_wp2_with fail
          refine hK.out _ _ hS (fun _ => ?_)
          clear hK K hS
          refine wpAnyH_ready (rs := [12]) (by kernel_rfl) (by simp) ?_
          refine AllReadyH.cons (o := _) rfl (fun K hK => ?_) AllReadyH.nil
          go_simp
          go_at_call 23
          refine (itoa_b r.mo (by omega) (by omega) _ HTwg.out).mono ?_
          rintro e wh ⟨rfl, hb⟩
          have HBwh := Lib.hid (HBwg.out.trans (hb.mono HBwg.out.size))
          have HKwh := Lib.hid (HKwg.out.later hb)
          have HTwh := Lib.hid (tab_below HTwg.out hb)
          have hS : (wh.cell? ⟨w.heap.size, 0, none⟩ = some (.int .i64 r.id) ∧ wh.cell? ⟨w.heap.size, 1, none⟩ = some (.string r.nm) ∧ wh.cell? ⟨w.heap.size, 6, none⟩ = some (.int .i64 r.co) ∧ wh.cell? ⟨w.heap.size, 7, none⟩ = some (.int .i64 r.mo)) := by
            obtain ⟨⟨a0, a1, a2, a3, a4, a5, a6, a7⟩, -⟩ := blk_cells HKwh.out
            exact ⟨a0, a1, a6, a7⟩
          clear hb
          go_wp2_with fail
          refine hK.out _ _ hS (fun _ => ?_)
          clear hK K hS
          refine wpAnyH_ready (rs := [13]) (by kernel_rfl) (by simp) ?_
          refine AllReadyH.cons (o := _) rfl (fun K hK => ?_) AllReadyH.nil
          go_simp
          have HBz := Lib.hid (HBwh.out.alloc HBwh.out.size (.cells #[.string (fmtB r.id), .string r.nm, .string ag, .string ⟨#[119]⟩, .string ⟨#[99, 111, 117, 114, 115, 101]⟩, .string (fmtB r.co), .string ⟨#[109, 111, 115, 116]⟩, .string (fmtB r.mo)] 9))
          have HKz := Lib.hid (HKwh.out.alloc (.cells #[.string (fmtB r.id), .string r.nm, .string ag, .string ⟨#[119]⟩, .string ⟨#[99, 111, 117, 114, 115, 101]⟩, .string (fmtB r.co), .string ⟨#[109, 111, 115, 116]⟩, .string (fmtB r.mo)] 9))
          have hS : ((wh.alloc (.cells #[.string (fmtB r.id), .string r.nm, .string ag, .string ⟨#[119]⟩, .string ⟨#[99, 111, 117, 114, 115, 101]⟩, .string (fmtB r.co), .string ⟨#[109, 111, 115, 116]⟩, .string (fmtB r.mo)] 9)).cell? ⟨w.heap.size, 0, none⟩ = some (.int .i64 r.id) ∧ (wh.alloc (.cells #[.string (fmtB r.id), .string r.nm, .string ag, .string ⟨#[119]⟩, .string ⟨#[99, 111, 117, 114, 115, 101]⟩, .string (fmtB r.co), .string ⟨#[109, 111, 115, 116]⟩, .string (fmtB r.mo)] 9)).cell? ⟨w.heap.size, 1, none⟩ = some (.string r.nm) ∧ (wh.alloc (.cells #[.string (fmtB r.id), .string r.nm, .string ag, .string ⟨#[119]⟩, .string ⟨#[99, 111, 117, 114, 115, 101]⟩, .string (fmtB r.co), .string ⟨#[109, 111, 115, 116]⟩, .string (fmtB r.mo)] 9)).cell? ⟨w.heap.size, 6, none⟩ = some (.int .i64 r.co) ∧ (wh.alloc (.cells #[.string (fmtB r.id), .string r.nm, .string ag, .string ⟨#[119]⟩, .string ⟨#[99, 111, 117, 114, 115, 101]⟩, .string (fmtB r.co), .string ⟨#[109, 111, 115, 116]⟩, .string (fmtB r.mo)] 9)).cell? ⟨w.heap.size, 7, none⟩ = some (.int .i64 r.mo)) := by
            obtain ⟨⟨a0, a1, a2, a3, a4, a5, a6, a7⟩, -⟩ := blk_cells HKz.out
            exact ⟨a0, a1, a6, a7⟩
          refine hK.out _ _ hS (fun _ => ?_)
          clear hK K hS
          refine wpAnyH_take (i := 14) (oi := _) (v := ?_) rfl (by kernel_rfl) (by kernel_rfl) (by kernel_rfl) (fun _ _ _ h => h) (Or.inl ⟨by rfl, ?_⟩) (by assumption) ?_; rotate_left; focus (intro W hSw; (try dsimp only at hSw); go_simp; (first | done | with_reducible rfl))
          (try simp only [List.getElem_toArray, List.getElem_cons_succ, List.getElem_cons_zero, Act.put, List.setIfInBounds_toArray, List.set_cons_zero, List.set_cons_succ])
          refine wpAnyH_done (by kernel_rfl) ?_ _
          refine NoPanic.normal ?_
          (try simp only [List.getElem_toArray, List.getElem_cons_succ, List.getElem_cons_zero, Act.put, List.setIfInBounds_toArray, List.set_cons_zero, List.set_cons_succ])
          go_wp2
          go_meet
          exact ⟨_, rfl, ⟨HBz.out, tab_below HTwh.out ((Below.refl _ _).alloc (Nat.le_refl _) _), Blk.new _ _ _, HBwh.out.size⟩⟩
        case rest =>
        obtain ⟨B, rfl, hW⟩ := hcut
        have HWW := Lib.hid hW
        clear hW HB5 HK5 HT5 HBe HKe HTe p0 p1 p2 p3 p6 p7
        have hTx := Lib.hid (show jn ⟨#[32]⟩ (ws r ag ⟨#[119]⟩) 8 = txK r from by rw [← HAG.out]; exact join8 r ⟨#[119]⟩ (by unfold sxK; rw [HW.out]; (try rw [HM.out]); rfl))
        have hrd := str_read HWW.out.words
        have HJ := Lib.hid (show (⟨(Lib.join ((ws r ag ⟨#[119]⟩).map (·.data.toList)) (⟨#[32]⟩ : ByteArray).data.toList).toArray⟩ : ByteArray) = txK r from by rw [jn_all]; exact hTx.out)
        go_wp2_with fail
        refine (Tryz.strings_Join B 0 8 (ws r ag ⟨#[119]⟩) ⟨#[32]⟩ _ hrd.1 hrd.2 (by simp [ws]) (by simp [ws]) (by rw [join_size, HJ.out]; omega)).mono ?_
        rw [HJ.out]
        rintro e w9 ⟨rfl, hb⟩
        have HB9 := Lib.hid (HWW.out.b.trans (hb.mono HWW.out.b.size))
        clear hb
        go_wp2
        go_ret2
        exact ⟨by rw [HR.out]; rfl, HB9.out⟩
    | false =>
      cases me with
      | true =>
        go_upto_region 8 with (fail)
        have HBd := Lib.hid (show Below w.heap.size w w1.drew from HB1.out.drew)
        have HKd := Lib.hid (show Blk w1.drew w.heap.size 25 #[.int .i64 r.id, .string r.nm, .int .i64 r.lo, .int .i64 r.hi, .bool r.wo, .bool r.me, .int .i64 r.co, .int .i64 r.mo] from HK1.out)
        have HTd := Lib.hid (show Tab w1.drew from tab_below HT1.out (Below.refl _ _).drew)
        have hq1 : (9223372036854775807 < (fmtB r.lo).size + 1) = False := eq_false (by omega)
        have hq2 : (9223372036854775807 < (fmtB r.lo).size + 1 + (fmtB r.hi).size) = False := eq_false (by omega)
        have hq3 : (9223372036854775807 < (fmtB r.lo ++ ⟨#[45]⟩).size + (fmtB r.hi).size) = False := eq_false (by rw [ByteArray.size_append]; show ¬ _ < _ + 1 + _; omega)
        go_cut [5] from 18 to 26 (fun s wx => s = .string (agK r) ∧ Below w.heap.size w wx ∧ Blk wx w.heap.size 25 #[.int .i64 r.id, .string r.nm, .int .i64 r.lo, .int .i64 r.hi, .bool r.wo, .bool r.me, .int .i64 r.co, .int .i64 r.mo] ∧ Tab wx)
        case first =>
          refine wp_region_noPanic ?_
          refine wp_region_held_drew (S := (fun Wx : World => Wx.cell? ⟨w.heap.size, 2, none⟩ = some (.int .i64 r.lo) ∧ Wx.cell? ⟨w.heap.size, 3, none⟩ = some (.int .i64 r.hi))) (by kernel_rfl) ⟨p2, p3⟩ (fun hHeld => ?_)
          refine wpAnyH_take (i := 0) (oi := _) (v := ?_) rfl (by kernel_rfl) (by kernel_rfl) (by kernel_rfl) (fun _ _ _ h => h) (Or.inl ⟨by rfl, ?_⟩) (by assumption) ?_; rotate_left; focus (intro W hSw; (try dsimp only at hSw); go_simp; (first | done | with_reducible rfl))
          (try simp only [List.getElem_toArray, List.getElem_cons_succ, List.getElem_cons_zero, Act.put, List.setIfInBounds_toArray, List.set_cons_zero, List.set_cons_succ])
          refine wpAnyH_take (i := 1) (oi := _) (v := ?_) rfl (by kernel_rfl) (by kernel_rfl) (by kernel_rfl) (fun _ _ _ h => h) (Or.inl ⟨by rfl, ?_⟩) (by assumption) ?_; rotate_left; focus (intro W hSw; (try dsimp only at hSw); go_simp; (first | done | with_reducible rfl))
          (try simp only [List.getElem_toArray, List.getElem_cons_succ, List.getElem_cons_zero, Act.put, List.setIfInBounds_toArray, List.set_cons_zero, List.set_cons_succ])
          refine wpAnyH_take (i := 4) (oi := _) (v := ?_) rfl (by kernel_rfl) (by kernel_rfl) (by kernel_rfl) (fun _ _ _ h => h) (Or.inl ⟨by rfl, ?_⟩) (by assumption) ?_; rotate_left; focus (intro W hSw; (try dsimp only at hSw); go_simp; (first | done | with_reducible rfl))
          (try simp only [List.getElem_toArray, List.getElem_cons_succ, List.getElem_cons_zero, Act.put, List.setIfInBounds_toArray, List.set_cons_zero, List.set_cons_succ])
          refine wpAnyH_take (i := 5) (oi := _) (v := ?_) rfl (by kernel_rfl) (by kernel_rfl) (by kernel_rfl) (fun _ _ _ h => h) (Or.inl ⟨by rfl, ?_⟩) (by assumption) ?_; rotate_left; focus (intro W hSw; (try dsimp only at hSw); go_simp; (first | done | with_reducible rfl))
          (try simp only [List.getElem_toArray, List.getElem_cons_succ, List.getElem_cons_zero, Act.put, List.setIfInBounds_toArray, List.set_cons_zero, List.set_cons_succ])
          refine wpAnyH_ready (rs := [2]) (by kernel_rfl) (by simp) ?_
          refine AllReadyH.cons (o := _) rfl (fun K hK => ?_) AllReadyH.nil
          go_simp
          go_at_call 23
          refine (itoa_b r.lo (by omega) (by omega) _ HTd.out).mono ?_
          rintro e wa ⟨rfl, hb⟩
          have HBwa := Lib.hid (HBd.out.trans (hb.mono HBd.out.size))
          have HKwa := Lib.hid (HKd.out.later hb)
          have HTwa := Lib.hid (tab_below HTd.out hb)
          have hS : (wa.cell? ⟨w.heap.size, 2, none⟩ = some (.int .i64 r.lo) ∧ wa.cell? ⟨w.heap.size, 3, none⟩ = some (.int .i64 r.hi)) := by
            obtain ⟨⟨a0, a1, a2, a3, a4, a5, a6, a7⟩, -⟩ := blk_cells HKwa.out
            exact ⟨a2, a3⟩
          clear hb
          go_wp2_with fail
          refine hK.out _ _ hS (fun _ => ?_)
          clear hK K hS
          clear hHeld
          refine wpAnyH_take (i := 3) (oi := _) (v := ?_) rfl (by kernel_rfl) (by kernel_rfl) (by kernel_rfl) (fun _ _ _ h => h) (Or.inl ⟨by rfl, ?_⟩) (by assumption) ?_; rotate_left; focus (intro W hSw; (try dsimp only at hSw); go_simp; (first | done | with_reducible rfl))
          (try simp only [List.getElem_toArray, List.getElem_cons_succ, List.getElem_cons_zero, Act.put, List.setIfInBounds_toArray, List.set_cons_zero, List.set_cons_succ])
          refine wpAnyH_ready (rs := [6]) (by kernel_rfl) (by simp) ?_
          refine AllReadyH.cons (o := _) rfl (fun K hK => ?_) AllReadyH.nil
          go_simp
          go_at_call 23
          refine (itoa_b r.hi (by omega) (by omega) _ HTwa.out).mono ?_
          rintro e wb ⟨rfl, hb⟩
          have HBwb := Lib.hid (HBwa.out.trans (hb.mono HBwa.out.size))
          have HKwb := Lib.hid (HKwa.out.later hb)
          have HTwb := Lib.hid (tab_below HTwa.out hb)
          have hS : (wb.cell? ⟨w.heap.size, 2, none⟩ = some (.int .i64 r.lo) ∧ wb.cell? ⟨w.heap.size, 3, none⟩ = some (.int .i64 r.hi)) := by
            obtain ⟨⟨a0, a1, a2, a3, a4, a5, a6, a7⟩, -⟩ := blk_cells HKwb.out
            exact ⟨a2, a3⟩
          clear hb
          go_wp2_with fail
          refine hK.out _ _ hS (fun _ => ?_)
          clear hK K hS
          refine wpAnyH_take (i := 7) (oi := _) (v := ?_) rfl (by kernel_rfl) (by kernel_rfl) (by kernel_rfl) (fun _ _ _ h => h) (Or.inl ⟨by rfl, ?_⟩) (by assumption) ?_; rotate_left; focus (intro W hSw; (try dsimp only at hSw); go_simp; (first | done | with_reducible rfl))
          (try simp only [List.getElem_toArray, List.getElem_cons_succ, List.getElem_cons_zero, Act.put, List.setIfInBounds_toArray, List.set_cons_zero, List.set_cons_succ])
          refine wpAnyH_take (i := 8) (oi := _) (v := ?_) rfl (by kernel_rfl) (by kernel_rfl) (by kernel_rfl) (fun _ _ _ h => h) (Or.inl ⟨by rfl, ?_⟩) (by assumption) ?_; rotate_left; focus (intro W hSw; (try dsimp only at hSw); go_simp; (first | done | with_reducible rfl))
          (try simp only [List.getElem_toArray, List.getElem_cons_succ, List.getElem_cons_zero, Act.put, List.setIfInBounds_toArray, List.set_cons_zero, List.set_cons_succ])
          refine wpAnyH_done (by kernel_rfl) ?_ _
          refine NoPanic.normal ?_
          (try simp only [List.getElem_toArray, List.getElem_cons_succ, List.getElem_cons_zero, Act.put, List.setIfInBounds_toArray, List.set_cons_zero, List.set_cons_succ])
          go_wp2
          go_meet
          exact ⟨rfl, HBwb.out, HKwb.out, HTwb.out⟩
        case rest =>
        obtain ⟨rfl, hb5, hk5, ht5⟩ := hcut
        have HB5 := Lib.hid hb5
        have HK5 := Lib.hid hk5
        have HT5 := Lib.hid ht5
        clear hq1 hq2 hq3 hb5 hk5 ht5 HB1 HK1 HT1 HBd HKd HTd p0 p1 p2 p3 p4 p5 p6 p7
        obtain ⟨ag, hag⟩ : ∃ x, agK r = x := ⟨_, rfl⟩
        have HAG := Lib.hid hag
        rw [hag]
        clear hag
        obtain ⟨⟨p0, p1, p2, p3, p4, p5, p6, p7⟩, -⟩ := blk_cells HK5.out
        clear p4 p5
        go_upto_region 9 with (fail)
        have HBe := Lib.hid (show Below w.heap.size w wc.drew from HB5.out.drew)
        have HKe := Lib.hid (show Blk wc.drew w.heap.size 25 #[.int .i64 r.id, .string r.nm, .int .i64 r.lo, .int .i64 r.hi, .bool r.wo, .bool r.me, .int .i64 r.co, .int .i64 r.mo] from HK5.out)
        have HTe := Lib.hid (show Tab wc.drew from tab_below HT5.out (Below.refl _ _).drew)
        go_cut [6] from 26 to 40 (fun s wx => ∃ B, s = .slice (some ⟨B, 0, none⟩) 8 8 ∧ Wd8 w r ag ⟨#[109]⟩ B wx)
        case first =>
          refine wp_region_noPanic ?_
          refine wp_region_held_drew (S := (fun Wx : World => Wx.cell? ⟨w.heap.size, 0, none⟩ = some (.int .i64 r.id) ∧ Wx.cell? ⟨w.heap.size, 1, none⟩ = some (.string r.nm) ∧ Wx.cell? ⟨w.heap.size, 6, none⟩ = some (.int .i64 r.co) ∧ Wx.cell? ⟨w.heap.size, 7, none⟩ = some (.int .i64 r.mo))) (by kernel_rfl) ⟨p0, p1, p6, p7⟩ (fun hHeld => ?_)
          refine wpAnyH_take (i := 0) (oi := _) (v := ?_) rfl (by kernel_rfl) (by kernel_rfl) (by kernel_rfl) (fun _ _ _ h => h) (Or.inl ⟨by rfl, ?_⟩) (by assumption) ?_; rotate_left; focus (intro W hSw; (try dsimp only at hSw); go_simp; (first | done | with_reducible rfl))
          (try simp only [List.getElem_toArray, List.getElem_cons_succ, List.getElem_cons_zero, Act.put, List.setIfInBounds_toArray, List.set_cons_zero, List.set_cons_succ])
          refine wpAnyH_take (i := 1) (oi := _) (v := ?_) rfl (by kernel_rfl) (by kernel_rfl) (by kernel_rfl) (fun _ _ _ h => h) (Or.inl ⟨by rfl, ?_⟩) (by assumption) ?_; rotate_left; focus (intro W hSw; (try dsimp only at hSw); go_simp; (first | done | with_reducible rfl))
          (try simp only [List.getElem_toArray, List.getElem_cons_succ, List.getElem_cons_zero, Act.put, List.setIfInBounds_toArray, List.set_cons_zero, List.set_cons_succ])
          refine wpAnyH_take (i := 3) (oi := _) (v := ?_) rfl (by kernel_rfl) (by kernel_rfl) (by kernel_rfl) (fun _ _ _ h => h) (Or.inl ⟨by rfl, ?_⟩) (by assumption) ?_; rotate_left; focus (intro W hSw; (try dsimp only at hSw); go_simp; (first | done | with_reducible rfl))
          (try simp only [List.getElem_toArray, List.getElem_cons_succ, List.getElem_cons_zero, Act.put, List.setIfInBounds_toArray, List.set_cons_zero, List.set_cons_succ])
          refine wpAnyH_take (i := 4) (oi := _) (v := ?_) rfl (by kernel_rfl) (by kernel_rfl) (by kernel_rfl) (fun _ _ _ h => h) (Or.inl ⟨by rfl, ?_⟩) (by assumption) ?_; rotate_left; focus (intro W hSw; (try dsimp only at hSw); go_simp; (first | done | with_reducible rfl))
          (try simp only [List.getElem_toArray, List.getElem_cons_succ, List.getElem_cons_zero, Act.put, List.setIfInBounds_toArray, List.set_cons_zero, List.set_cons_succ])
          refine wpAnyH_take (i := 5) (oi := _) (v := ?_) rfl (by kernel_rfl) (by kernel_rfl) (by kernel_rfl) (fun _ _ _ h => h) (Or.inl ⟨by rfl, ?_⟩) (by assumption) ?_; rotate_left; focus (intro W hSw; (try dsimp only at hSw); go_simp; (first | done | with_reducible rfl))
          (try simp only [List.getElem_toArray, List.getElem_cons_succ, List.getElem_cons_zero, Act.put, List.setIfInBounds_toArray, List.set_cons_zero, List.set_cons_succ])
          refine wpAnyH_take (i := 6) (oi := _) (v := ?_) rfl (by kernel_rfl) (by kernel_rfl) (by kernel_rfl) (fun _ _ _ h => h) (Or.inl ⟨by rfl, ?_⟩) (by assumption) ?_; rotate_left; focus (intro W hSw; (try dsimp only at hSw); go_simp; (first | done | with_reducible rfl))
          (try simp only [List.getElem_toArray, List.getElem_cons_succ, List.getElem_cons_zero, Act.put, List.setIfInBounds_toArray, List.set_cons_zero, List.set_cons_succ])
          refine wpAnyH_take (i := 7) (oi := _) (v := ?_) rfl (by kernel_rfl) (by kernel_rfl) (by kernel_rfl) (fun _ _ _ h => h) (Or.inl ⟨by rfl, ?_⟩) (by assumption) ?_; rotate_left; focus (intro W hSw; (try dsimp only at hSw); go_simp; (first | done | with_reducible rfl))
          (try simp only [List.getElem_toArray, List.getElem_cons_succ, List.getElem_cons_zero, Act.put, List.setIfInBounds_toArray, List.set_cons_zero, List.set_cons_succ])
          refine wpAnyH_take (i := 8) (oi := _) (v := ?_) rfl (by kernel_rfl) (by kernel_rfl) (by kernel_rfl) (fun _ _ _ h => h) (Or.inl ⟨by rfl, ?_⟩) (by assumption) ?_; rotate_left; focus (intro W hSw; (try dsimp only at hSw); go_simp; (first | done | with_reducible rfl))
          (try simp only [List.getElem_toArray, List.getElem_cons_succ, List.getElem_cons_zero, Act.put, List.setIfInBounds_toArray, List.set_cons_zero, List.set_cons_succ])
          refine wpAnyH_take (i := 10) (oi := _) (v := ?_) rfl (by kernel_rfl) (by kernel_rfl) (by kernel_rfl) (fun _ _ _ h => h) (Or.inl ⟨by rfl, ?_⟩) (by assumption) ?_; rotate_left; focus (intro W hSw; (try dsimp only at hSw); go_simp; (first | done | with_reducible rfl))
          (try simp only [List.getElem_toArray, List.getElem_cons_succ, List.getElem_cons_zero, Act.put, List.setIfInBounds_toArray, List.set_cons_zero, List.set_cons_succ])
          refine wpAnyH_take (i := 11) (oi := _) (v := ?_) rfl (by kernel_rfl) (by kernel_rfl) (by kernel_rfl) (fun _ _ _ h => h) (Or.inl ⟨by rfl, ?_⟩) (by assumption) ?_; rotate_left; focus (intro W hSw; (try dsimp only at hSw); go_simp; (first | done | with_reducible rfl))
          (try simp only [List.getElem_toArray, List.getElem_cons_succ, List.getElem_cons_zero, Act.put, List.setIfInBounds_toArray, List.set_cons_zero, List.set_cons_succ])
          refine wpAnyH_ready (rs := [2]) (by kernel_rfl) (by simp) ?_
          refine AllReadyH.cons (o := _) rfl (fun K hK => ?_) AllReadyH.nil
          go_simp
          go_at_call 23
          refine (itoa_b r.id (by omega) (by omega) _ HTe.out).mono ?_
          rintro e wf ⟨rfl, hb⟩
          have HBwf := Lib.hid (HBe.out.trans (hb.mono HBe.out.size))
          have HKwf := Lib.hid (HKe.out.later hb)
          have HTwf := Lib.hid (tab_below HTe.out hb)
          have hS : (wf.cell? ⟨w.heap.size, 0, none⟩ = some (.int .i64 r.id) ∧ wf.cell? ⟨w.heap.size, 1, none⟩ = some (.string r.nm) ∧ wf.cell? ⟨w.heap.size, 6, none⟩ = some (.int .i64 r.co) ∧ wf.cell? ⟨w.heap.size, 7, none⟩ = some (.int .i64 r.mo)) := by
            obtain ⟨⟨a0, a1, a2, a3, a4, a5, a6, a7⟩, -⟩ := blk_cells HKwf.out
            exact ⟨a0, a1, a6, a7⟩
          clear hb
          go_wp2_with fail
          refine hK.out _ _ hS (fun _ => ?_)
          clear hK K hS
          clear hHeld
          refine wpAnyH_ready (rs := [9]) (by kernel_rfl) (by simp) ?_
          refine AllReadyH.cons (o := _) rfl (fun K hK => ?_) AllReadyH.nil
          go_simp
          go_at_call 23
          refine (itoa_b r.co (by omega) (by omega) _ HTwf.out).mono ?_
          rintro e wg ⟨rfl, hb⟩
          have HBwg := Lib.hid (HBwf.out.trans (hb.mono HBwf.out.size))
          have HKwg := Lib.hid (HKwf.out.later hb)
          have HTwg := Lib.hid (tab_below HTwf.out hb)
          have hS : (wg.cell? ⟨w.heap.size, 0, none⟩ = some (.int .i64 r.id) ∧ wg.cell? ⟨w.heap.size, 1, none⟩ = some (.string r.nm) ∧ wg.cell? ⟨w.heap.size, 6, none⟩ = some (.int .i64 r.co) ∧ wg.cell? ⟨w.heap.size, 7, none⟩ = some (.int .i64 r.mo)) := by
            obtain ⟨⟨a0, a1, a2, a3, a4, a5, a6, a7⟩, -⟩ := blk_cells HKwg.out
            exact ⟨a0, a1, a6, a7⟩
          clear hb
          go_wp2_with fail
          refine hK.out _ _ hS (fun _ => ?_)
          clear hK K hS
          refine wpAnyH_ready (rs := [12]) (by kernel_rfl) (by simp) ?_
          refine AllReadyH.cons (o := _) rfl (fun K hK => ?_) AllReadyH.nil
          go_simp
          go_at_call 23
          refine (itoa_b r.mo (by omega) (by omega) _ HTwg.out).mono ?_
          rintro e wh ⟨rfl, hb⟩
          have HBwh := Lib.hid (HBwg.out.trans (hb.mono HBwg.out.size))
          have HKwh := Lib.hid (HKwg.out.later hb)
          have HTwh := Lib.hid (tab_below HTwg.out hb)
          have hS : (wh.cell? ⟨w.heap.size, 0, none⟩ = some (.int .i64 r.id) ∧ wh.cell? ⟨w.heap.size, 1, none⟩ = some (.string r.nm) ∧ wh.cell? ⟨w.heap.size, 6, none⟩ = some (.int .i64 r.co) ∧ wh.cell? ⟨w.heap.size, 7, none⟩ = some (.int .i64 r.mo)) := by
            obtain ⟨⟨a0, a1, a2, a3, a4, a5, a6, a7⟩, -⟩ := blk_cells HKwh.out
            exact ⟨a0, a1, a6, a7⟩
          clear hb
          go_wp2_with fail
          refine hK.out _ _ hS (fun _ => ?_)
          clear hK K hS
          refine wpAnyH_ready (rs := [13]) (by kernel_rfl) (by simp) ?_
          refine AllReadyH.cons (o := _) rfl (fun K hK => ?_) AllReadyH.nil
          go_simp
          have HBz := Lib.hid (HBwh.out.alloc HBwh.out.size (.cells #[.string (fmtB r.id), .string r.nm, .string ag, .string ⟨#[109]⟩, .string ⟨#[99, 111, 117, 114, 115, 101]⟩, .string (fmtB r.co), .string ⟨#[109, 111, 115, 116]⟩, .string (fmtB r.mo)] 9))
          have HKz := Lib.hid (HKwh.out.alloc (.cells #[.string (fmtB r.id), .string r.nm, .string ag, .string ⟨#[109]⟩, .string ⟨#[99, 111, 117, 114, 115, 101]⟩, .string (fmtB r.co), .string ⟨#[109, 111, 115, 116]⟩, .string (fmtB r.mo)] 9))
          have hS : ((wh.alloc (.cells #[.string (fmtB r.id), .string r.nm, .string ag, .string ⟨#[109]⟩, .string ⟨#[99, 111, 117, 114, 115, 101]⟩, .string (fmtB r.co), .string ⟨#[109, 111, 115, 116]⟩, .string (fmtB r.mo)] 9)).cell? ⟨w.heap.size, 0, none⟩ = some (.int .i64 r.id) ∧ (wh.alloc (.cells #[.string (fmtB r.id), .string r.nm, .string ag, .string ⟨#[109]⟩, .string ⟨#[99, 111, 117, 114, 115, 101]⟩, .string (fmtB r.co), .string ⟨#[109, 111, 115, 116]⟩, .string (fmtB r.mo)] 9)).cell? ⟨w.heap.size, 1, none⟩ = some (.string r.nm) ∧ (wh.alloc (.cells #[.string (fmtB r.id), .string r.nm, .string ag, .string ⟨#[109]⟩, .string ⟨#[99, 111, 117, 114, 115, 101]⟩, .string (fmtB r.co), .string ⟨#[109, 111, 115, 116]⟩, .string (fmtB r.mo)] 9)).cell? ⟨w.heap.size, 6, none⟩ = some (.int .i64 r.co) ∧ (wh.alloc (.cells #[.string (fmtB r.id), .string r.nm, .string ag, .string ⟨#[109]⟩, .string ⟨#[99, 111, 117, 114, 115, 101]⟩, .string (fmtB r.co), .string ⟨#[109, 111, 115, 116]⟩, .string (fmtB r.mo)] 9)).cell? ⟨w.heap.size, 7, none⟩ = some (.int .i64 r.mo)) := by
            obtain ⟨⟨a0, a1, a2, a3, a4, a5, a6, a7⟩, -⟩ := blk_cells HKz.out
            exact ⟨a0, a1, a6, a7⟩
          refine hK.out _ _ hS (fun _ => ?_)
          clear hK K hS
          refine wpAnyH_take (i := 14) (oi := _) (v := ?_) rfl (by kernel_rfl) (by kernel_rfl) (by kernel_rfl) (fun _ _ _ h => h) (Or.inl ⟨by rfl, ?_⟩) (by assumption) ?_; rotate_left; focus (intro W hSw; (try dsimp only at hSw); go_simp; (first | done | with_reducible rfl))
          (try simp only [List.getElem_toArray, List.getElem_cons_succ, List.getElem_cons_zero, Act.put, List.setIfInBounds_toArray, List.set_cons_zero, List.set_cons_succ])
          refine wpAnyH_done (by kernel_rfl) ?_ _
          refine NoPanic.normal ?_
          (try simp only [List.getElem_toArray, List.getElem_cons_succ, List.getElem_cons_zero, Act.put, List.setIfInBounds_toArray, List.set_cons_zero, List.set_cons_succ])
          go_wp2
          go_meet
          exact ⟨_, rfl, ⟨HBz.out, tab_below HTwh.out ((Below.refl _ _).alloc (Nat.le_refl _) _), Blk.new _ _ _, HBwh.out.size⟩⟩
        case rest =>
        obtain ⟨B, rfl, hW⟩ := hcut
        have HWW := Lib.hid hW
        clear hW HB5 HK5 HT5 HBe HKe HTe p0 p1 p2 p3 p6 p7
        have hTx := Lib.hid (show jn ⟨#[32]⟩ (ws r ag ⟨#[109]⟩) 8 = txK r from by rw [← HAG.out]; exact join8 r ⟨#[109]⟩ (by unfold sxK; rw [HW.out]; (try rw [HM.out]); rfl))
        have hrd := str_read HWW.out.words
        have HJ := Lib.hid (show (⟨(Lib.join ((ws r ag ⟨#[109]⟩).map (·.data.toList)) (⟨#[32]⟩ : ByteArray).data.toList).toArray⟩ : ByteArray) = txK r from by rw [jn_all]; exact hTx.out)
        go_wp2_with fail
        refine (Tryz.strings_Join B 0 8 (ws r ag ⟨#[109]⟩) ⟨#[32]⟩ _ hrd.1 hrd.2 (by simp [ws]) (by simp [ws]) (by rw [join_size, HJ.out]; omega)).mono ?_
        rw [HJ.out]
        rintro e w9 ⟨rfl, hb⟩
        have HB9 := Lib.hid (HWW.out.b.trans (hb.mono HWW.out.b.size))
        clear hb
        go_wp2
        go_ret2
        exact ⟨by rw [HR.out]; rfl, HB9.out⟩
      | false => cases hsx

theorem both (r : Kl) (hr : Is r) : ∃ (s : ByteArray) (ok : Bool),
    (∀ w, Calls Tryz.prog 7 #[.agg #[.int .i64 r.id, .string r.nm, .int .i64 r.lo, .int .i64 r.hi, .bool r.wo, .bool r.me, .int .i64 r.co, .int .i64 r.mo]] w fun e w' => e = .returned (.tuple #[.string s, .bool ok]) ∧ Below w.heap.size w w') ∧
    (∀ w, Tab w → Calls Tryz.prog 6 #[.agg #[.int .i64 r.id, .string r.nm, .int .i64 r.lo, .int .i64 r.hi, .bool r.wo, .bool r.me, .int .i64 r.co, .int .i64 r.mo]] w fun e w' => e = .returned (.tuple #[.string s, .bool ok]) ∧ Below w.heap.size w w') :=
  ⟨ktx r, okK r, KtT.spec_any r hr, KtQ.impl_any r hr⟩
end Go.Proofs.YtleoljnofdajfaaGreatDoor.KtQ
