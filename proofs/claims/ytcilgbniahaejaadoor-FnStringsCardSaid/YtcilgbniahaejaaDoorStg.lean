/- Formatting and parsing are inverse, sealing and verifying are inverse, a changed byte is detected: the walk of the law. -/
import Derived.Test.YtcilgbniahaejaaDoorStgH
import Derived.Deep.RegionWith
namespace Go.Proofs.YtcilgbniahaejaaDoor.Stg
open Go.RowKit Lb Cur DrwS Fmt SealM SealW VerW NumM Rd Prs StgH
set_option linter.unusedSimpArgs false
set_option linter.unusedVariables false

theorem mx_below {w w' : World} (h : Mx w) (hb : Below w.heap.size w w') : Mx w' := by
  obtain ⟨m, hm⟩ := h
  have hlt : 2 < w.heap.size := World.block_lt_of_cell? w _ hm
  exact ⟨m, (hb.cell hlt).trans hm⟩

set_option maxRecDepth 20000 in
set_option maxHeartbeats 4000000 in
theorem law_any (W : World) (hG : Prs.Glob W ∧ Mx W) (a0 : Option Addr) (n cap : Nat) (xs : Nat → Nat) (hc : CodeS W a0 n xs) :
    Calls Tryd.prog 3 #[.slice a0 n cap] W fun e w' => e = .returned (.bool true) ∧ Below W.heap.size W w' := by
  have HG := Lib.hid (fun w' (hb : Below W.heap.size W w') => Glob.below hG.1 hb)
  have HM := Lib.hid (fun w' (hb : Below W.heap.size W w') => mx_below hG.2 hb)
  clear hG
  by_cases hbig : 65536 < n
  · have hc1 := Lib.hid hc
    clear hc
    go_enter Tryd.func3, Tryd.ntmps3
    go_wp2
    go_ret
    exact ⟨rfl, Below.refl _ _⟩
  have DF := Lib.hid (drawFormat a0 n cap xs W hc)
  have HC := Lib.hid hc
  clear hc
  go_enter Tryd.func3, Tryd.ntmps3
  go_wp2_with (go_at_call 8; go_in)
  refine DF.out.mono ?_
  rintro e w1 ⟨⟨z, rfl, hz0, hz1⟩, hb1⟩
  obtain ⟨s, ok, hss, hval, hi, hsp⟩ := fmt_both z hz0 hz1
  have HV := Lib.hid hval
  have HI := Lib.hid hi
  have HS := Lib.hid hsp
  have B1 := Lib.hid hb1
  clear hval hi hsp hb1 DF
  go_wp2_with fail
  refine (HI.out _ (HG.out _ B1.out).1).mono ?_
  rintro e w2 ⟨rfl, hb2⟩
  have B2 := Lib.hid (B1.out.trans (hb2.mono B1.out.size))
  clear hb2 B1
  go_wp2_with fail
  refine (HS.out _).mono ?_
  rintro e w3 ⟨rfl, hb3⟩
  have B3 := Lib.hid (B2.out.trans (hb3.mono B2.out.size))
  clear hb3 B2 HS HI
  go_wp2_with fail
  refine (drawParse a0 n cap xs _ (HC.out.below B3.out)).mono ?_
  rintro e w4 ⟨⟨t, rfl, hts⟩, hb4⟩
  have B4 := Lib.hid (B3.out.trans (hb4.mono B3.out.size))
  clear hb4 B3
  go_wp2_with fail
  refine (implParse_any t _ (HG.out _ B4.out) (by omega)).mono ?_
  rintro e w5 ⟨he5, hb5⟩
  have B5 := Lib.hid (B4.out.trans (hb5.mono B4.out.size))
  clear hb5 B4
  unfold RdPost at he5
  subst he5
  generalize hm : (val t).getD 0 = m
  generalize hf : (val t).isSome = fine
  have E1 := Lib.hid hm
  have E2 := Lib.hid hf
  clear hm hf
  go_wp2_with fail
  refine (specParse_any t _ (by omega)).mono ?_
  rintro e w6 ⟨he6, hst6⟩
  have B6 := Lib.hid (B5.out.trans (hst6.below _))
  clear hst6 B5
  unfold RdPost at he6
  rw [E1.out, E2.out] at he6
  subst he6
  clear E1 E2
  go_wp2_with fail
  refine (drawAppend a0 n cap xs _ (HC.out.below B6.out)).mono ?_
  rintro e w7 ⟨⟨x, rfl, hxs⟩, hb7⟩
  have B7 := Lib.hid (B6.out.trans (hb7.mono B6.out.size))
  clear hb7 B6
  have AI := Lib.hid (implApp_any x w7 (HG.out _ B7.out).1 (by omega))
  have AS := Lib.hid (fun w => specApp_any x w (by omega))
  have PS := Lib.hid (fun w (hb : Below W.heap.size W w) => implParse_any s w (HG.out _ hb) (by omega))
  unfold OptPost at AI AS
  have SE := Lib.hid (fun y (h : appR x = some y) => sealed h)
  cases hr : appR x with
  | none =>
    rw [hr] at AI AS
    clear hr SE
    go_wp2_with fail
    refine AI.out.mono ?_
    rintro e w8 ⟨rfl, hb8⟩
    have B8 := Lib.hid (B7.out.trans (hb8.mono B7.out.size))
    clear hb8 AI
    go_wp2_with fail
    refine (AS.out _).mono ?_
    rintro e w9 ⟨rfl, hst9⟩
    have B9 := Lib.hid (B8.out.trans (hst9.below _))
    clear hst9 AS
    go_wp2_with fail
    refine (PS.out _ B9.out).mono ?_
    rintro e w10 ⟨he, hb10⟩
    have B10 := Lib.hid (B9.out.trans (hb10.mono B9.out.size))
    clear hb10 PS
    unfold RdPost at he
    subst he
    cases ok with
    | true =>
      rw [HV.out rfl]
      go_wp2
      go_ret
      exact ⟨rfl, B10.out⟩
    | false =>
      generalize (val s).getD 0 = q1
      generalize (val s).isSome = q2
      go_wp2
      go_ret
      exact ⟨rfl, B10.out⟩
  | some y =>
    obtain ⟨hy, hno, hysz, hver, hpos⟩ := SE.out y hr
    have HY := Lib.hid hy
    have HNO := Lib.hid hno
    have HVER := Lib.hid hver
    rw [hr] at AI AS
    clear hr SE hy hno hver
    go_wp2_with fail
    refine AI.out.mono ?_
    rintro e w8 ⟨rfl, hb8⟩
    have B8 := Lib.hid (B7.out.trans (hb8.mono B7.out.size))
    clear hb8 AI
    go_wp2_with fail
    refine (AS.out _).mono ?_
    rintro e w9 ⟨rfl, hst9⟩
    have B9 := Lib.hid (B8.out.trans (hst9.below _))
    clear hst9 AS
    go_wp2_with fail
    refine (PS.out _ B9.out).mono ?_
    rintro e w10 ⟨he, hb10⟩
    have B10 := Lib.hid (B9.out.trans (hb10.mono B9.out.size))
    clear hb10 PS
    unfold RdPost at he
    subst he
    have VI := Lib.hid (fun w (hb : Below W.heap.size W w) => implVer_any y w (fun q => (HG.out _ (hb.trans ((Still.below ⟨q, rfl⟩ _)))).1) (HM.out _ hb) (by omega))
    unfold OptPost at VI
    rw [HVER.out] at VI
    have hq : ok = true → (val s).getD 0 = z ∧ (val s).isSome = true := fun e => by rw [HV.out e]; exact ⟨rfl, rfl⟩
    generalize (val s).getD 0 = q1 at hq ⊢
    generalize (val s).isSome = q2 at hq ⊢
    have VX := Lib.hid (fun s' (h : s'.size ≤ 1048576) w (hb : Below W.heap.size W w) => implVer_any s' w (fun q => (HG.out _ (hb.trans ((Still.below ⟨q, rfl⟩ _)))).1) (HM.out _ hb) h)
    cases ok
    case' true => obtain ⟨rfl, rfl⟩ := hq rfl
    all_goals
      clear HV hss
      go_wp2_with fail
      refine (VI.out _ B10.out).mono ?_
      rintro e w11 ⟨rfl, hb11⟩
      have B11 := Lib.hid (B10.out.trans (hb11.mono B10.out.size))
      clear hb11 VI B10
      obtain ⟨wB, capB, hcv, hcell, hfr, hbB⟩ := to_bytes w11 y
      have B12 := Lib.hid (B11.out.trans (hbB.mono B11.out.size))
      have hg : W.heap.size ≤ w11.heap.size := B11.out.size
      have hgB : w11.heap.size < wB.heap.size := World.block_lt_of_cell? wB _ (hcell 0 hpos)
      generalize w11.heap.size = g at hcv hcell hfr hg hgB
      have CE := Lib.hid hcell
      have FR := Lib.hid hfr
      clear hbB hcell hfr
      have HCB := Lib.hid (HC.out.below B12.out)
      have VA := Lib.hid (show Calls Tryd.prog 19 #[.slice a0 n cap, .int .i64 9] wB fun e w' => e = .returned (.int .i64 (vt n xs 9)) ∧ w' = wB from vAt_any a0 n cap xs wB HCB.out (by omega) 9 (by omega))
      go_wp2_with fail
      refine VA.out.mono ?_
      rintro e w12 ⟨rfl, rfl⟩
      have hv9 := vt_le n xs HCB.out.2.2.1 9
      generalize vt n xs 9 = v9 at hv9 ⊢
      clear VA
      go_wp2_with fail
      obtain ⟨k, hk, hkl⟩ : ∃ k : Nat, (v9 : Int) % (y.size : Int) = (k : Int) ∧ k < y.size := ⟨v9 % y.size, by rw [Int.natCast_emod], Nat.mod_lt _ hpos⟩
      rw [hk]
      have c1 := CE.out k hkl
      have f1 := FR.out k hkl
      have ho : y.data.toList[k]? = some (y.data.toList.getD k 0) := by
        rw [List.getD_eq_getElem?_getD, List.getElem?_eq_getElem (by simpa using hkl)]
        rfl
      have hat : ∀ j, j < y.size → w12.cell? ⟨g, j, none⟩ = some (.int .u8 (y.data.toList.getD j 0).toNat) := CE.out
      generalize ho' : y.data.toList.getD k 0 = o at c1 ho
      have HO := Lib.hid ho
      have hv10 := vt_le n xs HCB.out.2.2.1 10
      have cv := Lib.hid (fun q => (show Calls Tryd.prog 19 #[.slice a0 n cap, .int .i64 10] (w12.drewN q) fun e w' => e = .returned (.int .i64 (vt n xs 10)) ∧ w' = w12.drewN q from vAt_any a0 n cap xs (w12.drewN q) (HCB.out.below (Still.below ⟨q, rfl⟩ _)) (by omega) 10 (by omega)))
      generalize vt n xs 10 = v10 at hv10 cv
      obtain ⟨b, hbo, hx⟩ := xor_byte o v10 hv10
      have HX := Lib.hid hx
      have HB13 := Lib.hid (show Below W.heap.size W ((w12.drewN 1).setCell ⟨g, k, none⟩ (.int .u8 (b.toNat : Int))) from (B12.out.trans (Still.below ⟨1, rfl⟩ _)).setCell (p := ⟨g, k, none⟩) hg _)
      have HCV := Lib.hid (run_convert_bytes_arg (P := Tryd.prog) ((w12.drewN 1).setCell ⟨g, k, none⟩ (.int .u8 (b.toNat : Int))) 22 5 Tryd.underlying22 Tryd.underlying5 g 0 y.size capB (numsC y k (b.toNat : Int)) (numsC_length _ _ _) (by
        intro j hj
        rw [Nat.zero_add, numsC_at y k b j hj]
        by_cases e : j = k
        · subst e
          rw [if_pos rfl]
          exact World.cell?_setCell_same (w12.drewN 1) ⟨g, j, none⟩ _ (show (w12.drewN 1).cell? ⟨g, j, none⟩ = some _ from hat j hj)
        · rw [if_neg e]
          refine (World.cell?_setCell_other (w12.drewN 1) ⟨g, k, none⟩ ⟨g, j, none⟩ _ ?_).trans (hat j hj)
          intro e2
          apply e
          have e3 : k = j := congrArg Addr.off e2
          exact e3.symm) 9 Tryd.underlying9)
      have hver := Chg.ver_changed x (strOfNums (numsC y k (b.toNat : Int))) k b o HNO.out (by rw [← HY.out]; exact HO.out) hbo (by rw [numsC_back, HY.out])
      have hsz : (strOfNums (numsC y k (b.toNat : Int))).size = y.size := by rw [strOfNums_size, numsC_length]
      generalize strOfNums (numsC y k (b.toNat : Int)) = s' at hver hsz HCV
      have VS := Lib.hid (VX.out s' (by omega))
      unfold OptPost at VS
      rw [hver] at VS
      clear hx hat ho ho' hver VX HC HY HNO HO HVER HCB CE FR B12 B11
      go_region_with (go_at_call 19; refine (cv.out _).mono ?_; rintro e w13 ⟨rfl, rfl⟩)
      all_goals
        rw [HX.out]
        have hcvC := HCV.out
        have b13 := HB13.out
        generalize (w12.drewN 1).setCell ⟨g, k, none⟩ (.int .u8 (b.toNat : Int)) = wc at hcvC b13 ⊢
        have B13 := Lib.hid b13
        clear b13 HCV HB13 HX c1 f1 hcv cv
        go_wp2_with fail
        refine (VS.out _ B13.out).mono ?_
        rintro e w14 ⟨rfl, hb14⟩
        have B14 := Lib.hid (B13.out.trans (hb14.mono B13.out.size))
        clear hb14
        go_wp2
        go_ret
        exact ⟨rfl, B14.out⟩

end Go.Proofs.YtcilgbniahaejaaDoor.Stg
