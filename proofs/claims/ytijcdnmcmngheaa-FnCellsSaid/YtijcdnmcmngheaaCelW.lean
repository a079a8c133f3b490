/- FnCells: the walk of the law. -/
import Derived.Test.YtijcdnmcmngheaaVHel
import Derived.Test.YtijcdnmcmngheaaDrwM
import Derived.Test.YtijcdnmcmngheaaStepC
import Derived.Test.YtijcdnmcmngheaaHighL
namespace Go.Proofs.Ytijcdnmcmngheaa.CelW
open Go.RowKit Lb Cur IntS MapS MapV SpecB TblS PrtB CodM DrwM VHel High
open Go.Proofs.Ytijcdnmcmngheaa.Cells (NPost)
set_option linter.unusedSimpArgs false
set_option linter.unusedVariables false

/-- What stands while the cells next to a cell are gone through. -/
structure S1 (W : World) (m : Mp) (ar : Option Addr) (cr : Nat) (ac : Option Addr) (cc B : Nat) (a5 : Option Addr) (zs : List Int) (wx : World) : Prop where
  b : Below W.heap.size W wx
  box : Blk wx B 26 #[.int .i64 m.W, .int .i64 m.H, .slice ar m.R.length cr, .slice ac m.C.length cc]
  r : IRow wx ar m.R
  c : IRow wx ac m.C
  n : IRow wx a5 zs
section
variable {W : World} {m : Mp} {ar ac a5 : Option Addr} {cr cc B : Nat} {zs : List Int} {wx w' : World}
theorem S1.below (h : S1 W m ar cr ac cc B a5 zs wx) (hb : Below wx.heap.size wx w') : S1 W m ar cr ac cc B a5 zs w' :=
  ⟨h.b.trans (hb.mono h.b.size), h.box.later hb, RowAt.below h.r hb, RowAt.below h.c hb, RowAt.below h.n hb⟩
theorem S1.drewN (h : S1 W m ar cr ac cc B a5 zs wx) (q : Nat) : S1 W m ar cr ac cc B a5 zs (wx.drewN q) := ⟨below_drewN h.b q, h.box, h.r, h.c, h.n⟩
theorem S1.drew (h : S1 W m ar cr ac cc B a5 zs wx) : S1 W m ar cr ac cc B a5 zs wx.drew := ⟨h.b.drew, h.box, h.r, h.c, h.n⟩
end
theorem ok_of {m : Mp} {ww hh : Nat} (g : GoodM m ww hh) : m.ok := by
  have hW := g.W
  have hH := g.H
  have hw1 := g.w1
  have hw6 := g.w6
  have hh1 := g.h1
  have hh6 := g.h6
  have hR := g.R
  have hC := g.C
  refine ⟨⟨by omega, by omega, by omega, by omega, ?_, by omega⟩, fun i hi => g.cell i (by omega)⟩
  rw [hR, hW, hH, Int.natCast_mul]
theorem hi_call {m : Mp} {ww hh : Nat} (g : GoodM m ww hh) (hmo : m.ok) : ∃ (hv : Nat) (hf : Bool), ((hf = false ∧ hv = 0 ∧ cnt m (ww * hh) = 0) ∨ (hf = true ∧ hv < ww * hh ∧ 0 < cnt m (ww * hh) ∧ ∀ i, i < ww * hh → 0 < zAt m.C i → zAt m.R i ≤ zAt m.R hv)) ∧
    ∀ a b ca cb w, IRow w a m.R → IRow w b m.C → Calls Try.prog 37 #[.agg #[.int .i64 m.W, .int .i64 m.H, .slice a m.R.length ca, .slice b m.C.length cb]] w fun e w' => e = .returned (.tuple #[.int .i64 hv, .bool hf]) ∧ Below w.heap.size w w' := by
  have hR := g.R
  cases hh' : hi m m.R.length with
  | none =>
    refine ⟨0, false, .inl ⟨rfl, rfl, cnt_zero fun i hi => hi_none hh' i (by omega)⟩, fun a b ca cb w hr hc => (High.impl_yes m a b ca cb w hmo hr hc).mono fun e w' ⟨h1, h2⟩ => ⟨?_, h2⟩⟩
    rw [hh'] at h1
    exact h1
  | some bb =>
    have hl := hi_lt hh'
    refine ⟨bb, true, .inr ⟨rfl, by omega, cnt_pos (by omega) (hi_open hh'), fun i hi ho => hi_max hh' i (by omega) ho⟩, fun a b ca cb w hr hc => (High.impl_yes m a b ca cb w hmo hr hc).mono fun e w' ⟨h1, h2⟩ => ⟨?_, h2⟩⟩
    rw [hh'] at h1
    exact h1
/-- The cell is next to those next to it, if it is open. -/
theorem back_iff {m : Mp} {ww hh k y : Nat} (g : GoodM m ww hh) (hk : k < ww * hh) (hy : y ∈ nx m k) : decide (((k : Nat) : Int) ∈ ints (nx m y)) = decide (0 < zAt m.C k) := by
  have hyl := (nx_lt g hk hy).1
  by_cases ho : 0 < zAt m.C k
  · rw [decide_eq_true ho]
    exact PrtS.dec_yes (nx_sym g hk ho hy)
  · rw [decide_eq_false ho]
    exact PrtS.dec_no fun h => ho (nx_lt g hyl h).2

set_option maxRecDepth 100000 in
set_option maxHeartbeats 8000000 in
theorem law_any (W : World) (a : Option Addr) (n cap : Nat) (xs : Nat → Nat) (hc : Bytes W a n xs) :
    Calls Try.prog 4 #[.slice a n cap] W fun e w' => e = .returned (.bool true) ∧ Below W.heap.size W w' := by
  by_cases hbig : 65536 < n
  · have hbi : (65536 : Int) < (n : Int) := by omega
    go_enter Try.func4, Try.ntmps4
    go_wp2_with (go_at_call 14; go_in)
    go_ret
    exact ⟨rfl, Below.refl _ _⟩
  have HCo := Lib.hid hc
  have c1 := Lib.hid (next_draw a n cap xs W hc)
  have hbi : ¬ (65536 : Int) < (n : Int) := by omega
  clear hc hbig
  go_enter Try.func4, Try.ntmps4
  go_wp2_with (go_at_call 14; go_in)
  refine c1.out.mono ?_
  rintro e w1 ⟨v, z, rfl, ⟨m, ho, hR, hC⟩, hb1⟩
  obtain ⟨ar, cr, ac, cc, rfl, h1, h2, -⟩ := ho
  have hRm : m.R.length ≤ maxLen := by unfold maxLen; omega
  have hCm : m.C.length ≤ maxLen := by unfold maxLen; omega
  obtain ⟨B, hB⟩ : ∃ B, w1.heap.size = B := ⟨_, rfl⟩
  have HS1 := Lib.hid (show S1 W m ar cr ac cc B none [] (w1.alloc (.cells #[.int .i64 m.W, .int .i64 m.H, .slice ar m.R.length cr, .slice ac m.C.length cc] 26)) from by
    have hA : Below w1.heap.size w1 (w1.alloc (.cells #[.int .i64 m.W, .int .i64 m.H, .slice ar m.R.length cr, .slice ac m.C.length cc] 26)) := (Below.refl _ _).alloc (Nat.le_refl _) _
    refine ⟨hb1.alloc hb1.size _, ?_, RowAt.below (OwnI.row h1) hA, RowAt.below (OwnI.row h2) hA, .inl rfl⟩
    rw [← hB]
    exact Blk.new w1 26 #[.int .i64 m.W, .int .i64 m.H, .slice ar m.R.length cr, .slice ac m.C.length cc])
  obtain ⟨zs, ok, hlen, hyes, hno, hS, hI⟩ := Cells.both m z
  have HSp := Lib.hid hS
  have HIm := Lib.hid hI
  have HY := Lib.hid hyes
  have HNo := Lib.hid hno
  clear hS hI hyes hno h1 h2 hb1 c1
  obtain ⟨p0, p1, p2, p3, -⟩ := HS1.out.box.four
  rw [← hB] at p0 p1 p2 p3
  go_wp2_with fail
  refine (HIm.out ar ac cr cc _ hRm hCm HS1.out.r HS1.out.c).mono ?_
  rintro e w2 ⟨v2, rfl, ho2, hb2⟩
  obtain ⟨a2, c2, rfl, hr2, -⟩ := OwnI.slice ho2
  have HS2 := Lib.hid (show S1 W m ar cr ac cc B a2 zs w2 from ⟨(HS1.out.below hb2).b, (HS1.out.below hb2).box, (HS1.out.below hb2).r, (HS1.out.below hb2).c, hr2⟩)
  clear ho2 hr2 hb2 HS1 p0 p1 p2 p3 HIm hB
  obtain ⟨p0, p1, p2, p3, -⟩ := HS2.out.box.four
  go_wp2_with fail
  refine (HSp.out ar ac cr cc _ hRm hCm HS2.out.r HS2.out.c).mono ?_
  rintro e w3 ⟨v3, rfl, ho3, hb3⟩
  obtain ⟨a3, c3, rfl, hr3, -⟩ := OwnI.slice ho3
  have HS3 := Lib.hid (HS2.out.below hb3)
  have HR3 := Lib.hid hr3
  clear ho3 hr3 hb3 HS2 p0 p1 p2 p3 HSp
  have hzl : zs.length ≤ maxLen := by unfold maxLen; omega
  go_wp2_with fail
  refine (ints_same a2 a3 c2 c3 zs _ HS3.out.n HR3.out hzl).mono ?_
  rintro e w4 ⟨rfl, hb4⟩
  have HS4 := Lib.hid (HS3.out.below hb4)
  clear hb4 HS3 HR3
  go_wp2_with fail

  go_loopg [9] zs.length (fun q i wx => ∃ j : Nat, j ≤ zs.length ∧ q = zs.length - j ∧ i = .int .i64 j ∧ S1 W m ar cr ac cc B a2 zs wx)
  case atStart => exact ⟨0, Nat.zero_le _, rfl, rfl, HS4.out⟩
  case round =>
    clear HS4
    obtain ⟨j, hj, hq, rfl, hs⟩ := hrel
    have HS := Lib.hid hs
    clear hs
    by_cases hjl : j < zs.length
    · have HK := Lib.hid (show ok = true ∧ ∃ ww hh k, GoodM m ww hh ∧ z = (k : Nat) ∧ k < ww * hh ∧ zs = ints (nx m k) from by
        cases hok : ok with
        | false => rw [HNo.out hok] at hjl; simp at hjl
        | true => exact ⟨rfl, HY.out hok⟩)
      obtain ⟨hok, ww, hh, k, g, hz, hk, hzs⟩ := HK.out
      have HG := Lib.hid g
      have HZ := Lib.hid hzs
      obtain ⟨y, hy⟩ : ∃ y, (nx m k).getD j 0 = y := ⟨_, rfl⟩
      have hjn : j < (nx m k).length := by rw [hzs, ints_length] at hjl; exact hjl
      have hym : y ∈ nx m k := by rw [← hy]; exact getD_mem hjn
      have hyl := (nx_lt g hk hym).1
      have HBk := Lib.hid (back_iff g hk hym)
      have hzy : zAt zs j = (y : Int) := by rw [hzs, zAt_ints _ _ hjn, hy]
      rcases HS.out.n with h0 | ⟨b5, o5, rfl, hc5⟩
      · omega
      have g5 : wr.cell? ⟨b5, o5 + j, none⟩ = some (.int .i64 (y : Nat)) := by rw [← hzy]; exact hc5 j hjl
      have HSd := Lib.hid HS.out.drew
      have c5 := Lib.hid (Cells.impl_ok m ww hh g ar ac cr cc y _ HSd.out.r HSd.out.c (ok_of g) hyl)
      obtain ⟨p0, p1, p2, p3, -⟩ := HS.out.box.four
      have hx0 := HS.out.box.lt
      have hb5 := World.block_lt_of_cell? _ _ g5
      have hkC : k < m.C.length := by rw [g.C]; exact hk
      subst hok hz
      clear HK g hzs hy hjn hym hzy hc5
      go_upto_region 11 with (fail)
      go_cut [10, 11] from 70 to 79 (fun l one wx => ∃ a7 c7, l = .slice a7 (nx m y).length c7 ∧ one = .bool true ∧ IRow wx a7 (ints (nx m y)) ∧ S1 W m ar cr ac cc B (some ⟨b5, o5, none⟩) zs wx)
      case first =>
        go_region_with (go_at_call 29; refine c5.out.mono ?_; rintro e w5 ⟨v5, rfl, ho5, hb5'⟩; obtain ⟨a7, c7, rfl, hr7, -⟩ := OwnI.slice ho5; rw [ints_length]; have HR7 := Lib.hid hr7; have HS5 := Lib.hid (HSd.out.below hb5'); clear ho5 hr7 hb5')
        all_goals go_wp2_with fail
        all_goals go_meet
        all_goals exact ⟨a7, c7, rfl, rfl, HR7.out, HS5.out⟩
      case rest =>
      obtain ⟨a7, c7, rfl, rfl, hr7, hs5⟩ := hcut
      have HR7 := Lib.hid hr7
      have HS5 := Lib.hid hs5
      clear hr7 hs5 HS HSd c5 p0 p1 p2 p3 g5 hx0
      obtain ⟨p0, p1, p2, p3, -⟩ := HS5.out.box.four
      rcases HS5.out.c with h0 | ⟨bc, oc, rfl, hcc⟩
      · omega
      have gc : wc.cell? ⟨bc, oc + k, none⟩ = some (.int .i64 (zAt m.C k)) := hcc k hkC
      have hil : (ints (nx m y)).length = (nx m y).length := ints_length _
      have hnl := nx_length m y
      have HV := Lib.hid (show ∀ q, Calls Try.prog 32 #[.slice a7 (ints (nx m y)).length c7, .int .i64 (k : Nat)] (wc.drewN q) fun e w'' => e = .returned (.bool (decide (0 < zAt m.C k))) ∧ ∃ j, w'' = wc.drewN j from fun q => (vhas_any a7 c7 (ints (nx m y)) (k : Nat) (wc.drewN q) (show IRow (wc.drewN q) a7 (ints (nx m y)) from HR7.out) (by rw [hil]; unfold maxLen; omega)).mono fun e w' ⟨he, hw⟩ => ⟨by rw [he, HBk.out], q, hw⟩)
      rw [hil] at HV
      clear hcc hil
      have hx0 := HS5.out.box.lt
      go_upto_region 12 with (fail)
      go_quiet ((go_at_call 32; exact HV.out _))
      go_wp2_with fail

      go_roundg (zs.length - (j + 1))
      case measure => omega
      case rel => exact ⟨j + 1, by omega, rfl, by go_num, HS5.out.drewN _⟩
    · obtain rfl : j = zs.length := by omega
      have c14 := Lib.hid (parts_any a n cap xs _ (HCo.out.below HS.out.b))
      go_wp2_with fail
      refine c14.out.mono ?_
      rintro e w14 ⟨⟨v14, rfl, m2, ho2, hR2, hC2⟩, hb14⟩
      obtain ⟨a2r, k2r, a2c, k2c, rfl, h21, h22, -⟩ := ho2
      have hR2m : m2.R.length ≤ maxLen := by unfold maxLen; omega
      have hC2m : m2.C.length ≤ maxLen := by unfold maxLen; omega
      obtain ⟨ps, ok2, hok2, hiff2, hl36, hpl2, hS2, hI2⟩ := PrtO.both m2
      have HK2 := Lib.hid hok2
      have HI2' := Lib.hid hiff2
      have HL36 := Lib.hid hl36
      have HS2s := Lib.hid hS2
      have HS2i := Lib.hid hI2
      obtain ⟨B2, hB2⟩ : ∃ B, w14.heap.size = B := ⟨_, rfl⟩
      have HX1 := Lib.hid (show S1 W m2 a2r k2r a2c k2c B2 none [] (w14.alloc (.cells #[.int .i64 m2.W, .int .i64 m2.H, .slice a2r m2.R.length k2r, .slice a2c m2.C.length k2c] 26)) from by
        have hA : Below w14.heap.size w14 (w14.alloc (.cells #[.int .i64 m2.W, .int .i64 m2.H, .slice a2r m2.R.length k2r, .slice a2c m2.C.length k2c] 26)) := (Below.refl _ _).alloc (Nat.le_refl _) _
        have hBB := HS.out.b.trans (hb14.mono HS.out.b.size)
        refine ⟨hBB.alloc hBB.size _, ?_, RowAt.below (OwnI.row h21) hA, RowAt.below (OwnI.row h22) hA, .inl rfl⟩
        rw [← hB2]
        exact Blk.new w14 26 #[.int .i64 m2.W, .int .i64 m2.H, .slice a2r m2.R.length k2r, .slice a2c m2.C.length k2c])
      clear c14 hb14 h21 h22 hS2 hI2 hok2 hiff2 hl36 HS
      obtain ⟨p0, p1, p2, p3, -⟩ := HX1.out.box.four
      rw [← hB2] at p0 p1 p2 p3
      go_wp2_with fail
      refine (HS2i.out a2r a2c k2r k2c _ hR2m hC2m HX1.out.r HX1.out.c).mono ?_
      rintro e w15 ⟨v15, rs15, rfl, ho15, hb15⟩
      obtain ⟨a15, c15, rfl⟩ := ho15.slice
      have HT15 := Lib.hid ho15.rd
      have HX2 := Lib.hid (HX1.out.below hb15)
      clear ho15 hb15 HX1 p0 p1 p2 p3 hB2
      obtain ⟨p0, p1, p2, p3, -⟩ := HX2.out.box.four
      go_wp2_with fail
      refine (HS2s.out a2r a2c k2r k2c _ hR2m hC2m HX2.out.r HX2.out.c).mono ?_
      rintro e w16 ⟨v16, rs16, rfl, ho16, hb16⟩
      obtain ⟨a16, c16, rfl⟩ := ho16.slice
      have HT16 := Lib.hid ho16.rd
      have HT15b := Lib.hid (HT15.out.below hb16)
      have HX3' := Lib.hid (HX2.out.below hb16)
      clear ho16 hb16 HX2 p0 p1 p2 p3 HT15
      have hpm : ps.length ≤ maxLen := by unfold maxLen; omega
      go_wp2_with fail
      refine (table_same a15 a16 c15 c16 ps.length (zsOf ps) _ HT15b.out HT16.out hpm (fun i _ => by have := HL36.out i; unfold maxLen; omega)).mono ?_
      rintro e w17 ⟨rfl, hb17⟩
      have HT := Lib.hid (HT15b.out.below hb17)
      have HX := Lib.hid (HX3'.out.below hb17)
      have HBx := Lib.hid HX.out.b
      clear hb17 HT15b HT16 HX3'
      cases ok2 with
      | false =>
        have c38 := Lib.hid (step_draw a n cap xs _ (HCo.out.below HBx.out))
        go_wp2_with fail
        refine c38.out.mono ?_
        rintro e w38 ⟨v38, y3, z3, rfl, ⟨m3, ho3, hR3, hC3⟩, hb38⟩
        obtain ⟨a3r, k3r, a3c, k3c, rfl, h31, h32, -⟩ := ho3
        have hR3m : m3.R.length ≤ maxLen := by unfold maxLen; omega
        have hC3m : m3.C.length ≤ maxLen := by unfold maxLen; omega
        obtain ⟨n3, ok3, hpos3, hS3, hI3⟩ := StepC.both_v m3 y3 z3
        have HS3s := Lib.hid hS3
        have HS3i := Lib.hid hI3
        obtain ⟨B3, hB3⟩ : ∃ B, w38.heap.size = B := ⟨_, rfl⟩
        have HX3 := Lib.hid (show S1 W m3 a3r k3r a3c k3c B3 none [] (w38.alloc (.cells #[.int .i64 m3.W, .int .i64 m3.H, .slice a3r m3.R.length k3r, .slice a3c m3.C.length k3c] 26)) from by
          have hA : Below w38.heap.size w38 (w38.alloc (.cells #[.int .i64 m3.W, .int .i64 m3.H, .slice a3r m3.R.length k3r, .slice a3c m3.C.length k3c] 26)) := (Below.refl _ _).alloc (Nat.le_refl _) _
          have hBB := HBx.out.trans (hb38.mono HBx.out.size)
          refine ⟨hBB.alloc hBB.size _, ?_, RowAt.below (OwnI.row h31) hA, RowAt.below (OwnI.row h32) hA, .inl rfl⟩
          rw [← hB3]
          exact Blk.new w38 26 #[.int .i64 m3.W, .int .i64 m3.H, .slice a3r m3.R.length k3r, .slice a3c m3.C.length k3c])
        clear c38 hb38 h31 h32 hS3 hI3
        obtain ⟨p0, p1, p2, p3, -⟩ := HX3.out.box.four
        rw [← hB3] at p0 p1 p2 p3
        go_wp2_with fail
        refine (HS3i.out a3r a3c k3r k3c _ hR3m hC3m HX3.out.r HX3.out.c).mono ?_
        rintro e w39 ⟨rfl, hb39⟩
        have HX4 := Lib.hid (HX3.out.below hb39)
        clear hb39 HX3 p0 p1 p2 p3 hB3
        obtain ⟨p0, p1, p2, p3, -⟩ := HX4.out.box.four
        have hd3 : ok3 = true → decide (n3 < 1) = false := fun h => by have := hpos3 h; simp; omega
        clear hpos3
        cases ok3
        all_goals
          have hd4 := hd3
          simp only [reduceCtorEq, forall_const, false_implies] at hd4
          go_wp2_with fail
          refine (HS3s.out a3r a3c k3r k3c _ hR3m hC3m HX4.out.r HX4.out.c).mono ?_
          rintro e w40 ⟨rfl, hb40⟩
          have HX5 := Lib.hid (HX4.out.below hb40)
          have c43 := Lib.hid (high_any a n cap xs _ (HCo.out.below HX5.out.b))
          clear hb40 HX4 p0 p1 p2 p3
          go_wp2_with fail
          refine c43.out.mono ?_
          rintro e w43 ⟨⟨v43, rfl, m4, ho4, hR4, hC4⟩, hb43⟩
          obtain ⟨a4r, k4r, a4c, k4c, rfl, h41, h42, -⟩ := ho4
          have hR4m : m4.R.length ≤ maxLen := by unfold maxLen; omega
          have hC4m : m4.C.length ≤ maxLen := by unfold maxLen; omega
          obtain ⟨n4, ok4, hS4, hI4⟩ := High.both_v m4
          have HS4s := Lib.hid hS4
          have HS4i := Lib.hid hI4
          obtain ⟨B4, hB4⟩ : ∃ B, w43.heap.size = B := ⟨_, rfl⟩
          have HX6 := Lib.hid (show S1 W m4 a4r k4r a4c k4c B4 none [] (w43.alloc (.cells #[.int .i64 m4.W, .int .i64 m4.H, .slice a4r m4.R.length k4r, .slice a4c m4.C.length k4c] 26)) from by
            have hA : Below w43.heap.size w43 (w43.alloc (.cells #[.int .i64 m4.W, .int .i64 m4.H, .slice a4r m4.R.length k4r, .slice a4c m4.C.length k4c] 26)) := (Below.refl _ _).alloc (Nat.le_refl _) _
            have hBB := HX5.out.b.trans (hb43.mono HX5.out.b.size)
            refine ⟨hBB.alloc hBB.size _, ?_, RowAt.below (OwnI.row h41) hA, RowAt.below (OwnI.row h42) hA, .inl rfl⟩
            rw [← hB4]
            exact Blk.new w43 26 #[.int .i64 m4.W, .int .i64 m4.H, .slice a4r m4.R.length k4r, .slice a4c m4.C.length k4c])
          clear c43 hb43 h41 h42 hS4 hI4
          obtain ⟨p0, p1, p2, p3, -⟩ := HX6.out.box.four
          rw [← hB4] at p0 p1 p2 p3
          go_wp2_with fail
          refine (HS4i.out a4r a4c k4r k4c _ hR4m hC4m HX6.out.r HX6.out.c).mono ?_
          rintro e w44 ⟨rfl, hb44⟩
          have HX7 := Lib.hid (HX6.out.below hb44)
          clear hb44 HX6 p0 p1 p2 p3 hB4
          obtain ⟨p0, p1, p2, p3, -⟩ := HX7.out.box.four
          go_wp2_with fail
          refine (HS4s.out a4r a4c k4r k4c _ hR4m hC4m HX7.out.r HX7.out.c).mono ?_
          rintro e w45 ⟨rfl, hb45⟩
          have HX8 := Lib.hid (HX7.out.b.trans (hb45.mono HX7.out.b.size))
          clear hb45 p0 p1 p2 p3
          go_wp2_with fail
          go_ret
          exact ⟨rfl, HX8.out⟩
      | true =>
        obtain ⟨ww, hh, g, hps⟩ := HK2.out (by simp)
        have hmo : m2.ok := HI2'.out.1 (by simp)
        have hcnt : tot (zsOf ps) ps.length = cnt m2 (ww * hh) := (tot_all ps).trans (hps.count g)
        have n36 := g.n36
        have n1 := g.n1
        have hC2l := g.C
        have hR2l := g.R
        obtain ⟨hv, hf, hpr, hcall⟩ := hi_call g hmo
        have hgc := g.cell
        rw [← hC2l] at hcnt n36 n1 hR2l hpr hgc
        have hcl := cnt_le m2 m2.C.length
        have htb : tot (zsOf ps) ps.length ≤ 36 := by omega
        have hRC1 : m2.R.length ≤ m2.C.length := by omega
        have hRC2 : m2.C.length ≤ m2.R.length := by omega
        have HCnt := Lib.hid hcnt
        have HPr := Lib.hid hpr
        have HCl := Lib.hid hcall
        have HGC := Lib.hid hgc
        clear hps HBx g hpr hcall hmo hcnt hC2l hR2l hgc
        obtain ⟨p0, p1, p2, p3, -⟩ := HX.out.box.four
        go_wp2_with fail
        go_loop [19, 17] (fun i nn => ∃ j : Nat, j ≤ ps.length ∧ i = .int .i64 j ∧ nn = .int .i64 (tot (zsOf ps) j : Nat)) (fun i _ => ps.length - (intOf i).toNat)
        case atStart => exact ⟨0, Nat.zero_le _, rfl, by simp [tot]⟩
        case round =>
          obtain ⟨j, hj, rfl, rfl⟩ := hrel
          by_cases hjl : j < ps.length
          · obtain ⟨rs, hr1, hr2⟩ := HT.out
            rcases hr1 with h0 | ⟨bt, ot, rfl, hct⟩
            · omega
            obtain ⟨aj, cj, ej, -⟩ := hr2 j hjl
            have g1 := hct j hjl
            rw [ej] at g1
            have ht := tot_mono (zs := zsOf ps) (show j + 1 ≤ ps.length from hjl)
            rw [tot] at ht
            clear hct hr2 ej p0 p1 p2 p3
            go_wp2_with fail
            go_round
            case rel => exact ⟨j + 1, by omega, by go_num, by rw [tot]; go_num⟩
            case measure => simp [intOf]; omega
          · obtain rfl : j = ps.length := by omega
            rw [HCnt.out]
            go_wp2_with fail
            go_loop [20, 18] (fun i oo => ∃ j : Nat, j ≤ m2.C.length ∧ i = .int .i64 j ∧ oo = .int .i64 (cnt m2 j : Nat)) (fun i _ => m2.C.length - (intOf i).toNat)
            case atStart => exact ⟨0, Nat.zero_le _, rfl, by simp [cnt]⟩
            case round =>
              obtain ⟨j, hj, rfl, rfl⟩ := hrel
              by_cases hjl : j < m2.C.length
              · have hcj := cnt_le m2 j
                rcases HX.out.c with h0 | ⟨bc, oc, rfl, hcc⟩
                · omega
                have g1 := hcc j (by omega)
                clear hcc
                by_cases ho : 0 < zAt m2.C j
                · have hcn := cnt_yes ho
                  go_wp2_with fail
                  go_round
                  case rel => exact ⟨j + 1, by omega, by go_num, by rw [hcn]; go_num⟩
                  case measure => simp [intOf]; omega
                · have hcn := cnt_no ho
                  have hd : decide (0 < zAt m2.C j) = false := by simpa using ho
                  go_wp2_with fail
                  go_round
                  case rel => exact ⟨j + 1, by omega, by go_num, by rw [hcn]⟩
                  case measure => simp [intOf]; omega
              · obtain rfl : j = m2.C.length := by omega
                go_wp2_with fail
                refine (HCl.out a2r a2c k2r k2c _ HX.out.r HX.out.c).mono ?_
                rintro e w30 ⟨rfl, hb30⟩
                have HX30 := Lib.hid (HX.out.below hb30)
                clear hb30 HX HT p0 p1 p2 p3 HCl
                obtain ⟨p0, p1, p2, p3, -⟩ := HX30.out.box.four
                rcases HPr.out with ⟨rfl, rfl, hc0⟩ | ⟨rfl, hvl, hcp, hmax⟩
                · go_wp2_with fail
                  go_loopg [23] 0 (fun q i wx => q = 0 ∧ i = .int .i64 0 ∧ S1 W m2 a2r k2r a2c k2c B2 none [] wx)
                  case atStart => exact ⟨rfl, rfl, HX30.out⟩
                  case round =>
                    clear HX30
                    obtain ⟨-, rfl, hs⟩ := hrel
                    have HX31 := Lib.hid hs
                    have HBx := Lib.hid hs.b
                    clear hs
                    obtain ⟨p0, p1, p2, p3, -⟩ := HX31.out.box.four
                    have hcl0 : 0 < m2.C.length := n1
                    have c38 := Lib.hid (step_draw a n cap xs _ (HCo.out.below HBx.out))
                    go_wp2_with fail
                    refine c38.out.mono ?_
                    rintro e w38 ⟨v38, y3, z3, rfl, ⟨m3, ho3, hR3, hC3⟩, hb38⟩
                    obtain ⟨a3r, k3r, a3c, k3c, rfl, h31, h32, -⟩ := ho3
                    have hR3m : m3.R.length ≤ maxLen := by unfold maxLen; omega
                    have hC3m : m3.C.length ≤ maxLen := by unfold maxLen; omega
                    obtain ⟨n3, ok3, hpos3, hS3, hI3⟩ := StepC.both_v m3 y3 z3
                    have HS3s := Lib.hid hS3
                    have HS3i := Lib.hid hI3
                    obtain ⟨B3, hB3⟩ : ∃ B, w38.heap.size = B := ⟨_, rfl⟩
                    have HX3 := Lib.hid (show S1 W m3 a3r k3r a3c k3c B3 none [] (w38.alloc (.cells #[.int .i64 m3.W, .int .i64 m3.H, .slice a3r m3.R.length k3r, .slice a3c m3.C.length k3c] 26)) from by
                      have hA : Below w38.heap.size w38 (w38.alloc (.cells #[.int .i64 m3.W, .int .i64 m3.H, .slice a3r m3.R.length k3r, .slice a3c m3.C.length k3c] 26)) := (Below.refl _ _).alloc (Nat.le_refl _) _
                      have hBB := HBx.out.trans (hb38.mono HBx.out.size)
                      refine ⟨hBB.alloc hBB.size _, ?_, RowAt.below (OwnI.row h31) hA, RowAt.below (OwnI.row h32) hA, .inl rfl⟩
                      rw [← hB3]
                      exact Blk.new w38 26 #[.int .i64 m3.W, .int .i64 m3.H, .slice a3r m3.R.length k3r, .slice a3c m3.C.length k3c])
                    clear c38 hb38 h31 h32 hS3 hI3
                    obtain ⟨p0, p1, p2, p3, -⟩ := HX3.out.box.four
                    rw [← hB3] at p0 p1 p2 p3
                    go_wp2_with fail
                    refine (HS3i.out a3r a3c k3r k3c _ hR3m hC3m HX3.out.r HX3.out.c).mono ?_
                    rintro e w39 ⟨rfl, hb39⟩
                    have HX4 := Lib.hid (HX3.out.below hb39)
                    clear hb39 HX3 p0 p1 p2 p3 hB3
                    obtain ⟨p0, p1, p2, p3, -⟩ := HX4.out.box.four
                    have hd3 : ok3 = true → decide (n3 < 1) = false := fun h => by have := hpos3 h; simp; omega
                    clear hpos3
                    cases ok3
                    all_goals
                      have hd4 := hd3
                      simp only [reduceCtorEq, forall_const, false_implies] at hd4
                      go_wp2_with fail
                      refine (HS3s.out a3r a3c k3r k3c _ hR3m hC3m HX4.out.r HX4.out.c).mono ?_
                      rintro e w40 ⟨rfl, hb40⟩
                      have HX5 := Lib.hid (HX4.out.below hb40)
                      have c43 := Lib.hid (high_any a n cap xs _ (HCo.out.below HX5.out.b))
                      clear hb40 HX4 p0 p1 p2 p3
                      go_wp2_with fail
                      refine c43.out.mono ?_
                      rintro e w43 ⟨⟨v43, rfl, m4, ho4, hR4, hC4⟩, hb43⟩
                      obtain ⟨a4r, k4r, a4c, k4c, rfl, h41, h42, -⟩ := ho4
                      have hR4m : m4.R.length ≤ maxLen := by unfold maxLen; omega
                      have hC4m : m4.C.length ≤ maxLen := by unfold maxLen; omega
                      obtain ⟨n4, ok4, hS4, hI4⟩ := High.both_v m4
                      have HS4s := Lib.hid hS4
                      have HS4i := Lib.hid hI4
                      obtain ⟨B4, hB4⟩ : ∃ B, w43.heap.size = B := ⟨_, rfl⟩
                      have HX6 := Lib.hid (show S1 W m4 a4r k4r a4c k4c B4 none [] (w43.alloc (.cells #[.int .i64 m4.W, .int .i64 m4.H, .slice a4r m4.R.length k4r, .slice a4c m4.C.length k4c] 26)) from by
                        have hA : Below w43.heap.size w43 (w43.alloc (.cells #[.int .i64 m4.W, .int .i64 m4.H, .slice a4r m4.R.length k4r, .slice a4c m4.C.length k4c] 26)) := (Below.refl _ _).alloc (Nat.le_refl _) _
                        have hBB := HX5.out.b.trans (hb43.mono HX5.out.b.size)
                        refine ⟨hBB.alloc hBB.size _, ?_, RowAt.below (OwnI.row h41) hA, RowAt.below (OwnI.row h42) hA, .inl rfl⟩
                        rw [← hB4]
                        exact Blk.new w43 26 #[.int .i64 m4.W, .int .i64 m4.H, .slice a4r m4.R.length k4r, .slice a4c m4.C.length k4c])
                      clear c43 hb43 h41 h42 hS4 hI4
                      obtain ⟨p0, p1, p2, p3, -⟩ := HX6.out.box.four
                      rw [← hB4] at p0 p1 p2 p3
                      go_wp2_with fail
                      refine (HS4i.out a4r a4c k4r k4c _ hR4m hC4m HX6.out.r HX6.out.c).mono ?_
                      rintro e w44 ⟨rfl, hb44⟩
                      have HX7 := Lib.hid (HX6.out.below hb44)
                      clear hb44 HX6 p0 p1 p2 p3 hB4
                      obtain ⟨p0, p1, p2, p3, -⟩ := HX7.out.box.four
                      go_wp2_with fail
                      refine (HS4s.out a4r a4c k4r k4c _ hR4m hC4m HX7.out.r HX7.out.c).mono ?_
                      rintro e w45 ⟨rfl, hb45⟩
                      have HX8 := Lib.hid (HX7.out.b.trans (hb45.mono HX7.out.b.size))
                      clear hb45 p0 p1 p2 p3
                      go_wp2_with fail
                      go_ret
                      exact ⟨rfl, HX8.out⟩
                · have HMx := Lib.hid hmax
                  clear hmax
                  have hcp' : (0 : Int) < (cnt m2 m2.C.length : Int) := by omega
                  have hvd : decide (m2.R.length ≤ hv) = false := by simp; omega
                  have hvz : decide ((hv : Int) < 0) = false := by simp
                  go_wp2_with fail
                  go_loopg [23] m2.C.length (fun q i wx => ∃ j : Nat, j ≤ m2.C.length ∧ q = m2.C.length - j ∧ i = .int .i64 j ∧ S1 W m2 a2r k2r a2c k2c B2 none [] wx)
                  case atStart => exact ⟨0, Nat.zero_le _, rfl, rfl, HX30.out⟩
                  case round =>
                    clear HX30
                    obtain ⟨j, hj, hq4, rfl, hs⟩ := hrel
                    have HX31 := Lib.hid hs
                    clear hs
                    obtain ⟨p0, p1, p2, p3, -⟩ := HX31.out.box.four
                    by_cases hjl : j < m2.C.length
                    · rcases HX31.out.c with h0 | ⟨bc, oc, rfl, hcc⟩
                      · omega
                      rcases HX31.out.r with h0 | ⟨br, ob, rfl, hcr⟩
                      · omega
                      have g1 := hcc j hjl
                      have g2 := hcr j (by omega)
                      have g3 := hcr hv (by omega)
                      clear hcc hcr
                      have hx0 := HX31.out.box.lt
                      by_cases ho : 0 < zAt m2.C j
                      · have hd : decide (zAt m2.R hv < zAt m2.R j) = false := by have := HMx.out j hjl ho; simp; omega
                        go_upto_region 36 with (fail)
                        go_quiet (fail)
                        go_wp2_with fail
                        go_roundg (m2.C.length - (j + 1))
                        case measure => omega
                        case rel => exact ⟨j + 1, by omega, rfl, by go_num, HX31.out.drewN _⟩
                      · have hd : decide (0 < zAt m2.C j) = false := by simpa using ho
                        go_upto_region 36 with (fail)
                        go_quiet (fail)
                        go_wp2_with fail
                        go_roundg (m2.C.length - (j + 1))
                        case measure => omega
                        case rel => exact ⟨j + 1, by omega, rfl, by go_num, HX31.out.drewN _⟩
                    · obtain rfl : j = m2.C.length := by omega
                      have HBx := Lib.hid HX31.out.b
                      have c38 := Lib.hid (step_draw a n cap xs _ (HCo.out.below HBx.out))
                      go_wp2_with fail
                      refine c38.out.mono ?_
                      rintro e w38 ⟨v38, y3, z3, rfl, ⟨m3, ho3, hR3, hC3⟩, hb38⟩
                      obtain ⟨a3r, k3r, a3c, k3c, rfl, h31, h32, -⟩ := ho3
                      have hR3m : m3.R.length ≤ maxLen := by unfold maxLen; omega
                      have hC3m : m3.C.length ≤ maxLen := by unfold maxLen; omega
                      obtain ⟨n3, ok3, hpos3, hS3, hI3⟩ := StepC.both_v m3 y3 z3
                      have HS3s := Lib.hid hS3
                      have HS3i := Lib.hid hI3
                      obtain ⟨B3, hB3⟩ : ∃ B, w38.heap.size = B := ⟨_, rfl⟩
                      have HX3 := Lib.hid (show S1 W m3 a3r k3r a3c k3c B3 none [] (w38.alloc (.cells #[.int .i64 m3.W, .int .i64 m3.H, .slice a3r m3.R.length k3r, .slice a3c m3.C.length k3c] 26)) from by
                        have hA : Below w38.heap.size w38 (w38.alloc (.cells #[.int .i64 m3.W, .int .i64 m3.H, .slice a3r m3.R.length k3r, .slice a3c m3.C.length k3c] 26)) := (Below.refl _ _).alloc (Nat.le_refl _) _
                        have hBB := HBx.out.trans (hb38.mono HBx.out.size)
                        refine ⟨hBB.alloc hBB.size _, ?_, RowAt.below (OwnI.row h31) hA, RowAt.below (OwnI.row h32) hA, .inl rfl⟩
                        rw [← hB3]
                        exact Blk.new w38 26 #[.int .i64 m3.W, .int .i64 m3.H, .slice a3r m3.R.length k3r, .slice a3c m3.C.length k3c])
                      clear c38 hb38 h31 h32 hS3 hI3
                      obtain ⟨p0, p1, p2, p3, -⟩ := HX3.out.box.four
                      rw [← hB3] at p0 p1 p2 p3
                      go_wp2_with fail
                      refine (HS3i.out a3r a3c k3r k3c _ hR3m hC3m HX3.out.r HX3.out.c).mono ?_
                      rintro e w39 ⟨rfl, hb39⟩
                      have HX4 := Lib.hid (HX3.out.below hb39)
                      clear hb39 HX3 p0 p1 p2 p3 hB3
                      obtain ⟨p0, p1, p2, p3, -⟩ := HX4.out.box.four
                      have hd3 : ok3 = true → decide (n3 < 1) = false := fun h => by have := hpos3 h; simp; omega
                      clear hpos3
                      cases ok3
                      all_goals
                        have hd4 := hd3
                        simp only [reduceCtorEq, forall_const, false_implies] at hd4
                        go_wp2_with fail
                        refine (HS3s.out a3r a3c k3r k3c _ hR3m hC3m HX4.out.r HX4.out.c).mono ?_
                        rintro e w40 ⟨rfl, hb40⟩
                        have HX5 := Lib.hid (HX4.out.below hb40)
                        have c43 := Lib.hid (high_any a n cap xs _ (HCo.out.below HX5.out.b))
                        clear hb40 HX4 p0 p1 p2 p3
                        go_wp2_with fail
                        refine c43.out.mono ?_
                        rintro e w43 ⟨⟨v43, rfl, m4, ho4, hR4, hC4⟩, hb43⟩
                        obtain ⟨a4r, k4r, a4c, k4c, rfl, h41, h42, -⟩ := ho4
                        have hR4m : m4.R.length ≤ maxLen := by unfold maxLen; omega
                        have hC4m : m4.C.length ≤ maxLen := by unfold maxLen; omega
                        obtain ⟨n4, ok4, hS4, hI4⟩ := High.both_v m4
                        have HS4s := Lib.hid hS4
                        have HS4i := Lib.hid hI4
                        obtain ⟨B4, hB4⟩ : ∃ B, w43.heap.size = B := ⟨_, rfl⟩
                        have HX6 := Lib.hid (show S1 W m4 a4r k4r a4c k4c B4 none [] (w43.alloc (.cells #[.int .i64 m4.W, .int .i64 m4.H, .slice a4r m4.R.length k4r, .slice a4c m4.C.length k4c] 26)) from by
                          have hA : Below w43.heap.size w43 (w43.alloc (.cells #[.int .i64 m4.W, .int .i64 m4.H, .slice a4r m4.R.length k4r, .slice a4c m4.C.length k4c] 26)) := (Below.refl _ _).alloc (Nat.le_refl _) _
                          have hBB := HX5.out.b.trans (hb43.mono HX5.out.b.size)
                          refine ⟨hBB.alloc hBB.size _, ?_, RowAt.below (OwnI.row h41) hA, RowAt.below (OwnI.row h42) hA, .inl rfl⟩
                          rw [← hB4]
                          exact Blk.new w43 26 #[.int .i64 m4.W, .int .i64 m4.H, .slice a4r m4.R.length k4r, .slice a4c m4.C.length k4c])
                        clear c43 hb43 h41 h42 hS4 hI4
                        obtain ⟨p0, p1, p2, p3, -⟩ := HX6.out.box.four
                        rw [← hB4] at p0 p1 p2 p3
                        go_wp2_with fail
                        refine (HS4i.out a4r a4c k4r k4c _ hR4m hC4m HX6.out.r HX6.out.c).mono ?_
                        rintro e w44 ⟨rfl, hb44⟩
                        have HX7 := Lib.hid (HX6.out.below hb44)
                        clear hb44 HX6 p0 p1 p2 p3 hB4
                        obtain ⟨p0, p1, p2, p3, -⟩ := HX7.out.box.four
                        go_wp2_with fail
                        refine (HS4s.out a4r a4c k4r k4c _ hR4m hC4m HX7.out.r HX7.out.c).mono ?_
                        rintro e w45 ⟨rfl, hb45⟩
                        have HX8 := Lib.hid (HX7.out.b.trans (hb45.mono HX7.out.b.size))
                        clear hb45 p0 p1 p2 p3
                        go_wp2_with fail
                        go_ret
                        exact ⟨rfl, HX8.out⟩

end Go.Proofs.Ytijcdnmcmngheaa.CelW
