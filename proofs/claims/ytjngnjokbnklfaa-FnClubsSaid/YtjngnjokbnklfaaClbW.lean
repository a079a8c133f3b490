/- FnClubs: the walk of the law. -/
import Derived.Test.YtjngnjokbnklfaaClbM
import Derived.Test.YtjngnjokbnklfaaRuDl
import Derived.Test.YtjngnjokbnklfaaSamH
namespace Go.Proofs.Ytjngnjokbnklfaa.ClbW
open Go.RowKit Lb Bk Cur RuK RuI RuA RuG RuDl CodB ClM ClbM BgI
set_option linter.unusedSimpArgs false
set_option linter.unusedVariables false

set_option maxRecDepth 100000 in
set_option maxHeartbeats 4000000 in
theorem law_any (W : World) (a : Option Addr) (n cap : Nat) (xs : Nat → Nat) (hc : Bytes W a n xs) :
    Calls Try.prog 5 #[.slice a n cap] W fun e w' => e = .returned (.bool true) ∧ Below W.heap.size W w' := by
  have HC := Lib.hid (fun w' (hb : Below W.heap.size W w') => hc.below hb)
  have D1 := Lib.hid (clubsof_any a n cap xs W hc)
  have DM := Lib.hid (fun w' (h : Bytes w' a n xs) => members_any a n cap xs w' h)
  have DA := Lib.hid (fun w' (h : Bytes w' a n xs) => aged_any a n cap xs w' h)
  clear hc
  by_cases hbig : 65536 < n
  · go_enter Try.func5, Try.ntmps5
    go_wp2
    go_ret
    exact ⟨rfl, Below.refl _ _⟩
  go_enter Try.func5, Try.ntmps5
  go_wp2_with (go_at_call 39; go_in)
  refine D1.out.mono ?_
  rintro e w1 ⟨v1, rs, rfl, hl⟩
  have B1 := Lib.hid hl.B
  obtain ⟨a1, c1, rfl, hrow, -⟩ := hl.own.slice
  have HI := Lib.hid hl.is
  have HL := Lib.hid (Own.le hl.own)
  have R1 := Lib.hid hrow
  have h11 := hl.le
  clear hl hrow D1
  go_wp2_with fail
  refine (ClI.impl_any rs HI.out (by omega) a1 c1 _ HL.out R1.out).mono ?_
  rintro e w2 ⟨v2, rfl, ho, hb⟩
  have B2 := Lib.hid (B1.out.trans (hb.mono B1.out.size))
  have R2 := Lib.hid (R1.out.later hb)
  have O2 := Lib.hid ho
  clear ho hb B1 R1
  go_wp2_with fail
  refine (ClI.spec_any rs HI.out (by omega) a1 c1 _ R2.out).mono ?_
  rintro e w3 ⟨v3, rfl, ho, hb⟩
  obtain ⟨a2, c2, rfl, s2, -⟩ := (O2.out.below hb).slice
  obtain ⟨a3, c3, rfl, s3, -⟩ := ho.slice
  have B3 := Lib.hid (B2.out.trans (hb.mono B2.out.size))
  have R3 := Lib.hid (R2.out.later hb)
  have S2 := Lib.hid s2
  have S3 := Lib.hid s3
  clear ho hb B2 R2 O2 s2 s3
  obtain ⟨cs, hcs⟩ : ∃ cs, ClI.coL rs = cs := ⟨_, rfl⟩
  obtain ⟨g, hg⟩ : ∃ g, goodB rs = g := ⟨_, rfl⟩
  have HCS := Lib.hid hcs
  have HG := Lib.hid hg
  have hcl := ClI.co_len rs
  rw [hcs] at S2 S3 hcl
  rw [hcs, hg]
  obtain ⟨m, hm⟩ : ∃ m, cs.length = m := ⟨_, rfl⟩
  have HM := Lib.hid hm
  rw [hm] at hcl ⊢
  obtain ⟨l, hll⟩ : ∃ l, rs.length = l := ⟨_, rfl⟩
  have HLL := Lib.hid hll
  rw [hll] at hcl h11 HL ⊢
  clear hcs hg hm hll
  go_wp2_with fail
  refine (SamH.texts_same a2 a3 c2 c3 m cs _ HM.out S2.out S3.out (by omega)).mono ?_
  rintro e w4 ⟨rfl, hb⟩
  have B4 := Lib.hid (B3.out.trans (hb.mono B3.out.size))
  have R4 := Lib.hid (R3.out.later hb)
  have S4 := Lib.hid (StrK.Row.later S2.out hb)
  clear hb B3 R3 S2 S3
  have hbc := Lib.hid (BgI.impl_any rs HI.out (by rw [HLL.out]; omega) a1 c1)
  have hbs := Lib.hid (BgI.spec_any rs HI.out (by rw [HLL.out]; omega) a1 c1)
  rw [HLL.out] at hbc hbs
  obtain ⟨bs, hbsq⟩ : ∃ x, bcS rs = x := ⟨_, rfl⟩
  obtain ⟨bn, hbnq⟩ : ∃ x, bcN rs = x := ⟨_, rfl⟩
  obtain ⟨bb, hbbq⟩ : ∃ x, bcB rs = x := ⟨_, rfl⟩
  rw [hbsq, hbnq, hbbq] at hbc hbs
  have HBS := Lib.hid hbsq
  have HBN := Lib.hid hbnq
  have HBB := Lib.hid hbbq
  clear hbsq hbnq hbbq
  go_wp2_with fail
  refine (hbc.out _ HL.out R4.out).mono ?_
  rintro e w5 ⟨rfl, hb⟩
  have B5 := Lib.hid (B4.out.trans (hb.mono B4.out.size))
  have R5 := Lib.hid (R4.out.later hb)
  have S5 := Lib.hid (StrK.Row.later S4.out hb)
  clear hb B4 R4 S4 hbc
  go_wp2_with fail
  refine (hbs.out _ R5.out).mono ?_
  rintro e w6 ⟨rfl, hb⟩
  have B6 := Lib.hid (B5.out.trans (hb.mono B5.out.size))
  have R6 := Lib.hid (R5.out.later hb)
  have S6 := Lib.hid (StrK.Row.later S5.out hb)
  clear hb B5 R5 S5 hbs
  have HN0 := Lib.hid (show ∀ i, i ≤ m → smL (mN rs) (cs.take i) ≤ l from fun i hi => by
    cases g with
    | false =>
      have : cs = [] := by rw [← HCS.out]; unfold ClI.coL; rw [HG.out]; rfl
      rw [this]; simp [smL]
    | true =>
      have e : cs = clubL rs := by rw [← HCS.out]; unfold ClI.coL; rw [HG.out]; rfl
      have h2 : smL (mN rs) cs = l := by rw [e, ← HLL.out]; exact sm_clubs rs
      have h3 := sm_split (mN rs) cs i
      omega)
  go_wp2
  go_loopg [15, 14, 16, 17] m (fun gk s t _ _ wr => ∃ i : Nat, i ≤ m ∧ gk = m - i ∧ s = .int .i64 i ∧ t = .int .i64 (smL (mN rs) (cs.take i) : Nat) ∧ Below w6.heap.size w6 wr)
  case atStart => exact ⟨0, Nat.zero_le _, rfl, rfl, rfl, Below.refl _ _⟩
  case round =>
    obtain ⟨i, hi, hgk, rfl, rfl, hB⟩ := hrel
    have HB := Lib.hid hB
    have BX := Lib.hid (B6.out.trans (hB.mono B6.out.size))
    clear hB
    by_cases hlt : i < m
    · have hgt : g = true := by
        cases hg : g with
        | true => rfl
        | false =>
          have : cs = [] := by rw [← HCS.out]; unfold ClI.coL; rw [HG.out, hg]; rfl
          have h2 := HM.out
          rw [this] at h2
          simp at h2
          omega
      have e : cs = clubL rs := by rw [← HCS.out]; unfold ClI.coL; rw [HG.out, hgt]; rfl
      have hbbt : bb = true := by
        rw [← HBB.out]; unfold bcB
        rw [HG.out, hgt]
        have : 0 < rs.length := by rw [HLL.out]; omega
        simp [this]
      have hbs1 : (bgF rs cs).1 = bs := by rw [← HBS.out]; unfold bcS; rw [HBB.out, hbbt, e]; rfl
      have hbn1 : (bgF rs cs).2 = bn := by rw [← HBN.out]; unfold bcN; rw [HBB.out, hbbt, e]; rfl
      obtain ⟨b, off, rfl, c0⟩ := SeS.cells_ (StrK.Row.later S6.out HB.out) (i := i) (by rw [HM.out]; exact hlt) ⟨#[]⟩
      have hall := bg_all rs (cs := cs) (j := i) (by rw [HM.out]; exact hlt)
      have hpos := mN_pos (rs := rs) (c := cs.getD i ⟨#[]⟩) (by rw [← e]; simp [show i < cs.length from by rw [HM.out]; exact hlt])
      have hst := sm_take (f := mN rs) (cs := cs) (k := i) (by rw [HM.out]; exact hlt) ⟨#[]⟩
      have hle := HN0.out (i + 1) (by omega)
      rw [hbs1, hbn1] at hall
      obtain ⟨c, hcq⟩ : ∃ c, cs.getD i ⟨#[]⟩ = c := ⟨_, rfl⟩
      rw [hcq] at c0 hall hpos hst
      have hcm : RuH.cmL rs c = RuH.memL rs c := by unfold RuH.cmL; rw [HG.out, hgt]; rfl
      obtain ⟨q, hq⟩ : ∃ q, mN rs c = q := ⟨_, rfl⟩
      rw [hq] at hall hpos hst
      have HQ := Lib.hid (show (RuH.cmL rs c).length = q from by rw [hcm]; exact hq)
      rw [hst] at hle
      have HST := Lib.hid hst
      obtain ⟨s0, hs0⟩ : ∃ s, smL (mN rs) (cs.take i) = s := ⟨_, rfl⟩
      rw [hs0] at hle HST ⊢
      have c3 := Lib.hid (RuJ.impl_any rs HI.out (by rw [HLL.out]; omega) c a1 c1 wr (by rw [HLL.out]; exact HL.out) (R6.out.later HB.out))
      rw [HLL.out, HG.out] at c3
      unfold RuE.NPost at c3
      have hw : IntKind.i64.wrap ((s0 : Int) + (q : Int)) = ((s0 + q : Nat) : Int) := by rw [IntWalk.i64_in _ (by omega)]; omega
      have d1 : ((q : Int) == 0) = false := by simp; omega
      have d2 : decide ((bn : Int) < (q : Int)) = false := by simp; omega
      have hq0 : ¬ q = 0 := by omega
      have hq1 : ¬ bn < q := by omega
      have d2' : decide (bn < q) = false := decide_eq_false hq1
      have hall2 := Lib.hid (show c = bs → q = bn from fun h => hall.2 h hpos)
      clear hall hpos hst hcq hcm hq hs0 e hbs1 hbn1 hle hbbt
      subst hgt
      go_wp2_with fail
      refine c3.out.mono ?_
      rintro e w7 ⟨v7, rfl, ho, hb⟩
      obtain ⟨a7, c7, rfl, -, -⟩ := IntK.Own.slice ho
      rw [HQ.out]
      have HB7 := Lib.hid (HB.out.trans (hb.mono HB.out.size))
      have c0' := (hb.cell (World.block_lt_of_cell? wr _ c0)).trans c0
      clear ho hb c0 c3 HQ
      have hlm : (i : Int) < (m : Int) := by omega
      by_cases h : c = bs
      · have e3 : (c.toList == bs.toList) = true := by rw [h]; simp
        obtain rfl : q = bn := hall2.out h
        clear h
        go_wp2
        go_roundg (m - (i + 1))
        case measure => omega
        case rel => exact ⟨i + 1, by omega, rfl, by go_num, by rw [HST.out, Int.natCast_add], HB7.out⟩
      · have e3 : (c.toList == bs.toList) = false := str_beq h
        clear h
        go_wp2
        go_roundg (m - (i + 1))
        case measure => omega
        case rel => exact ⟨i + 1, by omega, rfl, by go_num, by rw [HST.out, Int.natCast_add], HB7.out⟩
    · obtain rfl : i = m := by omega
      rw [List.take_of_length_le (by rw [HM.out]; exact Nat.le_refl _)]
      clear hlt hi
      cases g with
      | false =>
        obtain ⟨s0, hs0⟩ : ∃ s, smL (mN rs) cs = s := ⟨_, rfl⟩
        rw [hs0]
        clear hs0
        go_wp2_with fail
        refine (DM.out _ (HC.out _ BX.out)).mono ?_
        rintro e w20 ⟨v20, qs, nm, rfl, hnm, hl⟩
        have BY := Lib.hid (BX.out.trans (hl.B.mono BX.out.size))
        obtain ⟨a20, c20, rfl, hrow, -⟩ := hl.own.slice
        have QI := Lib.hid hl.is
        have QL := Lib.hid (Own.le hl.own)
        have QR := Lib.hid hrow
        have hq11 := hl.le
        clear hl hrow BX
        go_wp2_with fail
        refine (RuJ.impl_any qs QI.out (by omega) nm a20 c20 _ QL.out QR.out).mono ?_
        rintro e w21 ⟨v21, rfl, ho, hb⟩
        have BZ := Lib.hid (BY.out.trans (hb.mono BY.out.size))
        have QR2 := Lib.hid (QR.out.later hb)
        have OA := Lib.hid ho
        clear ho hb BY QR
        go_wp2_with fail
        refine (RuH.spec_any qs QI.out (by omega) nm a20 c20 _ QR2.out).mono ?_
        rintro e w22 ⟨v22, rfl, ho, hb⟩
        obtain ⟨a21, c21, rfl, IA⟩ := SamH.int_row (IntK.Own.below OA.out hb)
        obtain ⟨a22, c22, rfl, IB⟩ := SamH.int_row ho
        have BW := Lib.hid (BZ.out.trans (hb.mono BZ.out.size))
        have IAh := Lib.hid IA
        have IBh := Lib.hid IB
        have hcl := RuH.cm_len qs nm
        obtain ⟨zs, hzs⟩ : ∃ zs, RuH.cmL qs nm = zs := ⟨_, rfl⟩
        obtain ⟨gq, hgq⟩ : ∃ g, goodB qs = g := ⟨_, rfl⟩
        rw [hzs] at IAh IBh hcl
        rw [hzs, hgq]
        obtain ⟨zn, hzn⟩ : ∃ n, zs.length = n := ⟨_, rfl⟩
        rw [hzn] at hcl ⊢
        have HZN := Lib.hid hzn
        clear ho hb OA IA IB hzs hgq QR2 BZ hzn
        go_wp2_with fail
        refine (SamH.ints_same a21 a22 c21 c22 zn zs _ HZN.out IAh.out IBh.out (by omega)).mono ?_
        rintro e w23 ⟨rfl, hb⟩
        have BV := Lib.hid (BW.out.trans (hb.mono BW.out.size))
        clear hb BW IAh IBh HZN hcl QI QL hq11
        go_wp2_with fail
        refine (DA.out _ (HC.out _ BV.out)).mono ?_
        rintro e w30 ⟨v30, us, lo, hi, rfl, hl⟩
        have BY := Lib.hid (BV.out.trans (hl.B.mono BV.out.size))
        obtain ⟨a30, c30, rfl, hrow, -⟩ := hl.own.slice
        have QI := Lib.hid hl.is
        have QL := Lib.hid (Own.le hl.own)
        have QR := Lib.hid hrow
        have hq11 := hl.le
        clear hl hrow BV
        go_wp2_with fail
        refine (RuE.impl_any us QI.out (by omega) lo hi a30 c30 _ QL.out QR.out).mono ?_
        rintro e w31 ⟨v31, rfl, ho, hb⟩
        have BZ := Lib.hid (BY.out.trans (hb.mono BY.out.size))
        have QR2 := Lib.hid (QR.out.later hb)
        have OA := Lib.hid ho
        clear ho hb BY QR
        go_wp2_with fail
        refine (RuE.spec_any us QI.out (by omega) lo hi a30 c30 _ QR2.out).mono ?_
        rintro e w32 ⟨v32, rfl, ho, hb⟩
        obtain ⟨a31, c31, rfl, IA⟩ := SamH.int_row (IntK.Own.below OA.out hb)
        obtain ⟨a32, c32, rfl, IB⟩ := SamH.int_row ho
        have BW := Lib.hid (BZ.out.trans (hb.mono BZ.out.size))
        have IAh := Lib.hid IA
        have IBh := Lib.hid IB
        have hcl := RuE.rg_len us lo hi
        obtain ⟨zs, hzs⟩ : ∃ zs, RuE.rgL us lo hi = zs := ⟨_, rfl⟩
        obtain ⟨gq, hgq⟩ : ∃ g, RuE.rgB us lo hi = g := ⟨_, rfl⟩
        rw [hzs] at IAh IBh hcl
        rw [hzs, hgq]
        obtain ⟨zn, hzn⟩ : ∃ n, zs.length = n := ⟨_, rfl⟩
        rw [hzn] at hcl ⊢
        have HZN := Lib.hid hzn
        clear ho hb OA IA IB hzs hgq QR2 BZ hzn
        go_wp2_with fail
        refine (SamH.ints_same a31 a32 c31 c32 zn zs _ HZN.out IAh.out IBh.out (by omega)).mono ?_
        rintro e w33 ⟨rfl, hb⟩
        have BV := Lib.hid (BW.out.trans (hb.mono BW.out.size))
        clear hb BW IAh IBh HZN hcl QI QL hq11
        go_wp2
        go_ret
        exact ⟨rfl, BV.out⟩
      | true =>
        have e : cs = clubL rs := by rw [← HCS.out]; unfold ClI.coL; rw [HG.out]; rfl
        have h2 : smL (mN rs) cs = l := by rw [e, ← HLL.out]; exact sm_clubs rs
        rw [h2]
        obtain ⟨h3, h4⟩ := aged_all HG.out
        rw [HLL.out] at h3
        have HQ := Lib.hid h3
        have c3 := Lib.hid (RuE.impl_any rs HI.out (by rw [HLL.out]; omega) 0 120 a1 c1 wr (by rw [HLL.out]; exact HL.out) (R6.out.later HB.out))
        rw [HLL.out, h4] at c3
        unfold RuE.NPost at c3
        clear e h2 h3 h4
        go_wp2_with fail
        refine c3.out.mono ?_
        rintro e w7 ⟨v7, rfl, ho, hb⟩
        obtain ⟨a7, c7, rfl, -, -⟩ := IntK.Own.slice ho
        rw [HQ.out]
        have BX := Lib.hid (BX.out.trans (hb.mono BX.out.size))
        clear ho hb c3 HQ
        go_wp2_with fail
        refine (DM.out _ (HC.out _ BX.out)).mono ?_
        rintro e w20 ⟨v20, qs, nm, rfl, hnm, hl⟩
        have BY := Lib.hid (BX.out.trans (hl.B.mono BX.out.size))
        obtain ⟨a20, c20, rfl, hrow, -⟩ := hl.own.slice
        have QI := Lib.hid hl.is
        have QL := Lib.hid (Own.le hl.own)
        have QR := Lib.hid hrow
        have hq11 := hl.le
        clear hl hrow BX
        go_wp2_with fail
        refine (RuJ.impl_any qs QI.out (by omega) nm a20 c20 _ QL.out QR.out).mono ?_
        rintro e w21 ⟨v21, rfl, ho, hb⟩
        have BZ := Lib.hid (BY.out.trans (hb.mono BY.out.size))
        have QR2 := Lib.hid (QR.out.later hb)
        have OA := Lib.hid ho
        clear ho hb BY QR
        go_wp2_with fail
        refine (RuH.spec_any qs QI.out (by omega) nm a20 c20 _ QR2.out).mono ?_
        rintro e w22 ⟨v22, rfl, ho, hb⟩
        obtain ⟨a21, c21, rfl, IA⟩ := SamH.int_row (IntK.Own.below OA.out hb)
        obtain ⟨a22, c22, rfl, IB⟩ := SamH.int_row ho
        have BW := Lib.hid (BZ.out.trans (hb.mono BZ.out.size))
        have IAh := Lib.hid IA
        have IBh := Lib.hid IB
        have hcl := RuH.cm_len qs nm
        obtain ⟨zs, hzs⟩ : ∃ zs, RuH.cmL qs nm = zs := ⟨_, rfl⟩
        obtain ⟨gq, hgq⟩ : ∃ g, goodB qs = g := ⟨_, rfl⟩
        rw [hzs] at IAh IBh hcl
        rw [hzs, hgq]
        obtain ⟨zn, hzn⟩ : ∃ n, zs.length = n := ⟨_, rfl⟩
        rw [hzn] at hcl ⊢
        have HZN := Lib.hid hzn
        clear ho hb OA IA IB hzs hgq QR2 BZ hzn
        go_wp2_with fail
        refine (SamH.ints_same a21 a22 c21 c22 zn zs _ HZN.out IAh.out IBh.out (by omega)).mono ?_
        rintro e w23 ⟨rfl, hb⟩
        have BV := Lib.hid (BW.out.trans (hb.mono BW.out.size))
        clear hb BW IAh IBh HZN hcl QI QL hq11
        go_wp2_with fail
        refine (DA.out _ (HC.out _ BV.out)).mono ?_
        rintro e w30 ⟨v30, us, lo, hi, rfl, hl⟩
        have BY := Lib.hid (BV.out.trans (hl.B.mono BV.out.size))
        obtain ⟨a30, c30, rfl, hrow, -⟩ := hl.own.slice
        have QI := Lib.hid hl.is
        have QL := Lib.hid (Own.le hl.own)
        have QR := Lib.hid hrow
        have hq11 := hl.le
        clear hl hrow BV
        go_wp2_with fail
        refine (RuE.impl_any us QI.out (by omega) lo hi a30 c30 _ QL.out QR.out).mono ?_
        rintro e w31 ⟨v31, rfl, ho, hb⟩
        have BZ := Lib.hid (BY.out.trans (hb.mono BY.out.size))
        have QR2 := Lib.hid (QR.out.later hb)
        have OA := Lib.hid ho
        clear ho hb BY QR
        go_wp2_with fail
        refine (RuE.spec_any us QI.out (by omega) lo hi a30 c30 _ QR2.out).mono ?_
        rintro e w32 ⟨v32, rfl, ho, hb⟩
        obtain ⟨a31, c31, rfl, IA⟩ := SamH.int_row (IntK.Own.below OA.out hb)
        obtain ⟨a32, c32, rfl, IB⟩ := SamH.int_row ho
        have BW := Lib.hid (BZ.out.trans (hb.mono BZ.out.size))
        have IAh := Lib.hid IA
        have IBh := Lib.hid IB
        have hcl := RuE.rg_len us lo hi
        obtain ⟨zs, hzs⟩ : ∃ zs, RuE.rgL us lo hi = zs := ⟨_, rfl⟩
        obtain ⟨gq, hgq⟩ : ∃ g, RuE.rgB us lo hi = g := ⟨_, rfl⟩
        rw [hzs] at IAh IBh hcl
        rw [hzs, hgq]
        obtain ⟨zn, hzn⟩ : ∃ n, zs.length = n := ⟨_, rfl⟩
        rw [hzn] at hcl ⊢
        have HZN := Lib.hid hzn
        clear ho hb OA IA IB hzs hgq QR2 BZ hzn
        go_wp2_with fail
        refine (SamH.ints_same a31 a32 c31 c32 zn zs _ HZN.out IAh.out IBh.out (by omega)).mono ?_
        rintro e w33 ⟨rfl, hb⟩
        have BV := Lib.hid (BW.out.trans (hb.mono BW.out.size))
        clear hb BW IAh IBh HZN hcl QI QL hq11
        go_wp2
        go_ret
        exact ⟨rfl, BV.out⟩

end Go.Proofs.Ytjngnjokbnklfaa.ClbW
