/- FnSymbols: the walk of the law. -/
import Derived.Test.YtpfjdlaaakkimaaDoorSymM
import Derived.Test.YtpfjdlaaakkimaaDoorDrP
import Derived.Test.YtpfjdlaaakkimaaDoorDrG
import Derived.Test.YtpfjdlaaakkimaaDoorTrnS
import Derived.Test.YtpfjdlaaakkimaaDoorPfL
namespace Go.Proofs.YtpfjdlaaakkimaaDoor.SymW
open Go.RowKit Lb Bk Cur CodB TxF PfL SymM
set_option linter.unusedSimpArgs false
set_option linter.unusedVariables false

/-- Turned sides are told as the model tells them. -/
theorem turn_both (f : Ft) (q : Int) : ∃ (g : Ft) (ok : Bool), (ok = true → OkF f ∧ ∃ k : Nat, k < 4 ∧ q = k ∧ g = f.turn k) ∧
    (∀ w, Calls Tryd.prog 18 #[.agg #[.int .i64 f.c, .string f.wh, .string f.wt, .string f.lk, .string f.sd], .int .i64 q] w fun e w' => e = .returned (.tuple #[.agg #[.int .i64 g.c, .string g.wh, .string g.wt, .string g.lk, .string g.sd], .bool ok]) ∧ Below w.heap.size w w') ∧
    (∀ w, Calls Tryd.prog 17 #[.agg #[.int .i64 f.c, .string f.wh, .string f.wt, .string f.lk, .string f.sd], .int .i64 q] w fun e w' => e = .returned (.tuple #[.agg #[.int .i64 g.c, .string g.wh, .string g.wt, .string g.lk, .string g.sd], .bool ok]) ∧ Below w.heap.size w w') := by
  by_cases h : okF f = true
  · by_cases h2 : 0 ≤ q ∧ q ≤ 3
    · obtain ⟨k, rfl⟩ : ∃ k : Nat, q = k := ⟨q.toNat, by omega⟩
      refine ⟨f.turn k, true, fun _ => ⟨of_decide_eq_true h, k, by omega, rfl, rfl⟩, fun w => (TrnS.spec_yes f k (by omega) w h).mono ?_, fun w => (TrnS.impl_yes f k (by omega) w h).mono ?_⟩
      · rintro e w' ⟨g, rfl, rfl, hb⟩
        exact ⟨rfl, hb⟩
      · rintro e w' ⟨g, rfl, rfl, hb⟩
        exact ⟨rfl, hb⟩
    · exact ⟨TrnS.zeroF, false, (fun h => by cases h), fun w => TrnS.spec_no f q w (.inr ⟨h, by omega⟩), fun w => TrnS.impl_no f q w (.inr ⟨h, by omega⟩)⟩
  · have h' : okF f = false := by simpa using h
    exact ⟨TrnS.zeroF, false, (fun h => by cases h), fun w => TrnS.spec_no f q w (.inl h'), fun w => TrnS.impl_no f q w (.inl h')⟩

theorem neB {x y : ByteArray} (h : ¬ x = y) : (x.toList == y.toList) = false := by
  simp only [beq_eq_false_iff_ne, ne_eq]
  exact fun e => h (toList_inj e)

set_option maxRecDepth 100000 in
set_option maxHeartbeats 8000000 in
theorem law_any (W : World) (hG : Prs.Glob W ∧ PfL.Mx W) (a : Option Addr) (n cap : Nat) (xs : Nat → Nat) (hc : Bytes W a n xs) :
    Calls Tryd.prog 3 #[.slice a n cap] W fun e w' => e = .returned (.bool true) ∧ Below W.heap.size W w' := by
  have HG := Lib.hid (fun w' (hb : Below W.heap.size W w') => (⟨Prs.Glob.below hG.1 hb, mx_below hG.2 hb⟩ : Prs.Glob w' ∧ Mx w'))
  have HC := Lib.hid (fun w' (hb : Below W.heap.size W w') => hc.below hb)
  have DF := Lib.hid (DrF.text_any a n cap xs W hc)
  clear hG hc
  by_cases hbig : 65536 < n
  · go_enter Tryd.func3, Tryd.ntmps3
    go_wp2
    go_ret
    exact ⟨rfl, Below.refl _ _⟩
  go_enter Tryd.func3, Tryd.ntmps3
  go_wp2_with (go_at_call 8; go_in)
  refine DF.out.mono ?_
  rintro e w1 ⟨⟨f, rfl⟩, hb1⟩
  have B2 := Lib.hid (hb1.alloc hb1.size (.cells #[.int .i64 f.c, .string f.wh, .string f.wt, .string f.lk, .string f.sd] 25))
  have K2 := Lib.hid (Blk.new w1 25 #[.int .i64 f.c, .string f.wh, .string f.wt, .string f.lk, .string f.sd])
  clear hb1 DF
  obtain ⟨g3, hg3⟩ : ∃ g, w1.heap.size = g := ⟨_, rfl⟩
  rw [hg3] at K2
  obtain ⟨p0, p1, p2, p3, p4, -⟩ := K2.out.five
  go_wp2_with fail
  refine (TxF.impl_any f _).mono ?_
  rintro e w3 ⟨rfl, hb3⟩
  have B3 := Lib.hid (B2.out.trans (hb3.mono B2.out.size))
  have K3 := Lib.hid (K2.out.later hb3)
  clear hb3 B2 K2 p0 p1 p2 p3 p4
  obtain ⟨p0, p1, p2, p3, p4, -⟩ := K3.out.five
  go_wp2_with fail
  refine (TxF.spec_any f _).mono ?_
  rintro e w4 ⟨rfl, hb4⟩
  have B4 := Lib.hid (B3.out.trans (hb4.mono B3.out.size))
  have K4 := Lib.hid (K3.out.later hb4)
  clear hb4 B3 K3 p0 p1 p2 p3 p4
  obtain ⟨p0, p1, p2, p3, p4, -⟩ := K4.out.five
  have hne : (okF f != okF f) = false := by simp
  go_wp2_with fail
  refine (IsF.impl_any f _).mono ?_
  rintro e w5 ⟨rfl, hb5⟩
  have B5 := Lib.hid (B4.out.trans (hb5.mono B4.out.size))
  have K5 := Lib.hid (K4.out.later hb5)
  clear hb5 B4 K4 p0 p1 p2 p3 p4
  go_wp2_with fail
  obtain ⟨m, hm⟩ := (HG.out _ B5.out).2
  refine (PfI.impl_any (tx f) (by have := tx_size (f := f); omega) _ (HG.out _ B5.out).1 m hm).mono ?_
  rintro e w6 ⟨rfl, hb6⟩
  have B6 := Lib.hid (B5.out.trans (hb6.mono B5.out.size))
  have K6 := Lib.hid (K5.out.later hb6)
  clear hb6 B5 K5 hm
  obtain ⟨r, hr⟩ : ∃ r, PfI.ansI (tx f) = r := ⟨_, rfl⟩
  obtain ⟨o, ho⟩ : ∃ o, PfI.okI (tx f) = o := ⟨_, rfl⟩
  obtain ⟨k, hk⟩ : ∃ k, okF f = k := ⟨_, rfl⟩
  rw [hr, ho, hk]
  clear hne
  have B7 := Lib.hid (B6.out.alloc B6.out.size (.cells #[.int .i64 r.c, .string r.wh, .string r.wt, .string r.lk, .string r.sd] 25))
  have K7 := Lib.hid (K6.out.alloc (.cells #[.int .i64 r.c, .string r.wh, .string r.wt, .string r.lk, .string r.sd] 25))
  have L7 := Lib.hid (Blk.new w6 25 #[.int .i64 r.c, .string r.wh, .string r.wt, .string r.lk, .string r.sd])
  clear B6 K6
  go_upto_region 9 with (fail)
  go_cut [72] from 63 to 71 (fun v wx => v = .bool false ∧ Below W.heap.size W wx)
  case first =>
    cases k with
    | false =>
      go_wp2
      go_meet
      exact ⟨rfl, B7.out⟩
    | true =>
      obtain ⟨hI, hA⟩ := back_ok (of_decide_eq_true (p := OkF f) hk)
      have hrf : r = f := hr.symm.trans hA
      have hot : o = true := ho.symm.trans hI
      subst hrf
      subst hot
      obtain ⟨p0, p1, p2, p3, p4, -⟩ := K7.out.five
      obtain ⟨q0, q1, q2, q3, q4, -⟩ := L7.out.five
      go_wp2
      go_meet
      exact ⟨rfl, B7.out⟩
  case rest =>
  obtain ⟨rfl, hB⟩ := hcut
  have B8 := Lib.hid hB
  clear hB B7 K7 L7
  go_wp2_with fail
  refine (DrG.parse_any a n cap xs _ (HC.out _ B8.out)).mono ?_
  rintro e w9 ⟨⟨t, rfl, ht⟩, hb9⟩
  have B9 := Lib.hid (B8.out.trans (hb9.mono B8.out.size))
  clear hb9 B8
  obtain ⟨p, fine, -, hi, hsp⟩ := PfE.both_v t (by omega)
  have HI := Lib.hid hi
  have HS := Lib.hid hsp
  clear hi hsp
  go_wp2_with fail
  obtain ⟨m, hm⟩ := (HG.out _ B9.out).2
  refine (HI.out _ (HG.out _ B9.out).1 m hm).mono ?_
  rintro e w10 ⟨rfl, hb10⟩
  have B10 := Lib.hid ((B9.out.trans (hb10.mono B9.out.size)).alloc (B9.out.trans (hb10.mono B9.out.size)).size (.cells #[.int .i64 p.c, .string p.wh, .string p.wt, .string p.lk, .string p.sd] 25))
  have K10 := Lib.hid (Blk.new w10 25 #[.int .i64 p.c, .string p.wh, .string p.wt, .string p.lk, .string p.sd])
  clear hb10 B9 HI hm
  go_wp2_with fail
  refine (HS.out _).mono ?_
  rintro e w11 ⟨rfl, hb11⟩
  have B11 := Lib.hid ((B10.out.trans (hb11.mono B10.out.size)).alloc (B10.out.trans (hb11.mono B10.out.size)).size (.cells #[.int .i64 p.c, .string p.wh, .string p.wt, .string p.lk, .string p.sd] 25))
  have K11 := Lib.hid ((K10.out.later hb11).alloc (.cells #[.int .i64 p.c, .string p.wh, .string p.wt, .string p.lk, .string p.sd] 25))
  have L11 := Lib.hid (Blk.new w11 25 #[.int .i64 p.c, .string p.wh, .string p.wt, .string p.lk, .string p.sd])
  clear hb11 B10 K10 HS
  obtain ⟨p0, p1, p2, p3, p4, -⟩ := K11.out.five
  obtain ⟨q0, q1, q2, q3, q4, -⟩ := L11.out.five
  have hnf : (fine != fine) = false := by simp
  go_wp2_with fail
  refine (DrP.turn_any a n cap xs _ (HC.out _ B11.out)).mono ?_
  rintro e w12 ⟨⟨x, q, rfl, hq0, hq4⟩, hb12⟩
  have B12 := Lib.hid ((B11.out.trans (hb12.mono B11.out.size)).alloc (B11.out.trans (hb12.mono B11.out.size)).size (.cells #[.int .i64 x.c, .string x.wh, .string x.wt, .string x.lk, .string x.sd] 25))
  have K12 := Lib.hid (Blk.new w12 25 #[.int .i64 x.c, .string x.wh, .string x.wt, .string x.lk, .string x.sd])
  clear hb12 B11 K11 L11 p0 p1 p2 p3 p4 q0 q1 q2 q3 q4 hnf
  obtain ⟨g15, hg15⟩ : ∃ g, w12.heap.size = g := ⟨_, rfl⟩
  rw [hg15] at K12
  obtain ⟨y, told, hy, hsp, hi⟩ := turn_both x q
  have HI := Lib.hid hi
  have HS := Lib.hid hsp
  have HY := Lib.hid hy
  clear hi hsp hy
  obtain ⟨p0, p1, p2, p3, p4, -⟩ := K12.out.five
  go_wp2_with fail
  refine (HI.out _).mono ?_
  rintro e w13 ⟨rfl, hb13⟩
  have B13 := Lib.hid ((B12.out.trans (hb13.mono B12.out.size)).alloc (B12.out.trans (hb13.mono B12.out.size)).size (.cells #[.int .i64 y.c, .string y.wh, .string y.wt, .string y.lk, .string y.sd] 25))
  have K13 := Lib.hid ((K12.out.later hb13).alloc (.cells #[.int .i64 y.c, .string y.wh, .string y.wt, .string y.lk, .string y.sd] 25))
  have L13 := Lib.hid (Blk.new w13 25 #[.int .i64 y.c, .string y.wh, .string y.wt, .string y.lk, .string y.sd])
  clear hb13 B12 K12 HI p0 p1 p2 p3 p4
  obtain ⟨g17, hg17⟩ : ∃ g, w13.heap.size = g := ⟨_, rfl⟩
  rw [hg17] at L13
  obtain ⟨p0, p1, p2, p3, p4, -⟩ := K13.out.five
  go_wp2_with fail
  refine (HS.out _).mono ?_
  rintro e w14 ⟨rfl, hb14⟩
  have B14 := Lib.hid ((B13.out.trans (hb14.mono B13.out.size)).alloc (B13.out.trans (hb14.mono B13.out.size)).size (.cells #[.int .i64 y.c, .string y.wh, .string y.wt, .string y.lk, .string y.sd] 25))
  have K14 := Lib.hid ((K13.out.later hb14).alloc (.cells #[.int .i64 y.c, .string y.wh, .string y.wt, .string y.lk, .string y.sd] 25))
  have M14 := Lib.hid ((L13.out.later hb14).alloc (.cells #[.int .i64 y.c, .string y.wh, .string y.wt, .string y.lk, .string y.sd] 25))
  have L14 := Lib.hid (Blk.new w14 25 #[.int .i64 y.c, .string y.wh, .string y.wt, .string y.lk, .string y.sd])
  clear hb14 B13 K13 L13 HS p0 p1 p2 p3 p4
  obtain ⟨p0, p1, p2, p3, p4, -⟩ := M14.out.five
  obtain ⟨q0, q1, q2, q3, q4, -⟩ := L14.out.five
  have hnt : (told != told) = false := by simp
  go_upto_if 118 with (fail)
  clear hnt p0 p1 p2 p3 p4 q0 q1 q2 q3 q4
  go_cut [21, 22] from 119 to 138 (fun _ _ wx => Below W.heap.size W wx)
  case first =>
    cases told with
    | false =>
      go_wp2
      go_meet
      exact B14.out
    | true =>
      obtain ⟨hx, k, hk, hqk, hyk⟩ := HY.out rfl
      have HYO := Lib.hid (show okF y = true from by rw [hyk]; exact okF_yes (ok_turn hx hk))
      have HYB := Lib.hid (show y.turn ((4 - k) % 4) = x from by rw [hyk]; exact turn_back x hk)
      have HYI := Lib.hid (IsF.impl_any y)
      obtain ⟨j, hj, hj4⟩ : ∃ j, (4 - k) % 4 = j ∧ j < 4 := ⟨_, rfl, by omega⟩
      rw [hj] at HYB
      have HT := Lib.hid (fun w => TrnS.impl_yes y j hj4 w HYO.out)
      have hrem : (4 - q).tmod 4 = (j : Int) := by
        obtain rfl | rfl | rfl | rfl : k = 0 ∨ k = 1 ∨ k = 2 ∨ k = 3 := by omega
        all_goals
          subst hqk
          subst hj
          decide
      have hsub2 : IntKind.i64.wrap (j : Int) = (j : Int) := IntWalk.i64_in _ (by omega)
      have hsub : IntKind.i64.wrap (4 - q) = 4 - q := IntWalk.i64_in _ (by omega)
      clear hyk hqk hj hx hk HY
      obtain ⟨p0, p1, p2, p3, p4, -⟩ := M14.out.five
      go_wp2_with fail
      refine (HT.out _).mono ?_
      rintro e w15 ⟨g, hgy, rfl, hb15⟩
      have hgx : g = x := hgy.trans HYB.out
      clear hgy
      subst hgx
      have B15 := Lib.hid ((B14.out.trans (hb15.mono B14.out.size)).alloc (B14.out.trans (hb15.mono B14.out.size)).size (.cells #[.int .i64 g.c, .string g.wh, .string g.wt, .string g.lk, .string g.sd] 25))
      have K15 := Lib.hid ((K14.out.later hb15).alloc (.cells #[.int .i64 g.c, .string g.wh, .string g.wt, .string g.lk, .string g.sd] 25))
      have M15 := Lib.hid ((M14.out.later hb15).alloc (.cells #[.int .i64 g.c, .string g.wh, .string g.wt, .string g.lk, .string g.sd] 25))
      have L15 := Lib.hid (Blk.new w15 25 #[.int .i64 g.c, .string g.wh, .string g.wt, .string g.lk, .string g.sd])
      clear hb15 p0 p1 p2 p3 p4 hsub hsub2 hrem
      obtain ⟨p0, p1, p2, p3, p4, -⟩ := K15.out.five
      obtain ⟨q0, q1, q2, q3, q4, -⟩ := L15.out.five
      obtain ⟨r0, r1, r2, r3, r4, -⟩ := M15.out.five
      go_wp2_with fail
      refine (HYI.out _).mono ?_
      rintro e w16 ⟨rfl, hb16⟩
      have B16 := Lib.hid (B15.out.trans (hb16.mono B15.out.size))
      clear hb16 p0 p1 p2 p3 p4 q0 q1 q2 q3 q4 r0 r1 r2 r3 r4
      rw [HYO.out]
      go_wp2
      go_meet
      exact B16.out
  case rest =>
  have B20 := Lib.hid hcut
  clear hcut B14 K14 M14 L14 HY
  go_wp2_with fail
  refine (DrP.pair_any a n cap xs _ (HC.out _ B20.out)).mono ?_
  rintro e w21 ⟨⟨u, v, rfl⟩, hb21⟩
  have B21 := Lib.hid (B20.out.trans (hb21.mono B20.out.size))
  have B22 := Lib.hid ((B21.out.alloc B21.out.size (.cells #[.int .i64 u.c, .string u.wh, .string u.wt, .string u.lk, .string u.sd] 25)).alloc (B21.out.alloc B21.out.size (.cells #[.int .i64 u.c, .string u.wh, .string u.wt, .string u.lk, .string u.sd] 25)).size (.cells #[.int .i64 v.c, .string v.wh, .string v.wt, .string v.lk, .string v.sd] 25))
  have K22 := Lib.hid ((Blk.new w21 25 #[.int .i64 u.c, .string u.wh, .string u.wt, .string u.lk, .string u.sd]).alloc (.cells #[.int .i64 v.c, .string v.wh, .string v.wt, .string v.lk, .string v.sd] 25))
  have L22 := Lib.hid (show Blk ((w21.alloc (.cells #[.int .i64 u.c, .string u.wh, .string u.wt, .string u.lk, .string u.sd] 25)).alloc (.cells #[.int .i64 v.c, .string v.wh, .string v.wt, .string v.lk, .string v.sd] 25)) (w21.heap.size + 1) 25 #[.int .i64 v.c, .string v.wh, .string v.wt, .string v.lk, .string v.sd] from Blk.at_ (by simp))
  clear hb21 B20 B21
  obtain ⟨g23, hg23⟩ : ∃ g, w21.heap.size = g := ⟨_, rfl⟩
  rw [hg23] at K22 L22
  obtain ⟨p0, p1, p2, p3, p4, -⟩ := K22.out.five
  obtain ⟨q0, q1, q2, q3, q4, -⟩ := L22.out.five
  go_wp2_with fail
  refine (Des.impl_any u v _).mono ?_
  rintro e w23 ⟨rfl, hb23⟩
  have B23 := Lib.hid (B22.out.trans (hb23.mono B22.out.size))
  have K23 := Lib.hid (K22.out.later hb23)
  have L23 := Lib.hid (L22.out.later hb23)
  clear hb23 B22 K22 L22 p0 p1 p2 p3 p4 q0 q1 q2 q3 q4
  obtain ⟨p0, p1, p2, p3, p4, -⟩ := K23.out.five
  obtain ⟨q0, q1, q2, q3, q4, -⟩ := L23.out.five
  go_wp2_with fail
  refine (Des.spec_any u v _).mono ?_
  rintro e w24 ⟨rfl, hb24⟩
  have B24 := Lib.hid (B23.out.trans (hb24.mono B23.out.size))
  have K24 := Lib.hid (K23.out.later hb24)
  have L24 := Lib.hid (L23.out.later hb24)
  clear hb24 B23 K23 L23 p0 p1 p2 p3 p4 q0 q1 q2 q3 q4
  have SY := Lib.hid (fun h e => same_yes (f := u) (g := v) h e)
  have SN := Lib.hid (fun h e => same_no (f := u) (g := v) h e)
  have hlt := K24.out.lt
  have hlt2 := L24.out.lt
  have B26 := Lib.hid (B24.out.alloc B24.out.size (.cells #[.int .i64 v.c, .string u.wh, .string u.wt, .string u.lk, .string u.sd] 25))
  have L26 := Lib.hid (L24.out.alloc (.cells #[.int .i64 v.c, .string u.wh, .string u.wt, .string u.lk, .string u.sd] 25))
  have N26 := Lib.hid (Blk.new w24 25 #[.int .i64 v.c, .string u.wh, .string u.wt, .string u.lk, .string u.sd])
  have L25 := Lib.hid (L24.out.alloc (.cells #[.int .i64 u.c, .string u.wh, .string u.wt, .string u.lk, .string u.sd] 25))
  have N25 := Lib.hid (Blk.new w24 25 #[.int .i64 u.c, .string u.wh, .string u.wt, .string u.lk, .string u.sd])
  clear B24 hg23
  obtain ⟨sm, hsm⟩ : ∃ b, Des.same u v = b := ⟨_, rfl⟩
  obtain ⟨kn, hkn⟩ : ∃ b, Des.known u v = b := ⟨_, rfl⟩
  rw [hsm] at SY SN
  rw [hsm, hkn]
  rw [hkn] at SY SN
  have h1 : (sm != sm) = false := by simp
  have h2 : (kn != kn) = false := by simp
  clear hsm hkn
  obtain ⟨p0, p1, p2, p3, p4, -⟩ := K24.out.five
  obtain ⟨q0, q1, q2, q3, q4, -⟩ := L25.out.five
  obtain ⟨r0, r1, r2, r3, r4, z0, z1, z2, z3, z4⟩ := N25.out.five
  cases kn with
  | false =>
    go_wp2
    go_ret
    exact ⟨rfl, B26.out⟩
  | true =>
    go_upto_region 32 with (fail)
    clear p0 p1 p2 p3 p4 q0 q1 q2 q3 q4 r0 r1 r2 r3 r4 z0 z1 z2 z3 z4 h1 h2
    obtain ⟨t0, t1, t2, t3, t4, -⟩ := N26.out.five
    obtain ⟨s0, s1, s2, s3, s4, -⟩ := L26.out.five
    by_cases e1 : u.wh = v.wh
    · by_cases e2 : u.wt = v.wt
      · by_cases e3 : u.lk = v.lk
        · by_cases e4 : u.sd = v.sd
          · have hs := SY.out trivial (by unfold Ft.code; rw [e1, e2, e3, e4])
            subst hs
            rw [e1, e2, e3, e4] at t1 t2 t3 t4 B26 s0 s1 s2 s3 s4
            go_wp2
            go_ret
            exact ⟨rfl, B26.out⟩
          · have hs := SN.out trivial (fun k => e4 (by have := congrArg Ft.sd k; simpa [Ft.code] using this))
            have b1 := congrArg ByteArray.toList e1
            have b2 := congrArg ByteArray.toList e2
            have b3 := congrArg ByteArray.toList e3
            have b4 := neB e4
            subst hs
            clear e1 e2 e3 e4
            go_wp2
            go_ret
            exact ⟨rfl, B26.out⟩
        · have hs := SN.out trivial (fun k => e3 (by have := congrArg Ft.lk k; simpa [Ft.code] using this))
          have b1 := congrArg ByteArray.toList e1
          have b2 := congrArg ByteArray.toList e2
          have b3 := neB e3
          subst hs
          clear e1 e2 e3
          go_wp2
          go_ret
          exact ⟨rfl, B26.out⟩
      · have hs := SN.out trivial (fun k => e2 (by have := congrArg Ft.wt k; simpa [Ft.code] using this))
        have b1 := congrArg ByteArray.toList e1
        have b2 := neB e2
        subst hs
        clear e1 e2
        go_wp2
        go_ret
        exact ⟨rfl, B26.out⟩
    · have hs := SN.out trivial (fun k => e1 (by have := congrArg Ft.wh k; simpa [Ft.code] using this))
      have b1 := neB e1
      subst hs
      clear e1
      go_wp2
      go_ret
      exact ⟨rfl, B26.out⟩

end Go.Proofs.YtpfjdlaaakkimaaDoor.SymW
