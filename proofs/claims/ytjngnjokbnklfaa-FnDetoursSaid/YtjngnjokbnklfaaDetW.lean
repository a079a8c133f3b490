/- FnDetours: the walk of the law. -/
import Derived.Test.YtjngnjokbnklfaaDetM
import Derived.Test.YtjngnjokbnklfaaDrwF
import Derived.Test.YtjngnjokbnklfaaDrwT3
import Derived.Test.YtjngnjokbnklfaaDrwW
import Derived.Test.YtjngnjokbnklfaaVHas
namespace Go.Proofs.Ytjngnjokbnklfaa.DetW
open Go.RowKit Lb Cur IntS MapS MapV SpecB CodM DrwM LtI DetM
set_option linter.unusedSimpArgs false
set_option linter.unusedVariables false

/-- A map in its box. -/
structure Bx (m : Mp) (a : Option Addr) (ca : Nat) (b : Option Addr) (cb B : Nat) (wx : World) : Prop where
  x : Blk wx B 26 #[.int .i64 m.W, .int .i64 m.H, .slice a m.R.length ca, .slice b m.C.length cb]
  r : IRow wx a m.R
  c : IRow wx b m.C
section
variable {m : Mp} {a b : Option Addr} {ca cb B : Nat} {w wx w' W : World}
theorem Bx.later (h : Bx m a ca b cb B wx) (hb : Below wx.heap.size wx w') : Bx m a ca b cb B w' := ⟨h.x.later hb, RowAt.below h.r hb, RowAt.below h.c hb⟩
theorem Bx.al (h : Bx m a ca b cb B wx) (o : Obj) : Bx m a ca b cb B (wx.alloc o) := h.later ((Below.refl _ _).alloc (Nat.le_refl _) _)
theorem Bx.new (hr : IRow w a m.R) (hc : IRow w b m.C) : Bx m a ca b cb w.heap.size (w.alloc (.cells #[.int .i64 m.W, .int .i64 m.H, .slice a m.R.length ca, .slice b m.C.length cb] 26)) :=
  ⟨Blk.new _ _ _, RowAt.below hr ((Below.refl _ _).alloc (Nat.le_refl _) _), RowAt.below hc ((Below.refl _ _).alloc (Nat.le_refl _) _)⟩
theorem nxt (h : Below W.heap.size W w) (hb : Below w.heap.size w w') : Below W.heap.size W w' := h.trans (hb.mono h.size)
theorem al (h : Below W.heap.size W w) (o : Obj) : Below W.heap.size W (w.alloc o) := h.alloc h.size o
end

set_option maxRecDepth 100000 in
set_option maxHeartbeats 8000000 in
theorem law_any (W : World) (a : Option Addr) (n cap : Nat) (xs : Nat → Nat) (hc : Bytes W a n xs) :
    Calls Try.prog 4 #[.slice a n cap] W fun e w' => e = .returned (.bool true) ∧ Below W.heap.size W w' := by
  by_cases hbig : 65536 < n
  · have hbi : (65536 : Int) < (n : Int) := by omega
    go_enter Try.func4, Try.ntmps4
    go_wp2_with (go_at_call 10; go_in)
    go_ret
    exact ⟨rfl, Below.refl _ _⟩
  have HCo := Lib.hid (show ∀ w' : World, Below W.heap.size W w' → Bytes w' a n xs from fun w' h => hc.below h)
  have c1 := Lib.hid (detour_draw a n cap xs W hc)
  have hbi : ¬ (65536 : Int) < (n : Int) := by omega
  clear hc hbig
  go_enter Try.func4, Try.ntmps4
  go_wp2_with (go_at_call 10; go_in)
  refine c1.out.mono ?_
  rintro e w1 ⟨v, p, r, q, rfl, ⟨m, ho, hR, hC⟩, hb1⟩
  obtain ⟨ar, cr, ac, cc, rfl, h1, h2, -⟩ := ho
  have hRm : m.R.length ≤ maxLen := by unfold maxLen; omega
  have hCm : m.C.length ≤ maxLen := by unfold maxLen; omega
  have W1 := Lib.hid (al hb1 (.cells #[.int .i64 m.W, .int .i64 m.H, .slice ar m.R.length cr, .slice ac m.C.length cc] 26))
  have M1 := Lib.hid (Bx.new (ca := cr) (cb := cc) (OwnI.row h1) (OwnI.row h2))
  clear hb1 h1 h2 c1 hR hC
  obtain ⟨d, ok, x0, k0, hd, hxk, hDI, hDS, hKI, hKS⟩ := det_both m p r q hRm hCm
  have HXK := Lib.hid hxk
  have HDI := Lib.hid hDI
  have HDS := Lib.hid hDS
  have HKI := Lib.hid hKI
  have HKS := Lib.hid hKS
  have hdn : ¬ d < 0 := by omega
  clear hxk hDI hDS hKI hKS
  go_wp2_with fail
  refine (HDI.out ar ac cr cc _ M1.out.r M1.out.c).mono ?_
  rintro e w2 ⟨rfl, hb2⟩
  have W2 := Lib.hid (nxt W1.out hb2)
  have M2 := Lib.hid (M1.out.later hb2)
  clear hb2 W1 M1 HDI
  obtain ⟨p0, p1, p2, p3, -⟩ := M2.out.x.four
  go_wp2_with fail
  refine (HDS.out ar ac cr cc _ M2.out.r M2.out.c).mono ?_
  rintro e w3 ⟨rfl, hb3⟩
  have W3 := Lib.hid (nxt W2.out hb3)
  have M3 := Lib.hid (M2.out.later hb3)
  clear hb3 W2 M2 HDS p0 p1 p2 p3
  obtain ⟨p0, p1, p2, p3, -⟩ := M3.out.x.four
  have hne : (ok != ok) = false := by simp
  go_wp2_with fail
  refine (HKI.out ar ac cr cc _ M3.out.r M3.out.c).mono ?_
  rintro e w4 ⟨rfl, hb4⟩
  have W4 := Lib.hid (nxt W3.out hb4)
  have M4 := Lib.hid (M3.out.later hb4)
  clear hb4 W3 M3 HKI p0 p1 p2 p3 hne
  obtain ⟨p0, p1, p2, p3, -⟩ := M4.out.x.four
  go_wp2_with fail
  refine (HKS.out ar ac cr cc _ M4.out.r M4.out.c).mono ?_
  rintro e w5 ⟨rfl, hb5⟩
  have W5 := Lib.hid (nxt W4.out hb5)
  clear hb5 W4 M4 HKS p0 p1 p2 p3
  have hnx : (x0 != x0) = false := by simp
  have hnk : (k0 != k0) = false := by simp
  cases ok with
  | false =>
    clear HXK
    have c2 := Lib.hid (within_draw a n cap xs _ (HCo.out _ W5.out))
    go_wp2_with fail
    refine c2.out.mono ?_
    rintro e w6 ⟨v6, st, tm, rfl, ⟨x, ho6, hR6, hC6⟩, hb6, ht1, ht2⟩
    obtain ⟨a6, ca6, b6, cb6, rfl, h61, h62, -⟩ := ho6
    have hRx : x.R.length ≤ maxLen := by unfold maxLen; omega
    have hCx : x.C.length ≤ maxLen := by unfold maxLen; omega
    have W6 := Lib.hid (al (nxt W5.out hb6) (.cells #[.int .i64 x.W, .int .i64 x.H, .slice a6 x.R.length ca6, .slice b6 x.C.length cb6] 26))
    have M6 := Lib.hid (Bx.new (ca := ca6) (cb := cb6) (OwnI.row h61) (OwnI.row h62))
    clear hb6 h61 h62 c2 W5
    obtain ⟨zs, fine, hzl, hWI, hWS, hWy⟩ := win_both x st tm hRx hCx
    have HWI := Lib.hid hWI
    have HWS := Lib.hid hWS
    have HWy := Lib.hid hWy
    have hzm : zs.length ≤ maxLen := by unfold maxLen; omega
    clear hWI hWS hWy hR6 hC6
    go_wp2_with fail
    refine (HWI.out a6 b6 ca6 cb6 _ M6.out.r M6.out.c).mono ?_
    rintro e w7 ⟨v7, rfl, ho7, hb7⟩
    obtain ⟨a7, c7, rfl, hr7, -⟩ := OwnI.slice ho7
    have W7 := Lib.hid (nxt W6.out hb7)
    have M7 := Lib.hid (M6.out.later hb7)
    have R7 := Lib.hid hr7
    clear hb7 ho7 hr7 W6 M6
    obtain ⟨p0, p1, p2, p3, -⟩ := M7.out.x.four
    go_wp2_with fail
    refine (HWS.out a6 b6 ca6 cb6 _ M7.out.r M7.out.c).mono ?_
    rintro e w8 ⟨v8, rfl, ho8, hb8⟩
    obtain ⟨a8, c8, rfl, hr8, -⟩ := OwnI.slice ho8
    have W8 := Lib.hid (nxt W7.out hb8)
    have M8 := Lib.hid (M7.out.later hb8)
    have R8 := Lib.hid (RowAt.below R7.out hb8)
    have S8 := Lib.hid hr8
    clear hb8 ho8 hr8 W7 M7 R7 p0 p1 p2 p3 HWI HWS
    have hne2 : (fine != fine) = false := by simp
    go_wp2_with fail
    refine (VHel.ints_same a7 a8 c7 c8 zs _ R8.out S8.out hzm).mono ?_
    rintro e w9 ⟨rfl, hb9⟩
    have W9 := Lib.hid (nxt W8.out hb9)
    have M9 := Lib.hid (M8.out.later hb9)
    have R9 := Lib.hid (RowAt.below R8.out hb9)
    clear hb9 W8 M8 R8 S8 hne2
    obtain ⟨p0, p1, p2, p3, -⟩ := M9.out.x.four
    cases fine with
    | false =>
      have WX := Lib.hid W9.out
      clear W9 M9 R9 p0 p1 p2 p3 HWy
      have c3 := Lib.hid (far_draw a n cap xs _ (HCo.out _ WX.out))
      go_wp2_with fail
      refine c3.out.mono ?_
      rintro e w20 ⟨v20, fr, rfl, ⟨y, ho20, hR20, hC20⟩, hb20⟩
      obtain ⟨a20, ca20, b20, cb20, rfl, h201, h202, -⟩ := ho20
      have hRy : y.R.length ≤ maxLen := by unfold maxLen; omega
      have hCy : y.C.length ≤ maxLen := by unfold maxLen; omega
      have W20 := Lib.hid (al (nxt WX.out hb20) (.cells #[.int .i64 y.W, .int .i64 y.H, .slice a20 y.R.length ca20, .slice b20 y.C.length cb20] 26))
      have M20 := Lib.hid (Bx.new (ca := ca20) (cb := cb20) (OwnI.row h201) (OwnI.row h202))
      clear hb20 h201 h202 c3 WX hR20 hC20
      obtain ⟨gc, gt, gk, hGS, hGI⟩ := FarI.both_v y fr
      have HGS := Lib.hid hGS
      have HGI := Lib.hid hGI
      clear hGS hGI
      go_wp2_with fail
      refine (HGI.out a20 b20 ca20 cb20 _ hRy hCy M20.out.r M20.out.c).mono ?_
      rintro e w21 ⟨rfl, hb21⟩
      have W21 := Lib.hid (nxt W20.out hb21)
      have M21 := Lib.hid (M20.out.later hb21)
      clear hb21 W20 M20 HGI
      obtain ⟨s0, s1, s2, s3, -⟩ := M21.out.x.four
      go_wp2_with fail
      refine (HGS.out a20 b20 ca20 cb20 _ hRy hCy M21.out.r M21.out.c).mono ?_
      rintro e w22 ⟨rfl, hb22⟩
      have W22 := Lib.hid (nxt W21.out hb22)
      clear hb22 W21 M21 s0 s1 s2 s3
      have hbe : (gk == gk) = true := by simp
      go_wp2
      go_ret
      exact ⟨rfl, W22.out⟩
    | true =>
      obtain ⟨ys, fc, ft, hyl, hYI, hFI, hsub, hst, hfar⟩ := HWy.out rfl
      have HYI := Lib.hid hYI
      have HFI := Lib.hid hFI
      have HSUB := Lib.hid hsub
      have HST := Lib.hid (show decide (st ∈ zs) = true from decide_eq_true hst)
      have HFAR := Lib.hid hfar
      have hym : ys.length ≤ maxLen := by unfold maxLen; omega
      clear hYI hFI hsub hst hfar HWy
      have hwt : IntKind.i64.wrap (tm + 1) = tm + 1 := IntWalk.i64_in _ (by omega)
      go_wp2_with fail
      refine (HYI.out a6 b6 ca6 cb6 _ M9.out.r M9.out.c).mono ?_
      rintro e w10 ⟨v10, rfl, ho10, hb10⟩
      obtain ⟨a10, c10, rfl, hr10, -⟩ := OwnI.slice ho10
      have W10 := Lib.hid (nxt W9.out hb10)
      have M10 := Lib.hid (M9.out.later hb10)
      have R10 := Lib.hid (RowAt.below R9.out hb10)
      have Y10 := Lib.hid hr10
      clear hb10 ho10 hr10 W9 M9 R9 p0 p1 p2 p3 HYI hwt
      obtain ⟨p0, p1, p2, p3, -⟩ := M10.out.x.four
      go_wp2_with fail
      refine (HFI.out a6 b6 ca6 cb6 _ M10.out.r M10.out.c).mono ?_
      rintro e w11 ⟨rfl, hb11⟩
      have W11 := Lib.hid (nxt W10.out hb11)
      have R11 := Lib.hid (RowAt.below R10.out hb11)
      have Y11 := Lib.hid (RowAt.below Y10.out hb11)
      clear hb11 W10 M10 R10 Y10 p0 p1 p2 p3 HFI
      go_wp2_with fail
      refine (VHel.within_any a7 a10 c7 c10 zs ys _ R11.out Y11.out hzm hym HSUB.out).mono ?_
      rintro e w12 ⟨rfl, hw12⟩
      obtain rfl := hw12.symm
      go_wp2_with fail
      refine (VHel.vhas_any a7 c7 zs st _ R11.out hzm).mono ?_
      rintro e w13 ⟨he, hw13⟩
      rw [HST.out] at he
      subst he
      obtain rfl := hw13.symm
      go_wp2_with fail
      refine (VHel.vhas_any a7 c7 zs fc _ R11.out hzm).mono ?_
      rintro e w14 ⟨he, hw14⟩
      rw [HFAR.out] at he
      subst he
      obtain rfl := hw14.symm
      have WX := Lib.hid W11.out
      clear W11 R11 Y11 HSUB HST HFAR hyl hym hzm hzl
      by_cases hle : ft ≤ tm
      · have hld : decide (ft ≤ tm) = true := decide_eq_true hle
        have c3 := Lib.hid (far_draw a n cap xs _ (HCo.out _ WX.out))
        go_wp2_with fail
        refine c3.out.mono ?_
        rintro e w20 ⟨v20, fr, rfl, ⟨y, ho20, hR20, hC20⟩, hb20⟩
        obtain ⟨a20, ca20, b20, cb20, rfl, h201, h202, -⟩ := ho20
        have hRy : y.R.length ≤ maxLen := by unfold maxLen; omega
        have hCy : y.C.length ≤ maxLen := by unfold maxLen; omega
        have W20 := Lib.hid (al (nxt WX.out hb20) (.cells #[.int .i64 y.W, .int .i64 y.H, .slice a20 y.R.length ca20, .slice b20 y.C.length cb20] 26))
        have M20 := Lib.hid (Bx.new (ca := ca20) (cb := cb20) (OwnI.row h201) (OwnI.row h202))
        clear hb20 h201 h202 c3 WX hR20 hC20
        obtain ⟨gc, gt, gk, hGS, hGI⟩ := FarI.both_v y fr
        have HGS := Lib.hid hGS
        have HGI := Lib.hid hGI
        clear hGS hGI
        go_wp2_with fail
        refine (HGI.out a20 b20 ca20 cb20 _ hRy hCy M20.out.r M20.out.c).mono ?_
        rintro e w21 ⟨rfl, hb21⟩
        have W21 := Lib.hid (nxt W20.out hb21)
        have M21 := Lib.hid (M20.out.later hb21)
        clear hb21 W20 M20 HGI
        obtain ⟨s0, s1, s2, s3, -⟩ := M21.out.x.four
        go_wp2_with fail
        refine (HGS.out a20 b20 ca20 cb20 _ hRy hCy M21.out.r M21.out.c).mono ?_
        rintro e w22 ⟨rfl, hb22⟩
        have W22 := Lib.hid (nxt W21.out hb22)
        clear hb22 W21 M21 s0 s1 s2 s3
        have hbe : (gk == gk) = true := by simp
        go_wp2
        go_ret
        exact ⟨rfl, W22.out⟩
      · have hld : decide (ft ≤ tm) = false := decide_eq_false hle
        have c3 := Lib.hid (far_draw a n cap xs _ (HCo.out _ WX.out))
        go_wp2_with fail
        refine c3.out.mono ?_
        rintro e w20 ⟨v20, fr, rfl, ⟨y, ho20, hR20, hC20⟩, hb20⟩
        obtain ⟨a20, ca20, b20, cb20, rfl, h201, h202, -⟩ := ho20
        have hRy : y.R.length ≤ maxLen := by unfold maxLen; omega
        have hCy : y.C.length ≤ maxLen := by unfold maxLen; omega
        have W20 := Lib.hid (al (nxt WX.out hb20) (.cells #[.int .i64 y.W, .int .i64 y.H, .slice a20 y.R.length ca20, .slice b20 y.C.length cb20] 26))
        have M20 := Lib.hid (Bx.new (ca := ca20) (cb := cb20) (OwnI.row h201) (OwnI.row h202))
        clear hb20 h201 h202 c3 WX hR20 hC20
        obtain ⟨gc, gt, gk, hGS, hGI⟩ := FarI.both_v y fr
        have HGS := Lib.hid hGS
        have HGI := Lib.hid hGI
        clear hGS hGI
        go_wp2_with fail
        refine (HGI.out a20 b20 ca20 cb20 _ hRy hCy M20.out.r M20.out.c).mono ?_
        rintro e w21 ⟨rfl, hb21⟩
        have W21 := Lib.hid (nxt W20.out hb21)
        have M21 := Lib.hid (M20.out.later hb21)
        clear hb21 W20 M20 HGI
        obtain ⟨s0, s1, s2, s3, -⟩ := M21.out.x.four
        go_wp2_with fail
        refine (HGS.out a20 b20 ca20 cb20 _ hRy hCy M21.out.r M21.out.c).mono ?_
        rintro e w22 ⟨rfl, hb22⟩
        have W22 := Lib.hid (nxt W21.out hb22)
        clear hb22 W21 M21 s0 s1 s2 s3
        have hbe : (gk == gk) = true := by simp
        go_wp2
        go_ret
        exact ⟨rfl, W22.out⟩
  | true =>
    obtain ⟨rfl, hx0⟩ := HXK.out rfl
    clear HXK hnk
    by_cases hd0 : d = 0
    · subst hd0
      obtain rfl : x0 = true := hx0.trans (by rfl)
      clear hx0 hnx hd hdn
      have c2 := Lib.hid (within_draw a n cap xs _ (HCo.out _ W5.out))
      go_wp2_with fail
      refine c2.out.mono ?_
      rintro e w6 ⟨v6, st, tm, rfl, ⟨x, ho6, hR6, hC6⟩, hb6, ht1, ht2⟩
      obtain ⟨a6, ca6, b6, cb6, rfl, h61, h62, -⟩ := ho6
      have hRx : x.R.length ≤ maxLen := by unfold maxLen; omega
      have hCx : x.C.length ≤ maxLen := by unfold maxLen; omega
      have W6 := Lib.hid (al (nxt W5.out hb6) (.cells #[.int .i64 x.W, .int .i64 x.H, .slice a6 x.R.length ca6, .slice b6 x.C.length cb6] 26))
      have M6 := Lib.hid (Bx.new (ca := ca6) (cb := cb6) (OwnI.row h61) (OwnI.row h62))
      clear hb6 h61 h62 c2 W5
      obtain ⟨zs, fine, hzl, hWI, hWS, hWy⟩ := win_both x st tm hRx hCx
      have HWI := Lib.hid hWI
      have HWS := Lib.hid hWS
      have HWy := Lib.hid hWy
      have hzm : zs.length ≤ maxLen := by unfold maxLen; omega
      clear hWI hWS hWy hR6 hC6
      go_wp2_with fail
      refine (HWI.out a6 b6 ca6 cb6 _ M6.out.r M6.out.c).mono ?_
      rintro e w7 ⟨v7, rfl, ho7, hb7⟩
      obtain ⟨a7, c7, rfl, hr7, -⟩ := OwnI.slice ho7
      have W7 := Lib.hid (nxt W6.out hb7)
      have M7 := Lib.hid (M6.out.later hb7)
      have R7 := Lib.hid hr7
      clear hb7 ho7 hr7 W6 M6
      obtain ⟨p0, p1, p2, p3, -⟩ := M7.out.x.four
      go_wp2_with fail
      refine (HWS.out a6 b6 ca6 cb6 _ M7.out.r M7.out.c).mono ?_
      rintro e w8 ⟨v8, rfl, ho8, hb8⟩
      obtain ⟨a8, c8, rfl, hr8, -⟩ := OwnI.slice ho8
      have W8 := Lib.hid (nxt W7.out hb8)
      have M8 := Lib.hid (M7.out.later hb8)
      have R8 := Lib.hid (RowAt.below R7.out hb8)
      have S8 := Lib.hid hr8
      clear hb8 ho8 hr8 W7 M7 R7 p0 p1 p2 p3 HWI HWS
      have hne2 : (fine != fine) = false := by simp
      go_wp2_with fail
      refine (VHel.ints_same a7 a8 c7 c8 zs _ R8.out S8.out hzm).mono ?_
      rintro e w9 ⟨rfl, hb9⟩
      have W9 := Lib.hid (nxt W8.out hb9)
      have M9 := Lib.hid (M8.out.later hb9)
      have R9 := Lib.hid (RowAt.below R8.out hb9)
      clear hb9 W8 M8 R8 S8 hne2
      obtain ⟨p0, p1, p2, p3, -⟩ := M9.out.x.four
      cases fine with
      | false =>
        have WX := Lib.hid W9.out
        clear W9 M9 R9 p0 p1 p2 p3 HWy
        have c3 := Lib.hid (far_draw a n cap xs _ (HCo.out _ WX.out))
        go_wp2_with fail
        refine c3.out.mono ?_
        rintro e w20 ⟨v20, fr, rfl, ⟨y, ho20, hR20, hC20⟩, hb20⟩
        obtain ⟨a20, ca20, b20, cb20, rfl, h201, h202, -⟩ := ho20
        have hRy : y.R.length ≤ maxLen := by unfold maxLen; omega
        have hCy : y.C.length ≤ maxLen := by unfold maxLen; omega
        have W20 := Lib.hid (al (nxt WX.out hb20) (.cells #[.int .i64 y.W, .int .i64 y.H, .slice a20 y.R.length ca20, .slice b20 y.C.length cb20] 26))
        have M20 := Lib.hid (Bx.new (ca := ca20) (cb := cb20) (OwnI.row h201) (OwnI.row h202))
        clear hb20 h201 h202 c3 WX hR20 hC20
        obtain ⟨gc, gt, gk, hGS, hGI⟩ := FarI.both_v y fr
        have HGS := Lib.hid hGS
        have HGI := Lib.hid hGI
        clear hGS hGI
        go_wp2_with fail
        refine (HGI.out a20 b20 ca20 cb20 _ hRy hCy M20.out.r M20.out.c).mono ?_
        rintro e w21 ⟨rfl, hb21⟩
        have W21 := Lib.hid (nxt W20.out hb21)
        have M21 := Lib.hid (M20.out.later hb21)
        clear hb21 W20 M20 HGI
        obtain ⟨s0, s1, s2, s3, -⟩ := M21.out.x.four
        go_wp2_with fail
        refine (HGS.out a20 b20 ca20 cb20 _ hRy hCy M21.out.r M21.out.c).mono ?_
        rintro e w22 ⟨rfl, hb22⟩
        have W22 := Lib.hid (nxt W21.out hb22)
        clear hb22 W21 M21 s0 s1 s2 s3
        have hbe : (gk == gk) = true := by simp
        go_wp2
        go_ret
        exact ⟨rfl, W22.out⟩
      | true =>
        obtain ⟨ys, fc, ft, hyl, hYI, hFI, hsub, hst, hfar⟩ := HWy.out rfl
        have HYI := Lib.hid hYI
        have HFI := Lib.hid hFI
        have HSUB := Lib.hid hsub
        have HST := Lib.hid (show decide (st ∈ zs) = true from decide_eq_true hst)
        have HFAR := Lib.hid hfar
        have hym : ys.length ≤ maxLen := by unfold maxLen; omega
        clear hYI hFI hsub hst hfar HWy
        have hwt : IntKind.i64.wrap (tm + 1) = tm + 1 := IntWalk.i64_in _ (by omega)
        go_wp2_with fail
        refine (HYI.out a6 b6 ca6 cb6 _ M9.out.r M9.out.c).mono ?_
        rintro e w10 ⟨v10, rfl, ho10, hb10⟩
        obtain ⟨a10, c10, rfl, hr10, -⟩ := OwnI.slice ho10
        have W10 := Lib.hid (nxt W9.out hb10)
        have M10 := Lib.hid (M9.out.later hb10)
        have R10 := Lib.hid (RowAt.below R9.out hb10)
        have Y10 := Lib.hid hr10
        clear hb10 ho10 hr10 W9 M9 R9 p0 p1 p2 p3 HYI hwt
        obtain ⟨p0, p1, p2, p3, -⟩ := M10.out.x.four
        go_wp2_with fail
        refine (HFI.out a6 b6 ca6 cb6 _ M10.out.r M10.out.c).mono ?_
        rintro e w11 ⟨rfl, hb11⟩
        have W11 := Lib.hid (nxt W10.out hb11)
        have R11 := Lib.hid (RowAt.below R10.out hb11)
        have Y11 := Lib.hid (RowAt.below Y10.out hb11)
        clear hb11 W10 M10 R10 Y10 p0 p1 p2 p3 HFI
        go_wp2_with fail
        refine (VHel.within_any a7 a10 c7 c10 zs ys _ R11.out Y11.out hzm hym HSUB.out).mono ?_
        rintro e w12 ⟨rfl, hw12⟩
        obtain rfl := hw12.symm
        go_wp2_with fail
        refine (VHel.vhas_any a7 c7 zs st _ R11.out hzm).mono ?_
        rintro e w13 ⟨he, hw13⟩
        rw [HST.out] at he
        subst he
        obtain rfl := hw13.symm
        go_wp2_with fail
        refine (VHel.vhas_any a7 c7 zs fc _ R11.out hzm).mono ?_
        rintro e w14 ⟨he, hw14⟩
        rw [HFAR.out] at he
        subst he
        obtain rfl := hw14.symm
        have WX := Lib.hid W11.out
        clear W11 R11 Y11 HSUB HST HFAR hyl hym hzm hzl
        by_cases hle : ft ≤ tm
        · have hld : decide (ft ≤ tm) = true := decide_eq_true hle
          have c3 := Lib.hid (far_draw a n cap xs _ (HCo.out _ WX.out))
          go_wp2_with fail
          refine c3.out.mono ?_
          rintro e w20 ⟨v20, fr, rfl, ⟨y, ho20, hR20, hC20⟩, hb20⟩
          obtain ⟨a20, ca20, b20, cb20, rfl, h201, h202, -⟩ := ho20
          have hRy : y.R.length ≤ maxLen := by unfold maxLen; omega
          have hCy : y.C.length ≤ maxLen := by unfold maxLen; omega
          have W20 := Lib.hid (al (nxt WX.out hb20) (.cells #[.int .i64 y.W, .int .i64 y.H, .slice a20 y.R.length ca20, .slice b20 y.C.length cb20] 26))
          have M20 := Lib.hid (Bx.new (ca := ca20) (cb := cb20) (OwnI.row h201) (OwnI.row h202))
          clear hb20 h201 h202 c3 WX hR20 hC20
          obtain ⟨gc, gt, gk, hGS, hGI⟩ := FarI.both_v y fr
          have HGS := Lib.hid hGS
          have HGI := Lib.hid hGI
          clear hGS hGI
          go_wp2_with fail
          refine (HGI.out a20 b20 ca20 cb20 _ hRy hCy M20.out.r M20.out.c).mono ?_
          rintro e w21 ⟨rfl, hb21⟩
          have W21 := Lib.hid (nxt W20.out hb21)
          have M21 := Lib.hid (M20.out.later hb21)
          clear hb21 W20 M20 HGI
          obtain ⟨s0, s1, s2, s3, -⟩ := M21.out.x.four
          go_wp2_with fail
          refine (HGS.out a20 b20 ca20 cb20 _ hRy hCy M21.out.r M21.out.c).mono ?_
          rintro e w22 ⟨rfl, hb22⟩
          have W22 := Lib.hid (nxt W21.out hb22)
          clear hb22 W21 M21 s0 s1 s2 s3
          have hbe : (gk == gk) = true := by simp
          go_wp2
          go_ret
          exact ⟨rfl, W22.out⟩
        · have hld : decide (ft ≤ tm) = false := decide_eq_false hle
          have c3 := Lib.hid (far_draw a n cap xs _ (HCo.out _ WX.out))
          go_wp2_with fail
          refine c3.out.mono ?_
          rintro e w20 ⟨v20, fr, rfl, ⟨y, ho20, hR20, hC20⟩, hb20⟩
          obtain ⟨a20, ca20, b20, cb20, rfl, h201, h202, -⟩ := ho20
          have hRy : y.R.length ≤ maxLen := by unfold maxLen; omega
          have hCy : y.C.length ≤ maxLen := by unfold maxLen; omega
          have W20 := Lib.hid (al (nxt WX.out hb20) (.cells #[.int .i64 y.W, .int .i64 y.H, .slice a20 y.R.length ca20, .slice b20 y.C.length cb20] 26))
          have M20 := Lib.hid (Bx.new (ca := ca20) (cb := cb20) (OwnI.row h201) (OwnI.row h202))
          clear hb20 h201 h202 c3 WX hR20 hC20
          obtain ⟨gc, gt, gk, hGS, hGI⟩ := FarI.both_v y fr
          have HGS := Lib.hid hGS
          have HGI := Lib.hid hGI
          clear hGS hGI
          go_wp2_with fail
          refine (HGI.out a20 b20 ca20 cb20 _ hRy hCy M20.out.r M20.out.c).mono ?_
          rintro e w21 ⟨rfl, hb21⟩
          have W21 := Lib.hid (nxt W20.out hb21)
          have M21 := Lib.hid (M20.out.later hb21)
          clear hb21 W20 M20 HGI
          obtain ⟨s0, s1, s2, s3, -⟩ := M21.out.x.four
          go_wp2_with fail
          refine (HGS.out a20 b20 ca20 cb20 _ hRy hCy M21.out.r M21.out.c).mono ?_
          rintro e w22 ⟨rfl, hb22⟩
          have W22 := Lib.hid (nxt W21.out hb22)
          clear hb22 W21 M21 s0 s1 s2 s3
          have hbe : (gk == gk) = true := by simp
          go_wp2
          go_ret
          exact ⟨rfl, W22.out⟩
    · obtain rfl : x0 = false := hx0.trans (by simpa using hd0)
      have hdd : (d == 0) = false := by simpa using hd0
      clear hx0 hnx
      have c2 := Lib.hid (within_draw a n cap xs _ (HCo.out _ W5.out))
      go_wp2_with fail
      refine c2.out.mono ?_
      rintro e w6 ⟨v6, st, tm, rfl, ⟨x, ho6, hR6, hC6⟩, hb6, ht1, ht2⟩
      obtain ⟨a6, ca6, b6, cb6, rfl, h61, h62, -⟩ := ho6
      have hRx : x.R.length ≤ maxLen := by unfold maxLen; omega
      have hCx : x.C.length ≤ maxLen := by unfold maxLen; omega
      have W6 := Lib.hid (al (nxt W5.out hb6) (.cells #[.int .i64 x.W, .int .i64 x.H, .slice a6 x.R.length ca6, .slice b6 x.C.length cb6] 26))
      have M6 := Lib.hid (Bx.new (ca := ca6) (cb := cb6) (OwnI.row h61) (OwnI.row h62))
      clear hb6 h61 h62 c2 W5
      obtain ⟨zs, fine, hzl, hWI, hWS, hWy⟩ := win_both x st tm hRx hCx
      have HWI := Lib.hid hWI
      have HWS := Lib.hid hWS
      have HWy := Lib.hid hWy
      have hzm : zs.length ≤ maxLen := by unfold maxLen; omega
      clear hWI hWS hWy hR6 hC6
      go_wp2_with fail
      refine (HWI.out a6 b6 ca6 cb6 _ M6.out.r M6.out.c).mono ?_
      rintro e w7 ⟨v7, rfl, ho7, hb7⟩
      obtain ⟨a7, c7, rfl, hr7, -⟩ := OwnI.slice ho7
      have W7 := Lib.hid (nxt W6.out hb7)
      have M7 := Lib.hid (M6.out.later hb7)
      have R7 := Lib.hid hr7
      clear hb7 ho7 hr7 W6 M6
      obtain ⟨p0, p1, p2, p3, -⟩ := M7.out.x.four
      go_wp2_with fail
      refine (HWS.out a6 b6 ca6 cb6 _ M7.out.r M7.out.c).mono ?_
      rintro e w8 ⟨v8, rfl, ho8, hb8⟩
      obtain ⟨a8, c8, rfl, hr8, -⟩ := OwnI.slice ho8
      have W8 := Lib.hid (nxt W7.out hb8)
      have M8 := Lib.hid (M7.out.later hb8)
      have R8 := Lib.hid (RowAt.below R7.out hb8)
      have S8 := Lib.hid hr8
      clear hb8 ho8 hr8 W7 M7 R7 p0 p1 p2 p3 HWI HWS
      have hne2 : (fine != fine) = false := by simp
      go_wp2_with fail
      refine (VHel.ints_same a7 a8 c7 c8 zs _ R8.out S8.out hzm).mono ?_
      rintro e w9 ⟨rfl, hb9⟩
      have W9 := Lib.hid (nxt W8.out hb9)
      have M9 := Lib.hid (M8.out.later hb9)
      have R9 := Lib.hid (RowAt.below R8.out hb9)
      clear hb9 W8 M8 R8 S8 hne2
      obtain ⟨p0, p1, p2, p3, -⟩ := M9.out.x.four
      cases fine with
      | false =>
        have WX := Lib.hid W9.out
        clear W9 M9 R9 p0 p1 p2 p3 HWy
        have c3 := Lib.hid (far_draw a n cap xs _ (HCo.out _ WX.out))
        go_wp2_with fail
        refine c3.out.mono ?_
        rintro e w20 ⟨v20, fr, rfl, ⟨y, ho20, hR20, hC20⟩, hb20⟩
        obtain ⟨a20, ca20, b20, cb20, rfl, h201, h202, -⟩ := ho20
        have hRy : y.R.length ≤ maxLen := by unfold maxLen; omega
        have hCy : y.C.length ≤ maxLen := by unfold maxLen; omega
        have W20 := Lib.hid (al (nxt WX.out hb20) (.cells #[.int .i64 y.W, .int .i64 y.H, .slice a20 y.R.length ca20, .slice b20 y.C.length cb20] 26))
        have M20 := Lib.hid (Bx.new (ca := ca20) (cb := cb20) (OwnI.row h201) (OwnI.row h202))
        clear hb20 h201 h202 c3 WX hR20 hC20
        obtain ⟨gc, gt, gk, hGS, hGI⟩ := FarI.both_v y fr
        have HGS := Lib.hid hGS
        have HGI := Lib.hid hGI
        clear hGS hGI
        go_wp2_with fail
        refine (HGI.out a20 b20 ca20 cb20 _ hRy hCy M20.out.r M20.out.c).mono ?_
        rintro e w21 ⟨rfl, hb21⟩
        have W21 := Lib.hid (nxt W20.out hb21)
        have M21 := Lib.hid (M20.out.later hb21)
        clear hb21 W20 M20 HGI
        obtain ⟨s0, s1, s2, s3, -⟩ := M21.out.x.four
        go_wp2_with fail
        refine (HGS.out a20 b20 ca20 cb20 _ hRy hCy M21.out.r M21.out.c).mono ?_
        rintro e w22 ⟨rfl, hb22⟩
        have W22 := Lib.hid (nxt W21.out hb22)
        clear hb22 W21 M21 s0 s1 s2 s3
        have hbe : (gk == gk) = true := by simp
        go_wp2
        go_ret
        exact ⟨rfl, W22.out⟩
      | true =>
        obtain ⟨ys, fc, ft, hyl, hYI, hFI, hsub, hst, hfar⟩ := HWy.out rfl
        have HYI := Lib.hid hYI
        have HFI := Lib.hid hFI
        have HSUB := Lib.hid hsub
        have HST := Lib.hid (show decide (st ∈ zs) = true from decide_eq_true hst)
        have HFAR := Lib.hid hfar
        have hym : ys.length ≤ maxLen := by unfold maxLen; omega
        clear hYI hFI hsub hst hfar HWy
        have hwt : IntKind.i64.wrap (tm + 1) = tm + 1 := IntWalk.i64_in _ (by omega)
        go_wp2_with fail
        refine (HYI.out a6 b6 ca6 cb6 _ M9.out.r M9.out.c).mono ?_
        rintro e w10 ⟨v10, rfl, ho10, hb10⟩
        obtain ⟨a10, c10, rfl, hr10, -⟩ := OwnI.slice ho10
        have W10 := Lib.hid (nxt W9.out hb10)
        have M10 := Lib.hid (M9.out.later hb10)
        have R10 := Lib.hid (RowAt.below R9.out hb10)
        have Y10 := Lib.hid hr10
        clear hb10 ho10 hr10 W9 M9 R9 p0 p1 p2 p3 HYI hwt
        obtain ⟨p0, p1, p2, p3, -⟩ := M10.out.x.four
        go_wp2_with fail
        refine (HFI.out a6 b6 ca6 cb6 _ M10.out.r M10.out.c).mono ?_
        rintro e w11 ⟨rfl, hb11⟩
        have W11 := Lib.hid (nxt W10.out hb11)
        have R11 := Lib.hid (RowAt.below R10.out hb11)
        have Y11 := Lib.hid (RowAt.below Y10.out hb11)
        clear hb11 W10 M10 R10 Y10 p0 p1 p2 p3 HFI
        go_wp2_with fail
        refine (VHel.within_any a7 a10 c7 c10 zs ys _ R11.out Y11.out hzm hym HSUB.out).mono ?_
        rintro e w12 ⟨rfl, hw12⟩
        obtain rfl := hw12.symm
        go_wp2_with fail
        refine (VHel.vhas_any a7 c7 zs st _ R11.out hzm).mono ?_
        rintro e w13 ⟨he, hw13⟩
        rw [HST.out] at he
        subst he
        obtain rfl := hw13.symm
        go_wp2_with fail
        refine (VHel.vhas_any a7 c7 zs fc _ R11.out hzm).mono ?_
        rintro e w14 ⟨he, hw14⟩
        rw [HFAR.out] at he
        subst he
        obtain rfl := hw14.symm
        have WX := Lib.hid W11.out
        clear W11 R11 Y11 HSUB HST HFAR hyl hym hzm hzl
        by_cases hle : ft ≤ tm
        · have hld : decide (ft ≤ tm) = true := decide_eq_true hle
          have c3 := Lib.hid (far_draw a n cap xs _ (HCo.out _ WX.out))
          go_wp2_with fail
          refine c3.out.mono ?_
          rintro e w20 ⟨v20, fr, rfl, ⟨y, ho20, hR20, hC20⟩, hb20⟩
          obtain ⟨a20, ca20, b20, cb20, rfl, h201, h202, -⟩ := ho20
          have hRy : y.R.length ≤ maxLen := by unfold maxLen; omega
          have hCy : y.C.length ≤ maxLen := by unfold maxLen; omega
          have W20 := Lib.hid (al (nxt WX.out hb20) (.cells #[.int .i64 y.W, .int .i64 y.H, .slice a20 y.R.length ca20, .slice b20 y.C.length cb20] 26))
          have M20 := Lib.hid (Bx.new (ca := ca20) (cb := cb20) (OwnI.row h201) (OwnI.row h202))
          clear hb20 h201 h202 c3 WX hR20 hC20
          obtain ⟨gc, gt, gk, hGS, hGI⟩ := FarI.both_v y fr
          have HGS := Lib.hid hGS
          have HGI := Lib.hid hGI
          clear hGS hGI
          go_wp2_with fail
          refine (HGI.out a20 b20 ca20 cb20 _ hRy hCy M20.out.r M20.out.c).mono ?_
          rintro e w21 ⟨rfl, hb21⟩
          have W21 := Lib.hid (nxt W20.out hb21)
          have M21 := Lib.hid (M20.out.later hb21)
          clear hb21 W20 M20 HGI
          obtain ⟨s0, s1, s2, s3, -⟩ := M21.out.x.four
          go_wp2_with fail
          refine (HGS.out a20 b20 ca20 cb20 _ hRy hCy M21.out.r M21.out.c).mono ?_
          rintro e w22 ⟨rfl, hb22⟩
          have W22 := Lib.hid (nxt W21.out hb22)
          clear hb22 W21 M21 s0 s1 s2 s3
          have hbe : (gk == gk) = true := by simp
          go_wp2
          go_ret
          exact ⟨rfl, W22.out⟩
        · have hld : decide (ft ≤ tm) = false := decide_eq_false hle
          have c3 := Lib.hid (far_draw a n cap xs _ (HCo.out _ WX.out))
          go_wp2_with fail
          refine c3.out.mono ?_
          rintro e w20 ⟨v20, fr, rfl, ⟨y, ho20, hR20, hC20⟩, hb20⟩
          obtain ⟨a20, ca20, b20, cb20, rfl, h201, h202, -⟩ := ho20
          have hRy : y.R.length ≤ maxLen := by unfold maxLen; omega
          have hCy : y.C.length ≤ maxLen := by unfold maxLen; omega
          have W20 := Lib.hid (al (nxt WX.out hb20) (.cells #[.int .i64 y.W, .int .i64 y.H, .slice a20 y.R.length ca20, .slice b20 y.C.length cb20] 26))
          have M20 := Lib.hid (Bx.new (ca := ca20) (cb := cb20) (OwnI.row h201) (OwnI.row h202))
          clear hb20 h201 h202 c3 WX hR20 hC20
          obtain ⟨gc, gt, gk, hGS, hGI⟩ := FarI.both_v y fr
          have HGS := Lib.hid hGS
          have HGI := Lib.hid hGI
          clear hGS hGI
          go_wp2_with fail
          refine (HGI.out a20 b20 ca20 cb20 _ hRy hCy M20.out.r M20.out.c).mono ?_
          rintro e w21 ⟨rfl, hb21⟩
          have W21 := Lib.hid (nxt W20.out hb21)
          have M21 := Lib.hid (M20.out.later hb21)
          clear hb21 W20 M20 HGI
          obtain ⟨s0, s1, s2, s3, -⟩ := M21.out.x.four
          go_wp2_with fail
          refine (HGS.out a20 b20 ca20 cb20 _ hRy hCy M21.out.r M21.out.c).mono ?_
          rintro e w22 ⟨rfl, hb22⟩
          have W22 := Lib.hid (nxt W21.out hb22)
          clear hb22 W21 M21 s0 s1 s2 s3
          have hbe : (gk == gk) = true := by simp
          go_wp2
          go_ret
          exact ⟨rfl, W22.out⟩
end Go.Proofs.Ytjngnjokbnklfaa.DetW
