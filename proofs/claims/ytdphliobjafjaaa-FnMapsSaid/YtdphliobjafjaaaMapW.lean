/- FnMaps: the walk of the law. -/
import Derived.Test.YtdphliobjafjaaaTwoM
import Derived.Test.YtdphliobjafjaaaTurnC
import Derived.Test.YtdphliobjafjaaaVInt
import Derived.Test.YtdphliobjafjaaaDrwT
namespace Go.Proofs.Ytdphliobjafjaaa.MapW
open Go.RowKit Lb Cur IntS MapS MapV SpecB CodM DrwM DrwT
set_option linter.unusedSimpArgs false
set_option linter.unusedVariables false

/-- A map in its box. -/
structure Bx (m : Mp) (a : Option Addr) (ca : Nat) (b : Option Addr) (cb B : Nat) (wx : World) : Prop where
  x : Blk wx B 26 #[.int .i64 m.W, .int .i64 m.H, .slice a m.R.length ca, .slice b m.C.length cb]
  r : IRow wx a m.R
  c : IRow wx b m.C
section
variable {m : Mp} {a b : Option Addr} {ca cb B : Nat} {w wx w' W : World}
theorem Bx.later (h : Bx m a ca b cb B wx) (hb : Below wx.heap.size wx w') : Bx m a ca b cb B w' := ⟨h.x.later hb, RowAt.below h.r hb, RowAt.below h.c hb⟩
theorem Bx.al (h : Bx m a ca b cb B wx) (o : Obj) : Bx m a ca b cb B (wx.alloc o) := h.later ((Below.refl _ _).alloc (Nat.le_refl _) _)
theorem Bx.new (hr : IRow w a m.R) (hc : IRow w b m.C) : Bx m a ca b cb w.heap.size (w.alloc (.cells #[.int .i64 m.W, .int .i64 m.H, .slice a m.R.length ca, .slice b m.C.length cb] 26)) :=
  ⟨Blk.new _ _ _, RowAt.below hr ((Below.refl _ _).alloc (Nat.le_refl _) _), RowAt.below hc ((Below.refl _ _).alloc (Nat.le_refl _) _)⟩
theorem nxt (h : Below W.heap.size W w) (hb : Below w.heap.size w w') : Below W.heap.size W w' := h.trans (hb.mono h.size)
theorem al (h : Below W.heap.size W w) (o : Obj) : Below W.heap.size W (w.alloc o) := h.alloc h.size o
end

/-- From one map to its turned one, to its mirrored one. -/
def TC (x y : Mp) : Prop := ∀ a b ca cb w, IRow w a x.R → IRow w b x.C → Calls Try.prog 16 #[.agg #[.int .i64 x.W, .int .i64 x.H, .slice a x.R.length ca, .slice b x.C.length cb]] w (MPost w y true)
def MC (x y : Mp) : Prop := ∀ a b ca cb w, IRow w a x.R → IRow w b x.C → Calls Try.prog 20 #[.agg #[.int .i64 x.W, .int .i64 x.H, .slice a x.R.length ca, .slice b x.C.length cb]] w (MPost w y true)
theorem len_ok {m : Mp} {ww hh : Nat} (g : GoodM m ww hh) : m.R.length ≤ maxLen ∧ m.C.length ≤ maxLen := by
  have h1 := g.R
  have h2 := g.C
  have h3 := g.n36
  unfold maxLen
  omega
theorem turn_yes {m : Mp} {ww hh : Nat} (g : GoodM m ww hh) : TC m (turnM m) := by
  obtain ⟨m', ok, h1, h2, hy, hn, hS, hI⟩ := TurnC.turn_both m
  have hok : ok = true := by
    cases ok with
    | true => rfl
    | false => exact absurd (ParsC.ok_of g) (hn rfl).1
  subst hok
  obtain ⟨-, rfl⟩ := hy rfl
  exact fun a b ca cb w hr hc => hI a b ca cb w (len_ok g).1 (len_ok g).2 hr hc
theorem mir_yes {m : Mp} {ww hh : Nat} (g : GoodM m ww hh) : MC m (mirM m) := by
  obtain ⟨m', ok, h1, h2, hy, hn, hS, hI⟩ := TurnC.mir_both m
  have hok : ok = true := by
    cases ok with
    | true => rfl
    | false => exact absurd (ParsC.ok_of g) (hn rfl).1
  subst hok
  obtain ⟨-, rfl⟩ := hy rfl
  exact fun a b ca cb w hr hc => hI a b ca cb w (len_ok g).1 (len_ok g).2 hr hc
theorem turns {m t k : Mp} (hm : m.ok) (e : t = turnM m) (e' : k = mirM m) : ∃ t2 t3 : Mp, TC t t2 ∧ TC t2 t3 ∧ TC t3 m ∧ MC k m := by
  obtain ⟨ww, hh, g⟩ := good_of hm
  have g1 := (turn_ok g).1
  have g2 := (turn_ok g1).1
  have g3 := (turn_ok g2).1
  have h3 := turn_yes g3
  rw [four_turns g] at h3
  have gm := (mir_ok g).1
  have hm := mir_yes gm
  rw [two_mirs g] at hm
  subst e e'
  exact ⟨_, _, turn_yes g1, turn_yes g2, h3, hm⟩
theorem ok_is {m : Mp} {ok : Bool} {P Q : Prop} (hy : ok = true → m.ok ∧ P) (hn : ok = false → ¬ m.ok ∧ Q) : okB m = ok := by
  cases ok with
  | true => exact okB_yes (hy rfl).1
  | false => exact okB_no (hn rfl).1

set_option maxRecDepth 100000 in
set_option maxHeartbeats 8000000 in
theorem law_any (W : World) (a : Option Addr) (n cap : Nat) (xs : Nat → Nat) (hc : Bytes W a n xs) :
    Calls Try.prog 3 #[.slice a n cap] W fun e w' => e = .returned (.bool true) ∧ Below W.heap.size W w' := by
  by_cases hbig : 65536 < n
  · have hbi : (65536 : Int) < (n : Int) := by omega
    go_enter Try.func3, Try.ntmps3
    go_wp2_with (go_at_call 14; go_in)
    go_ret
    exact ⟨rfl, Below.refl _ _⟩
  have HCo := Lib.hid hc
  have c1 := Lib.hid (turn_draw a n cap xs W hc)
  have hbi : ¬ (65536 : Int) < (n : Int) := by omega
  clear hc hbig
  go_enter Try.func3, Try.ntmps3
  go_wp2_with (go_at_call 14; go_in)
  refine c1.out.mono ?_
  rintro e w1 ⟨⟨v, rfl, m, ho, hR, hC⟩, hb1⟩
  obtain ⟨ar, cr, ac, cc, rfl, h1, h2, -⟩ := ho
  have hRm : m.R.length ≤ maxLen := by unfold maxLen; omega
  have hCm : m.C.length ≤ maxLen := by unfold maxLen; omega
  have W1 := Lib.hid (al hb1 (.cells #[.int .i64 m.W, .int .i64 m.H, .slice ar m.R.length cr, .slice ac m.C.length cc] 26))
  have M1 := Lib.hid (Bx.new (ca := cr) (cb := cc) (OwnI.row h1) (OwnI.row h2))
  clear hb1 h1 h2 c1 hR hC
  obtain ⟨t, ok, ht1, ht2, hty, htn, hTS, hTI⟩ := TurnC.turn_both m
  obtain ⟨k, fine, hk1, hk2, hky, hkn, hKS, hKI⟩ := TurnC.mir_both m
  obtain rfl : fine = ok := (ok_is hky hkn).symm.trans (ok_is hty htn)
  have hkB := Lib.hid (ok_is hky hkn)
  have HY := Lib.hid (show fine = true → ∃ t2 t3 : Mp, TC t t2 ∧ TC t2 t3 ∧ TC t3 m ∧ MC k m from fun h => turns (hty h).1 (hty h).2 (hky h).2)
  have htR : t.R.length ≤ maxLen := by unfold maxLen; omega
  have htC : t.C.length ≤ maxLen := by unfold maxLen; omega
  have hkR : k.R.length ≤ maxLen := by unfold maxLen; omega
  have hkC : k.C.length ≤ maxLen := by unfold maxLen; omega
  have HTS := Lib.hid hTS
  have HTI := Lib.hid hTI
  have HKS := Lib.hid hKS
  have HKI := Lib.hid hKI
  clear hty htn hky hkn hTS hTI hKS hKI ht1 ht2 hk1 hk2
  go_wp2_with fail
  refine (HTI.out ar ac cr cc _ hRm hCm M1.out.r M1.out.c).mono ?_
  rintro e w2 ⟨v2, rfl, ho2, hb2⟩
  obtain ⟨a2, c2, b2, d2, rfl, h21, h22, -⟩ := ho2
  have M2 := Lib.hid (M1.out.later hb2)
  have W2 := Lib.hid (al (nxt W1.out hb2) (.cells #[.int .i64 t.W, .int .i64 t.H, .slice a2 t.R.length c2, .slice b2 t.C.length d2] 26))
  have T2 := Lib.hid (Bx.new (ca := c2) (cb := d2) (OwnI.row h21) (OwnI.row h22))
  have M2a := Lib.hid (M2.out.al (.cells #[.int .i64 t.W, .int .i64 t.H, .slice a2 t.R.length c2, .slice b2 t.C.length d2] 26))
  clear hb2 h21 h22 M1 W1 HTI
  have z2 := M2.out.x.lt
  obtain ⟨p0, p1, p2, p3, -⟩ := M2.out.x.four
  go_wp2_with fail
  refine (HTS.out ar ac cr cc _ hRm hCm M2a.out.r M2a.out.c).mono ?_
  rintro e w3 ⟨v3, rfl, ho3, hb3⟩
  obtain ⟨a3, c3, b3, d3, rfl, h31, h32, -⟩ := ho3
  have M3 := Lib.hid ((M2a.out.later hb3).al (.cells #[.int .i64 t.W, .int .i64 t.H, .slice a3 t.R.length c3, .slice b3 t.C.length d3] 26))
  have T3 := Lib.hid (T2.out.later hb3)
  have T3a := Lib.hid (T3.out.al (.cells #[.int .i64 t.W, .int .i64 t.H, .slice a3 t.R.length c3, .slice b3 t.C.length d3] 26))
  have W3 := Lib.hid (al (nxt W2.out hb3) (.cells #[.int .i64 t.W, .int .i64 t.H, .slice a3 t.R.length c3, .slice b3 t.C.length d3] 26))
  have V3 := Lib.hid (Bx.new (ca := c3) (cb := d3) (OwnI.row h31) (OwnI.row h32))
  clear hb3 h31 h32 M2 M2a T2 W2 HTS z2 p0 p1 p2 p3
  have z3 := T3.out.x.lt
  obtain ⟨p0, p1, p2, p3, -⟩ := T3.out.x.four
  have hne : (fine != fine) = false := by simp
  go_wp2_with fail
  refine (VHel.vmap_same t a2 b2 a3 b3 c2 d2 c3 d3 _ T3a.out.r T3a.out.c V3.out.r V3.out.c htR htC).mono ?_
  rintro e w4 ⟨rfl, hb4⟩
  have M4 := Lib.hid (M3.out.later hb4)
  have T4 := Lib.hid (T3a.out.later hb4)
  have W4 := Lib.hid (nxt W3.out hb4)
  clear hb4 M3 T3 T3a W3 V3 z3 p0 p1 p2 p3
  obtain ⟨p0, p1, p2, p3, -⟩ := M4.out.x.four
  go_wp2_with fail
  refine (MapV.impl_any m ar ac cr cc _ hRm hCm M4.out.r M4.out.c).mono ?_
  rw [hkB.out]
  rintro e w5 ⟨rfl, hb5⟩
  have M5 := Lib.hid (M4.out.later hb5)
  have T5 := Lib.hid (T4.out.later hb5)
  have W5 := Lib.hid (nxt W4.out hb5)
  clear hb5 M4 T4 W4 p0 p1 p2 p3 hkB
  obtain ⟨p0, p1, p2, p3, -⟩ := M5.out.x.four
  go_wp2_with fail
  refine (HKI.out ar ac cr cc _ hRm hCm M5.out.r M5.out.c).mono ?_
  rintro e w6 ⟨v6, rfl, ho6, hb6⟩
  obtain ⟨a6, c6, b6, d6, rfl, h61, h62, -⟩ := ho6
  have M6 := Lib.hid (M5.out.later hb6)
  have M6a := Lib.hid (M6.out.al (.cells #[.int .i64 k.W, .int .i64 k.H, .slice a6 k.R.length c6, .slice b6 k.C.length d6] 26))
  have T6 := Lib.hid ((T5.out.later hb6).al (.cells #[.int .i64 k.W, .int .i64 k.H, .slice a6 k.R.length c6, .slice b6 k.C.length d6] 26))
  have W6 := Lib.hid (al (nxt W5.out hb6) (.cells #[.int .i64 k.W, .int .i64 k.H, .slice a6 k.R.length c6, .slice b6 k.C.length d6] 26))
  have K6 := Lib.hid (Bx.new (ca := c6) (cb := d6) (OwnI.row h61) (OwnI.row h62))
  clear hb6 h61 h62 M5 T5 W5 HKI p0 p1 p2 p3
  have z6 := M6.out.x.lt
  obtain ⟨p0, p1, p2, p3, -⟩ := M6.out.x.four
  go_wp2_with fail
  refine (HKS.out ar ac cr cc _ hRm hCm M6a.out.r M6a.out.c).mono ?_
  rintro e w7 ⟨v7, rfl, ho7, hb7⟩
  obtain ⟨a7, c7, b7, d7, rfl, h71, h72, -⟩ := ho7
  have M7 := Lib.hid ((M6a.out.later hb7).al (.cells #[.int .i64 k.W, .int .i64 k.H, .slice a7 k.R.length c7, .slice b7 k.C.length d7] 26))
  have T7 := Lib.hid ((T6.out.later hb7).al (.cells #[.int .i64 k.W, .int .i64 k.H, .slice a7 k.R.length c7, .slice b7 k.C.length d7] 26))
  have K7 := Lib.hid (K6.out.later hb7)
  have K7a := Lib.hid (K7.out.al (.cells #[.int .i64 k.W, .int .i64 k.H, .slice a7 k.R.length c7, .slice b7 k.C.length d7] 26))
  have W7 := Lib.hid (al (nxt W6.out hb7) (.cells #[.int .i64 k.W, .int .i64 k.H, .slice a7 k.R.length c7, .slice b7 k.C.length d7] 26))
  have V7 := Lib.hid (Bx.new (ca := c7) (cb := d7) (OwnI.row h71) (OwnI.row h72))
  clear hb7 h71 h72 M6 M6a T6 K6 W6 HKS z6 p0 p1 p2 p3
  have z7 := K7.out.x.lt
  obtain ⟨p0, p1, p2, p3, -⟩ := K7.out.x.four
  go_wp2_with fail
  refine (VHel.vmap_same k a6 b6 a7 b7 c6 d6 c7 d7 _ K7a.out.r K7a.out.c V7.out.r V7.out.c hkR hkC).mono ?_
  rintro e w8 ⟨rfl, hb8⟩
  have M8 := Lib.hid (M7.out.later hb8)
  have T8 := Lib.hid (T7.out.later hb8)
  have K8 := Lib.hid (K7a.out.later hb8)
  have W8 := Lib.hid (nxt W7.out hb8)
  clear hb8 M7 T7 K7 K7a W7 V7 z7 p0 p1 p2 p3 hne
  go_upto_if 87 with (fail)
  go_cut [12, 13, 14, 15, 16, 17, 18, 19] from 88 to 133 (fun _ _ _ _ _ _ _ _ wx => Below W.heap.size W wx)
  case first =>
    cases fine with
    | false =>
      go_wp2
      go_meet
      exact W8.out
    | true =>
      obtain ⟨t2, t3, hA, hB, hD, hM⟩ := HY.out rfl
      have HA := Lib.hid hA
      have HB := Lib.hid hB
      have HD := Lib.hid hD
      have HM := Lib.hid hM
      clear hA hB hD hM HY
      obtain ⟨p0, p1, p2, p3, -⟩ := T8.out.x.four
      go_wp2_with fail
      refine (HA.out a2 b2 c2 d2 _ T8.out.r T8.out.c).mono ?_
      rintro e w9 ⟨v9, rfl, ho9, hb9⟩
      obtain ⟨a9, c9, b9, d9, rfl, h91, h92, -⟩ := ho9
      have M9 := Lib.hid ((M8.out.later hb9).al (.cells #[.int .i64 t2.W, .int .i64 t2.H, .slice a9 t2.R.length c9, .slice b9 t2.C.length d9] 26))
      have K9 := Lib.hid ((K8.out.later hb9).al (.cells #[.int .i64 t2.W, .int .i64 t2.H, .slice a9 t2.R.length c9, .slice b9 t2.C.length d9] 26))
      have W9 := Lib.hid (al (nxt W8.out hb9) (.cells #[.int .i64 t2.W, .int .i64 t2.H, .slice a9 t2.R.length c9, .slice b9 t2.C.length d9] 26))
      have X9 := Lib.hid (Bx.new (ca := c9) (cb := d9) (OwnI.row h91) (OwnI.row h92))
      clear hb9 h91 h92 M8 T8 K8 W8 HA p0 p1 p2 p3
      go_wp2_with fail
      refine (HB.out a9 b9 c9 d9 _ X9.out.r X9.out.c).mono ?_
      rintro e w10 ⟨v10, rfl, ho10, hb10⟩
      obtain ⟨a10, c10, b10, d10, rfl, h101, h102, -⟩ := ho10
      have M10 := Lib.hid ((M9.out.later hb10).al (.cells #[.int .i64 t3.W, .int .i64 t3.H, .slice a10 t3.R.length c10, .slice b10 t3.C.length d10] 26))
      have K10 := Lib.hid ((K9.out.later hb10).al (.cells #[.int .i64 t3.W, .int .i64 t3.H, .slice a10 t3.R.length c10, .slice b10 t3.C.length d10] 26))
      have W10 := Lib.hid (al (nxt W9.out hb10) (.cells #[.int .i64 t3.W, .int .i64 t3.H, .slice a10 t3.R.length c10, .slice b10 t3.C.length d10] 26))
      have Y10 := Lib.hid (Bx.new (ca := c10) (cb := d10) (OwnI.row h101) (OwnI.row h102))
      clear hb10 h101 h102 M9 K9 W9 X9 HB
      go_wp2_with fail
      refine (HD.out a10 b10 c10 d10 _ Y10.out.r Y10.out.c).mono ?_
      rintro e w11 ⟨v11, rfl, ho11, hb11⟩
      obtain ⟨a11, c11, b11, d11, rfl, h111, h112, -⟩ := ho11
      have M11 := Lib.hid ((M10.out.later hb11).al (.cells #[.int .i64 m.W, .int .i64 m.H, .slice a11 m.R.length c11, .slice b11 m.C.length d11] 26))
      have K11 := Lib.hid (K10.out.later hb11)
      have K11a := Lib.hid (K11.out.al (.cells #[.int .i64 m.W, .int .i64 m.H, .slice a11 m.R.length c11, .slice b11 m.C.length d11] 26))
      have W11 := Lib.hid (al (nxt W10.out hb11) (.cells #[.int .i64 m.W, .int .i64 m.H, .slice a11 m.R.length c11, .slice b11 m.C.length d11] 26))
      have F11 := Lib.hid (Bx.new (ca := c11) (cb := d11) (OwnI.row h111) (OwnI.row h112))
      clear hb11 h111 h112 M10 K10 W10 Y10 HD
      have z11 := K11.out.x.lt
      obtain ⟨p0, p1, p2, p3, -⟩ := K11.out.x.four
      go_wp2_with fail
      refine (HM.out a6 b6 c6 d6 _ K11a.out.r K11a.out.c).mono ?_
      rintro e w12 ⟨v12, rfl, ho12, hb12⟩
      obtain ⟨a12, c12, b12, d12, rfl, h121, h122, -⟩ := ho12
      have M12 := Lib.hid (M11.out.later hb12)
      have F12 := Lib.hid (F11.out.later hb12)
      have M12a := Lib.hid (M12.out.al (.cells #[.int .i64 m.W, .int .i64 m.H, .slice a12 m.R.length c12, .slice b12 m.C.length d12] 26))
      have F12a := Lib.hid (F12.out.al (.cells #[.int .i64 m.W, .int .i64 m.H, .slice a12 m.R.length c12, .slice b12 m.C.length d12] 26))
      have W12 := Lib.hid (al (nxt W11.out hb12) (.cells #[.int .i64 m.W, .int .i64 m.H, .slice a12 m.R.length c12, .slice b12 m.C.length d12] 26))
      have G12 := Lib.hid (Bx.new (ca := c12) (cb := d12) (OwnI.row h121) (OwnI.row h122))
      clear hb12 h121 h122 M11 K11 K11a W11 F11 HM z11 p0 p1 p2 p3
      have z12 := M12.out.x.lt
      have y12 := F12.out.x.lt
      obtain ⟨p0, p1, p2, p3, -⟩ := M12.out.x.four
      obtain ⟨q0, q1, q2, q3, -⟩ := F12.out.x.four
      go_wp2_with fail
      refine (VHel.vmap_same m a11 b11 ar ac c11 d11 cr cc _ F12a.out.r F12a.out.c M12a.out.r M12a.out.c hRm hCm).mono ?_
      rintro e w13 ⟨rfl, hb13⟩
      have M13 := Lib.hid (M12a.out.later hb13)
      have G13 := Lib.hid (G12.out.later hb13)
      have W13 := Lib.hid (nxt W12.out hb13)
      clear hb13 M12 M12a F12 F12a W12 G12 z12 y12 p0 p1 p2 p3 q0 q1 q2 q3
      obtain ⟨p0, p1, p2, p3, -⟩ := M13.out.x.four
      obtain ⟨q0, q1, q2, q3, -⟩ := G13.out.x.four
      go_wp2_with fail
      refine (VHel.vmap_same m a12 b12 ar ac c12 d12 cr cc _ G13.out.r G13.out.c M13.out.r M13.out.c hRm hCm).mono ?_
      rintro e w14 ⟨rfl, hb14⟩
      have W14 := Lib.hid (nxt W13.out hb14)
      clear hb14 M13 G13 W13 p0 p1 p2 p3 q0 q1 q2 q3
      go_wp2
      go_meet
      exact W14.out
  case rest =>
  have W20 := Lib.hid hcut
  clear hcut M8 T8 K8 W8 HY
  go_wp2_with fail
  refine (text_draw a n cap xs _ (HCo.out.below W20.out)).mono ?_
  rintro e w21 ⟨⟨v, rfl, x, ho, hR, hC⟩, hb21⟩
  obtain ⟨a21, c21, b21, d21, rfl, h1, h2, -⟩ := ho
  have hRx : x.R.length ≤ maxLen := by unfold maxLen; omega
  have hCx : x.C.length ≤ maxLen := by unfold maxLen; omega
  have W21 := Lib.hid (al (nxt W20.out hb21) (.cells #[.int .i64 x.W, .int .i64 x.H, .slice a21 x.R.length c21, .slice b21 x.C.length d21] 26))
  have X21 := Lib.hid (Bx.new (ca := c21) (cb := d21) (OwnI.row h1) (OwnI.row h2))
  clear hb21 h1 h2 hR hC W20 htR htC hkR hkC hRm hCm
  obtain ⟨l, told, hT, hl, hXS, hXI⟩ := ParsL.text_f x
  have hls : (bs l).size ≤ 108 := by rw [bs_size]; exact hl
  obtain ⟨y, read, hy1, hy2, hyy, hya, hYS, hYI⟩ := ParsL.both_f (bs l) (by omega)
  have HR := Lib.hid (show told = true → read = true ∧ y = x from fun h => by
    obtain ⟨ww, hh, T⟩ := hT.some_ h
    exact hya x ww hh T)
  obtain ⟨tx, htx⟩ : ∃ tx, bs l = tx := ⟨_, rfl⟩
  rw [htx] at hXS hXI hYI hls
  have HXS := Lib.hid hXS
  have HXI := Lib.hid hXI
  have HYI := Lib.hid hYI
  have hyR : y.R.length ≤ maxLen := by unfold maxLen; omega
  have hyC : y.C.length ≤ maxLen := by unfold maxLen; omega
  clear hT hyy hya hXS hXI hYS hYI htx hl hy1 hy2
  go_wp2_with fail
  refine (HXI.out a21 b21 c21 d21 _ hRx hCx X21.out.r X21.out.c).mono ?_
  rintro e w22 ⟨rfl, hb22⟩
  have X22 := Lib.hid (X21.out.later hb22)
  have W22 := Lib.hid (nxt W21.out hb22)
  clear hb22 X21 W21 HXI
  go_wp2_with fail
  refine (HYI.out _).mono ?_
  rintro e w23 ⟨v23, rfl, ho23, hb23⟩
  obtain ⟨a23, c23, b23, d23, rfl, h231, h232, -⟩ := ho23
  have X23 := Lib.hid (X22.out.later hb23)
  have X23a := Lib.hid (X23.out.al (.cells #[.int .i64 y.W, .int .i64 y.H, .slice a23 y.R.length c23, .slice b23 y.C.length d23] 26))
  have W23 := Lib.hid (al (nxt W22.out hb23) (.cells #[.int .i64 y.W, .int .i64 y.H, .slice a23 y.R.length c23, .slice b23 y.C.length d23] 26))
  have Y23 := Lib.hid (Bx.new (ca := c23) (cb := d23) (OwnI.row h231) (OwnI.row h232))
  clear hb23 h231 h232 X22 W22 HYI
  have z23 := X23.out.x.lt
  obtain ⟨p0, p1, p2, p3, -⟩ := X23.out.x.four
  go_wp2_with fail
  refine (HXS.out a21 b21 c21 d21 _ hRx hCx X23a.out.r X23a.out.c).mono ?_
  rintro e w24 ⟨rfl, hb24⟩
  have X24 := Lib.hid (X23a.out.later hb24)
  have Y24 := Lib.hid (Y23.out.later hb24)
  have W24 := Lib.hid (nxt W23.out hb24)
  clear hb24 X23 X23a Y23 W23 HXS z23 p0 p1 p2 p3
  have hne : (told != told) = false := by simp
  have hnt : (tx.toList != tx.toList) = false := by simp
  go_upto_region 23 with (fail)
  go_cut [171] from 151 to 170 (fun v wx => v = .bool false ∧ Below W.heap.size W wx)
  case first =>
    cases told with
    | false =>
      clear hne
      go_wp2
      go_meet
      exact ⟨rfl, W24.out⟩
    | true =>
      obtain ⟨rfl, rfl⟩ := HR.out rfl
      clear hne
      obtain ⟨p0, p1, p2, p3, -⟩ := X24.out.x.four
      obtain ⟨q0, q1, q2, q3, -⟩ := Y24.out.x.four
      go_wp2_with fail
      refine (VHel.vmap_same y a23 b23 a21 b21 c23 d23 c21 d21 _ Y24.out.r Y24.out.c X24.out.r X24.out.c hyR hyC).mono ?_
      rintro e w25 ⟨rfl, hb25⟩
      have W25 := Lib.hid (nxt W24.out hb25)
      clear hb25 W24 X24 Y24 p0 p1 p2 p3 q0 q1 q2 q3
      go_wp2
      go_meet
      exact ⟨rfl, W25.out⟩
  case rest =>
  obtain ⟨rfl, hcb⟩ := hcut
  have W26 := Lib.hid hcb
  clear hcb X24 Y24 W24 HR hne hnt hRx hCx hyR hyC
  go_wp2_with fail
  refine (parse_draw a n cap xs _ (HCo.out.below W26.out)).mono ?_
  rintro e w27 ⟨⟨s, rfl, hs⟩, hb27⟩
  have W27 := Lib.hid (nxt W26.out hb27)
  clear hb27 W26
  obtain ⟨p, known, hp1, hp2, hpy, -, hPS, hPI⟩ := ParsL.both_f s (by omega)
  obtain ⟨l2, shown, hT2, hl2, -, hUI⟩ := ParsL.text_f p
  have HK := Lib.hid (show known = true → shown = true ∧ bs l2 = s from fun h => by
    obtain ⟨ww, hh, T⟩ := hpy h
    exact hT2.all ww hh s T)
  obtain ⟨u, hu⟩ : ∃ u, bs l2 = u := ⟨_, rfl⟩
  rw [hu] at hUI HK
  have HPS := Lib.hid hPS
  have HPI := Lib.hid hPI
  have HUI := Lib.hid hUI
  have hpR : p.R.length ≤ maxLen := by unfold maxLen; omega
  have hpC : p.C.length ≤ maxLen := by unfold maxLen; omega
  clear hpy hPS hPI hT2 hUI hu hp1 hp2 hl2
  go_wp2_with fail
  refine (HPI.out _).mono ?_
  rintro e w28 ⟨v28, rfl, ho28, hb28⟩
  obtain ⟨a28, c28, b28, d28, rfl, h281, h282, -⟩ := ho28
  have W28 := Lib.hid (al (nxt W27.out hb28) (.cells #[.int .i64 p.W, .int .i64 p.H, .slice a28 p.R.length c28, .slice b28 p.C.length d28] 26))
  have P28 := Lib.hid (Bx.new (ca := c28) (cb := d28) (OwnI.row h281) (OwnI.row h282))
  clear hb28 h281 h282 W27 HPI
  go_wp2_with fail
  refine (HUI.out a28 b28 c28 d28 _ hpR hpC P28.out.r P28.out.c).mono ?_
  rintro e w29 ⟨rfl, hb29⟩
  have P29 := Lib.hid (P28.out.later hb29)
  have W29 := Lib.hid (nxt W28.out hb29)
  clear hb29 P28 W28 HUI
  go_wp2_with fail
  refine (HPS.out _).mono ?_
  rintro e w30 ⟨v30, rfl, ho30, hb30⟩
  obtain ⟨a30, c30, b30, d30, rfl, h301, h302, -⟩ := ho30
  have P30 := Lib.hid (P29.out.later hb30)
  have P30a := Lib.hid (P30.out.al (.cells #[.int .i64 p.W, .int .i64 p.H, .slice a30 p.R.length c30, .slice b30 p.C.length d30] 26))
  have W30 := Lib.hid (al (nxt W29.out hb30) (.cells #[.int .i64 p.W, .int .i64 p.H, .slice a30 p.R.length c30, .slice b30 p.C.length d30] 26))
  have Q30 := Lib.hid (Bx.new (ca := c30) (cb := d30) (OwnI.row h301) (OwnI.row h302))
  clear hb30 h301 h302 P29 W29 HPS
  have z30 := P30.out.x.lt
  obtain ⟨p0, p1, p2, p3, -⟩ := P30.out.x.four
  have heq : (known == known) = true := by simp
  go_wp2_with fail
  refine (VHel.vmap_same p a28 b28 a30 b30 c28 d28 c30 d30 _ P30a.out.r P30a.out.c Q30.out.r Q30.out.c hpR hpC).mono ?_
  rintro e w31 ⟨rfl, hb31⟩
  have W31 := Lib.hid (nxt W30.out hb31)
  clear hb31 P30 P30a Q30 W30 z30 p0 p1 p2 p3 heq
  cases known with
  | false =>
    go_wp2
    go_ret
    exact ⟨rfl, W31.out⟩
  | true =>
    obtain ⟨rfl, rfl⟩ := HK.out rfl
    have hss : (u.toList == u.toList) = true := by simp
    go_wp2
    go_ret
    exact ⟨rfl, W31.out⟩

end Go.Proofs.Ytdphliobjafjaaa.MapW
