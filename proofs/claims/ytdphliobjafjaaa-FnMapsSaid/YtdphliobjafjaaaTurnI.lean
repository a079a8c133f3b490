/- Turning a map: the program's text. -/
import Derived.Test.YtdphliobjafjaaaEmp
import Derived.BigRegion
namespace Go.Proofs.Ytdphliobjafjaaa.TurnI
open Go.RowKit Lb IntS MapS MapV SpecB Emp
set_option linter.unusedSimpArgs false
set_option linter.unusedVariables false

theorem below_drew {B : Nat} {a w : World} (h : Below B a w) : Below B a w.drew := h.drew
theorem dm (w c x y : Nat) (h1 : c % w = x) (h2 : c / w = y) : ((c : Int) % (w : Int) = (x : Int)) ∧ ((c : Int) / (w : Int) = (y : Int)) := by
  subst h1 h2
  exact ⟨by omega, by omega⟩

/-- Two rows that are filled, in a map of the call's own. -/
structure Wrt (w : World) (g1 g2 g4 : Nat) (p q : Int) (n : Nat) (L1 L2 : List Int) (box : Array Value) (wr : World) : Prop where
  r : RowB wr g1 L1
  c : RowB wr g2 L2
  out : Blk wr g4 26 #[.int .i64 p, .int .i64 q, .slice (some ⟨g1, 0, none⟩) n n, .slice (some ⟨g2, 0, none⟩) n n]
  box : Blk wr w.heap.size 26 box
  res : Blk wr (w.heap.size + 1) 26 #[.int .i64 0, .int .i64 0, .slice none 0 0, .slice none 0 0]
  b : Below w.heap.size w wr
  h1 : w.heap.size + 1 < g1
  h2 : w.heap.size + 1 < g2
  h4 : w.heap.size + 1 < g4
  n1 : g1 ≠ g2
  n2 : g1 ≠ g4
  n3 : g2 ≠ g4
theorem Wrt.drewN {w : World} {g1 g2 g4 : Nat} {p q : Int} {n : Nat} {L1 L2 : List Int} {box : Array Value} {wr : World} (h : Wrt w g1 g2 g4 p q n L1 L2 box wr) (k : Nat) : Wrt w g1 g2 g4 p q n L1 L2 box (wr.drewN k) :=
  ⟨h.r, h.c, h.out, h.box, h.res, below_drewN h.b k, h.h1, h.h2, h.h4, h.n1, h.n2, h.n3⟩
theorem Wrt.drew {w : World} {g1 g2 g4 : Nat} {p q : Int} {n : Nat} {L1 L2 : List Int} {box : Array Value} {wr : World} (h : Wrt w g1 g2 g4 p q n L1 L2 box wr) : Wrt w g1 g2 g4 p q n L1 L2 box wr.drew :=
  ⟨h.r, h.c, h.out, h.box, h.res, h.b.drew, h.h1, h.h2, h.h4, h.n1, h.n2, h.n3⟩
theorem Wrt.putR {w : World} {g1 g2 g4 : Nat} {p q : Int} {n : Nat} {L1 L2 : List Int} {box : Array Value} {wr : World} (h : Wrt w g1 g2 g4 p q n L1 L2 box wr) (i : Nat) (z : Int) : Wrt w g1 g2 g4 p q n (L1.set i z) L2 box (wr.setCell ⟨g1, i, none⟩ (.int .i64 z)) := by
  have := h.h1
  exact ⟨h.r.set_ i z, Blk.far h.c (p := ⟨g1, i, none⟩) (fun e => h.n1 e.symm) _, h.out.far (p := ⟨g1, i, none⟩) (fun e => h.n2 e.symm) _, h.box.far (p := ⟨g1, i, none⟩) (by show w.heap.size ≠ g1; omega) _, h.res.far (p := ⟨g1, i, none⟩) (by show w.heap.size + 1 ≠ g1; omega) _, h.b.setCell (p := ⟨g1, i, none⟩) (by show w.heap.size ≤ g1; omega) _, h.h1, h.h2, h.h4, h.n1, h.n2, h.n3⟩
theorem Wrt.putC {w : World} {g1 g2 g4 : Nat} {p q : Int} {n : Nat} {L1 L2 : List Int} {box : Array Value} {wr : World} (h : Wrt w g1 g2 g4 p q n L1 L2 box wr) (i : Nat) (z : Int) : Wrt w g1 g2 g4 p q n L1 (L2.set i z) box (wr.setCell ⟨g2, i, none⟩ (.int .i64 z)) := by
  have := h.h2
  exact ⟨Blk.far h.r (p := ⟨g2, i, none⟩) (fun e => h.n1 e) _, h.c.set_ i z, h.out.far (p := ⟨g2, i, none⟩) (fun e => h.n3 e.symm) _, h.box.far (p := ⟨g2, i, none⟩) (by show w.heap.size ≠ g2; omega) _, h.res.far (p := ⟨g2, i, none⟩) (by show w.heap.size + 1 ≠ g2; omega) _, h.b.setCell (p := ⟨g2, i, none⟩) (by show w.heap.size ≤ g2; omega) _, h.h1, h.h2, h.h4, h.n1, h.n2, h.n3⟩

set_option maxRecDepth 100000 in
set_option maxHeartbeats 4000000 in
theorem turn_raw (ww hh : Nat) (R C : List Int) (a b : Option Addr) (ca cb : Nat) (w : World) (g : GoodM ⟨ww, hh, R, C⟩ ww hh) (hr : IRow w a R) (hc : IRow w b C) :
    Calls Try.prog 16 #[.agg #[.int .i64 ww, .int .i64 hh, .slice a R.length ca, .slice b C.length cb]] w (MPost w ⟨hh, ww, gath (fromT ww hh) (ww * hh) R, gath (fromT ww hh) (ww * hh) C⟩ true) := by
  have v1 := g.w1
  have v6 := g.w6
  have h1 := g.h1
  have h6 := g.h6
  have n36 := g.n36
  have hR : R.length ≤ maxLen := by have := g.R; unfold maxLen; simp only at this; omega
  have hC : C.length ≤ maxLen := by have := g.C; unfold maxLen; simp only at this; omega
  have hRl := Lib.hid (show R.length = ww * hh from g.R)
  have hCl := Lib.hid (show C.length = ww * hh from g.C)
  have HB := Lib.hid (((Below.refl w.heap.size w).alloc (Nat.le_refl _) (.cells #[.int .i64 ww, .int .i64 hh, .slice a R.length ca, .slice b C.length cb] 26)).alloc (by simp) (.cells #[.int .i64 0, .int .i64 0, .slice none 0 0, .slice none 0 0] 26))
  have hk := okB_yes (m := ⟨ww, hh, R, C⟩) (by
    refine ⟨⟨by show (1 : Int) ≤ ww; omega, by show (ww : Int) ≤ 6; omega, by show (1 : Int) ≤ hh; omega, by show (hh : Int) ≤ 6; omega, ?_, by show C.length = R.length; rw [hRl.out, hCl.out]⟩, fun i hi => g.cell i (by rw [← hRl.out]; exact hi)⟩
    show (R.length : Int) = (ww : Int) * (hh : Int)
    rw [hRl.out, Int.natCast_mul])
  have HK0 := Lib.hid ((Blk.new w 26 #[.int .i64 ww, .int .i64 hh, .slice a R.length ca, .slice b C.length cb]).alloc (.cells #[.int .i64 0, .int .i64 0, .slice none 0 0, .slice none 0 0] 26))
  have HQ0 := Lib.hid (Blk.new (w.alloc (.cells #[.int .i64 ww, .int .i64 hh, .slice a R.length ca, .slice b C.length cb] 26)) 26 #[.int .i64 0, .int .i64 0, .slice none 0 0, .slice none 0 0])
  clear g
  go_enter Try.func16, Try.ntmps16
  go_wp2_with fail
  refine (MapV.impl_any ⟨ww, hh, R, C⟩ a b ca cb _ hR hC (RowAt.below hr HB.out) (RowAt.below hc HB.out)).mono ?_
  rw [hk]
  rintro e w1 ⟨rfl, hb1⟩
  have HK1 := Lib.hid (HK0.out.later hb1)
  have HQ1 := Lib.hid (HQ0.out.later hb1)
  have hs1 := hb1.size
  simp only [World.size_alloc] at hs1
  have HB1 := Lib.hid (HB.out.trans (hb1.mono (by simp; omega)))
  clear hb1 hk HK0 HQ0 HB
  obtain ⟨p0, p1, p2, p3, -⟩ := HK1.out.four
  go_wp2_with fail
  refine (emp_any hh ww (ww * hh) _ (Nat.mul_comm hh ww) n36 h6 v6).mono ?_
  rintro e w2 ⟨g1, g2, rfl, hr1, hr2, hg1, hg2, hne, hb2⟩
  have hl1 := Blk.lt hr1
  have hl2 := Blk.lt hr2
  have hw12 := hb2.size
  have HW0 := Lib.hid (show Wrt w g1 g2 w2.heap.size hh ww (ww * hh) (Lb.part (fromT ww hh) (ww * hh) R 0) (Lb.part (fromT ww hh) (ww * hh) C 0) #[.int .i64 ww, .int .i64 hh, .slice a R.length ca, .slice b C.length cb] (w2.alloc (.cells #[.int .i64 hh, .int .i64 ww, .slice (some ⟨g1, 0, none⟩) (ww * hh) (ww * hh), .slice (some ⟨g2, 0, none⟩) (ww * hh) (ww * hh)] 26)) from by
    rw [part_zero, part_zero]
    refine ⟨hr1.alloc _, hr2.alloc _, Blk.new _ _ _, (HK1.out.later hb2).alloc _, ?_, (HB1.out.trans (hb2.mono HB1.out.size)).alloc (by omega) _, by omega, by omega, by omega, hne, by omega, by omega⟩
    have := HQ1.out
    rw [World.size_alloc] at this
    exact (this.later hb2).alloc _)
  have HKx := Lib.hid (HK1.out.later hb2)
  clear hr1 hr2 hg1 hg2 hne hb2 hl1 hl2 p0 p1 p2 p3
  obtain ⟨p0, p1, p2, p3, -⟩ := HKx.out.four
  have hzz : w.heap.size < w2.heap.size := HKx.out.lt
  go_wp2_with fail
  clear p0 p1 p2 p3
  go_loopg [21] (ww * hh) (fun k si wr => ∃ c : Nat, c ≤ ww * hh ∧ k = ww * hh - c ∧ si = .int .i64 c ∧ Wrt w g1 g2 w2.heap.size hh ww (ww * hh) (Lb.part (fromT ww hh) (ww * hh) R c) (Lb.part (fromT ww hh) (ww * hh) C c) #[.int .i64 ww, .int .i64 hh, .slice a R.length ca, .slice b C.length cb] wr)
  case atStart => exact ⟨0, Nat.zero_le _, rfl, rfl, HW0.out⟩
  case round =>
    obtain ⟨c, hcn, hkc, rfl, hW⟩ := hrel
    have HW := Lib.hid hW
    clear hW HW0
    obtain ⟨p0, p1, p2, p3, -⟩ := HW.out.box.four
    by_cases hlt : c < ww * hh
    · have hltR : c < R.length := by have := hRl.out; omega
      have hltC : c < C.length := by have := hCl.out; omega
      obtain ⟨x, hx⟩ : ∃ x, c % ww = x := ⟨_, rfl⟩
      obtain ⟨y, hy⟩ : ∃ y, c / ww = y := ⟨_, rfl⟩
      have hxw : x < ww := by rw [← hx]; exact Nat.mod_lt _ v1
      have hyh : y < hh := by rw [← hy]; exact div_lt_of v1 hlt
      obtain ⟨d1, d2⟩ := dm ww c x y hx hy
      obtain ⟨t, ht⟩ : ∃ t, toT ww hh c = t := ⟨_, rfl⟩
      have htn : t < ww * hh := by rw [← ht]; exact toT_lt v1 hlt
      have hft : fromT ww hh t = c := by rw [← ht]; exact from_to v1 hlt
      have hun : ∀ j, j < ww * hh → fromT ww hh j = c → j = t := fun j hj e => by rw [← ht, ← e]; exact ((to_from h1 hj).2).symm
      have HSR := Lib.hid (part_set (fromT ww hh) (ww * hh) R c t htn hft hun)
      have HSC := Lib.hid (part_set (fromT ww hh) (ww * hh) C c t htn hft hun)
      have hxh : x * hh + hh ≤ ww * hh := by have := Nat.mul_le_mul_right hh (show x + 1 ≤ ww from hxw); rwa [Nat.add_mul, Nat.one_mul] at this
      have hxm : (x : Int) * (hh : Int) = ((x * hh : Nat) : Int) := by rw [Int.natCast_mul]
      have hto : (x : Int) * (hh : Int) + (hh : Int) - 1 - (y : Int) = (t : Int) := by
        rw [hxm, ← ht]
        unfold toT
        rw [hx, hy]
        omega
      have hx1 : 0 ≤ (x : Int) * (hh : Int) := by omega
      have hx2 : (x : Int) * (hh : Int) ≤ 36 := by omega
      have hx3 : 0 ≤ (x : Int) * (hh : Int) + (hh : Int) - 1 - (y : Int) := by omega
      clear hx hy ht hft hun hxm
      go_upto_region 7 with (fail)
      go_cut [6, 7] from 24 to 60 (fun sx sy wx => sx = .int .i64 x ∧ sy = .int .i64 y ∧ Wrt w g1 g2 w2.heap.size hh ww (ww * hh) (Lb.part (fromT ww hh) (ww * hh) R c) (Lb.part (fromT ww hh) (ww * hh) C c) #[.int .i64 ww, .int .i64 hh, .slice a R.length ca, .slice b C.length cb] wx)
      case first =>
        clear hto hx1 hx2 hx3
        go_quiet (fail)
        go_wp2_with fail
        go_meet
        exact ⟨(by first | rfl | rw [d1]), (by first | rfl | rw [d2]), HW.out.drewN _⟩
      case rest =>
      obtain ⟨rfl, rfl, hW7⟩ := hcut
      have HW7 := Lib.hid hW7
      clear hW7 p0 p1 p2 p3 d1 d2
      obtain ⟨p0, p1, p2, p3, -⟩ := HW7.out.box.four
      obtain ⟨q0, q1, q2, q3, -⟩ := HW7.out.out.four
      go_upto_region 9 with (fail)
      go_cut [] from 24 to 60 (fun wx => Wrt w g1 g2 w2.heap.size hh ww (ww * hh) (Lb.part (fromT ww hh) (ww * hh) R (c + 1)) (Lb.part (fromT ww hh) (ww * hh) C c) #[.int .i64 ww, .int .i64 hh, .slice a R.length ca, .slice b C.length cb] wx)
      case first =>
        rcases RowAt.below hr HW7.out.b with h0 | ⟨b1, off1, rfl, hc1⟩
        · omega
        have e1 := hc1 c hltR
        obtain ⟨e2, e3⟩ := HW7.out.r.cell t (by rw [part_length]; exact htn)
        have k1 : (c : Int) < (R.length : Int) := by omega
        have k2 : (t : Int) < ((ww * hh : Nat) : Int) := by omega
        have k3 : (0 : Int) ≤ (c : Int) := by omega
        have k4 : (0 : Int) ≤ (t : Int) := by omega
        have k5 : (c : Int).toNat = c := by omega
        have k6 : (t : Int).toNat = t := by omega
        clear hc1 hto
        go_region
        all_goals go_wp2_with fail
        all_goals go_meet
        all_goals (rw [← HSR.out]; exact (HW7.out.putR t (zAt R c)).drew)
      case rest =>
      have HW9 := Lib.hid hcut
      clear hcut p0 p1 p2 p3 q0 q1 q2 q3 HW7
      obtain ⟨p0, p1, p2, p3, -⟩ := HW9.out.box.four
      obtain ⟨q0, q1, q2, q3, -⟩ := HW9.out.out.four
      rcases RowAt.below hc HW9.out.b with h0 | ⟨b1, off1, rfl, hc1⟩
      · omega
      have e1 := hc1 c hltC
      obtain ⟨e2, e3⟩ := HW9.out.c.cell t (by rw [part_length]; exact htn)
      have k1 : (c : Int) < (C.length : Int) := by omega
      have k2 : (t : Int) < ((ww * hh : Nat) : Int) := by omega
      have k3 : (0 : Int) ≤ (c : Int) := by omega
      have k4 : (0 : Int) ≤ (t : Int) := by omega
      have k5 : (c : Int).toNat = c := by omega
      have k6 : (t : Int).toNat = t := by omega
      clear hc1 hto
      go_upto_region 10 with (fail)
      go_region
      all_goals go_wp2_with fail
      all_goals go_roundg (ww * hh - (c + 1))
      all_goals first
        | (show _ < _; omega)
        | exact ⟨c + 1, by omega, rfl, by go_num, by rw [← HSC.out]; exact (HW9.out.putC t (zAt C c)).drew⟩
    · obtain rfl : c = ww * hh := by omega
      have hRn : ¬ (ww * hh < R.length) := by have := hRl.out; omega
      have hfl : ∀ j, j < ww * hh → fromT ww hh j < ww * hh := fun j hj => (to_from h1 hj).1
      have HWn := HW.out
      rw [part_all _ _ _ hfl, part_all _ _ _ hfl] at HWn
      have HZ := Lib.hid HWn
      clear HWn HW
      obtain ⟨q0, q1, q2, q3, f0, f1, f2, f3⟩ := HZ.out.out.four
      obtain ⟨r0, r1, r2, r3, l0, l1, l2, l3⟩ := HZ.out.res.four
      have hgl : (gath (fromT ww hh) (ww * hh) R).length = ww * hh := gath_length _ _ _
      have hgl2 : (gath (fromT ww hh) (ww * hh) C).length = ww * hh := gath_length _ _ _
      have HL := Lib.hid (And.intro hgl hgl2)
      clear hgl hgl2
      go_wp2
      refine bodyPost_ret (v := .tuple #[.agg #[.int .i64 hh, .int .i64 ww, .slice (some ⟨g1, 0, none⟩) (ww * hh) (ww * hh), .slice (some ⟨g2, 0, none⟩) (ww * hh) (ww * hh)], .bool true]) (by simp [results, Try.results16, go_sem, q0, q1, q2, q3, r0, r1, r2, r3]) rfl ⟨_, rfl, ⟨some ⟨g1, 0, none⟩, ww * hh, some ⟨g2, 0, none⟩, ww * hh, ?_, ?_, ?_, ?_⟩, ?_⟩
      · rw [HL.out.1, HL.out.2]
      · have h1 := HZ.out.h1
        have h := HZ.out.r.own (base := w.heap.size + 1 + 1) (by omega) (by rw [HL.out.1]; unfold maxLen; omega)
        unfold OwnI at h
        rw [HL.out.1] at h
        refine rebase (b := w.heap.size + 1 + 1) ?_ (by omega)
        repeat (refine ownsRow_setCell_below ?_ (by simp) _)
        rw [HL.out.1]
        exact h
      · have h1 := HZ.out.h2
        have h := HZ.out.c.own (base := w.heap.size + 1 + 1) (by omega) (by rw [HL.out.2]; unfold maxLen; omega)
        unfold OwnI at h
        rw [HL.out.2] at h
        refine rebase (b := w.heap.size + 1 + 1) ?_ (by omega)
        repeat (refine ownsRow_setCell_below ?_ (by simp) _)
        rw [HL.out.2]
        exact h
      · intro x y hx hy
        cases hx
        cases hy
        exact HZ.out.n1
      · repeat (refine Below.setCell ?_ (by simp) _)
        exact HZ.out.b

end Go.Proofs.Ytdphliobjafjaaa.TurnI
