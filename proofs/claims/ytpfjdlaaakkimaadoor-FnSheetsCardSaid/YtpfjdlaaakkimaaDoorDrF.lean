/- The drawing of texts and arguments of chapter 3. -/
import Derived.Test.YtpfjdlaaakkimaaDoorFtG
import Derived.Test.YtpfjdlaaakkimaaDoorCodB
namespace Go.Proofs.YtpfjdlaaakkimaaDoor.DrF
open Go.RowKit Lb Bk Cur FtD FtG CodB
set_option linter.unusedSimpArgs false
set_option linter.unusedVariables false

/-- What stands: the reader, beside what was there. -/
structure Rs (w W : World) (b m : Nat) : Prop where
  ok : Ok W b m
  B : Below w.heap.size w W
  lb : w.heap.size ≤ b
theorem Rs.step {w W W' : World} {b m m' : Nat} (h : Rs w W b m) (ho : Ok W' b m') (hg : W.grownBy W' (some b)) : Rs w W' b m' :=
  ⟨ho, h.B.grown hg h.B.size (fun k e => by cases e; exact h.lb), h.lb⟩
theorem Rs.below {w W W' : World} {b m : Nat} (h : Rs w W b m) (hb : Below W.heap.size W W') : Rs w W' b m := ⟨h.ok.below hb, h.B.trans (hb.mono h.B.size), h.lb⟩
theorem Rs.drew {w W : World} {b m : Nat} (h : Rs w W b m) : Rs w W.drew b m := ⟨h.ok, h.B.drew, h.lb⟩
theorem Rs.drewN {w W : World} {b m : Nat} (h : Rs w W b m) (n : Nat) : Rs w (W.drewN n) b m := h.below (below_drewN (Below.refl _ _) n)
theorem Rs.mono {w W : World} {b m m' : Nat} (h : Rs w W b m) (hm : m ≤ m') : Rs w W b m' := ⟨h.ok.mono hm, h.B, h.lb⟩
theorem Rs.start {w : World} {a : Option Addr} {n B : Nat} {xs : Nat → Nat} (h : Bytes w a n xs) (cap : Nat) (e : B = w.heap.size) : Rs w (w.alloc (.cells #[.slice a n cap, .int .i64 0, .int .u64 0] 80)) B 0 := by
  subst e
  exact ⟨begin_ h cap, (Below.refl _ _).alloc (Nat.le_refl _) _, Nat.le_refl _⟩

theorem all5 {W : World} {g : Nat} {t : TypeId} {x0 x1 x2 x3 x4 : Value} (h : Blk W g t #[x0, x1, x2, x3, x4]) (y0 y1 y2 y3 y4 : Value) :
    Blk (((((W.setCell ⟨g, 0, none⟩ y0).setCell ⟨g, 1, none⟩ y1).setCell ⟨g, 2, none⟩ y2).setCell ⟨g, 3, none⟩ y3).setCell ⟨g, 4, none⟩ y4) g t #[y0, y1, y2, y3, y4] := FtG.all5 h y0 y1 y2 y3 y4
theorem below5 {B g : Nat} {w W : World} (h : Below B w W) (hg : B ≤ g) (y0 y1 y2 y3 y4 : Value) :
    Below B w (((((W.setCell ⟨g, 0, none⟩ y0).setCell ⟨g, 1, none⟩ y1).setCell ⟨g, 2, none⟩ y2).setCell ⟨g, 3, none⟩ y3).setCell ⟨g, 4, none⟩ y4) :=
  ((((h.setCell (p := ⟨g, 0, none⟩) hg y0).setCell (p := ⟨g, 1, none⟩) hg y1).setCell (p := ⟨g, 2, none⟩) hg y2).setCell (p := ⟨g, 3, none⟩) hg y3).setCell (p := ⟨g, 4, none⟩) hg y4

set_option maxHeartbeats 1000000 in
theorem is_any (a : Option Addr) (n cap : Nat) (xs : Nat → Nat) (w : World) (hc : Bytes w a n xs) :
    Calls Tryd.prog 41 #[.slice a n cap] w fun e w' => (∃ f : Ft, e = .returned (.agg #[.int .i64 f.c, .string f.wh, .string f.wt, .string f.lk, .string f.sd])) ∧ Below w.heap.size w w' := by
  have hb0 : Below w.heap.size w (w.alloc (.cells nilF 25)) := (Below.refl _ _).alloc (Nat.le_refl _) _
  have HK := Lib.hid (Blk.new w 25 nilF)
  have HR := Lib.hid (Rs.start (B := w.heap.size + 1) (hc.below hb0) cap (by simp))
  have HB := Lib.hid hb0
  clear hc hb0
  go_enter Tryd.func41, Tryd.ntmps41
  go_wp2_with fail
  refine (feature_any _ 0 _ (by omega) HR.out.ok).mono ?_
  rintro e w1 ⟨⟨f, rfl⟩, hok, hg⟩
  have H1 := Lib.hid (HR.out.step hok hg)
  have HK1 := Lib.hid (show Blk w1 w.heap.size 25 nilF from HK.out.below H1.out.B (by simp))
  have HB1 := Lib.hid (show Below w.heap.size w w1 from HB.out.trans (H1.out.B.mono (by simp)))
  clear hok hg
  obtain ⟨r0, r1, r2, r3, r4, z0, z1, z2, z3, z4⟩ := HK1.out.five
  go_wp2
  have hR := Lib.hid (all5 HK1.out (.int .i64 f.c) (.string f.wh) (.string f.wt) (.string f.lk) (.string f.sd))
  obtain ⟨u0, u1, u2, u3, u4, -⟩ := hR.out.five
  exact bodyPost_ret (v := .agg #[.int .i64 f.c, .string f.wh, .string f.wt, .string f.lk, .string f.sd]) (by simp [results, Tryd.results41, go_sem, u0, u1, u2, u3, u4]) rfl ⟨⟨_, rfl⟩, below5 HB1.out (Nat.le_refl _) _ _ _ _ _⟩

set_option maxHeartbeats 1000000 in
theorem text_any (a : Option Addr) (n cap : Nat) (xs : Nat → Nat) (w : World) (hc : Bytes w a n xs) :
    Calls Tryd.prog 9 #[.slice a n cap] w fun e w' => (∃ f : Ft, e = .returned (.agg #[.int .i64 f.c, .string f.wh, .string f.wt, .string f.lk, .string f.sd])) ∧ Below w.heap.size w w' := by
  have hb0 : Below w.heap.size w (w.alloc (.cells nilF 25)) := (Below.refl _ _).alloc (Nat.le_refl _) _
  have HK := Lib.hid (Blk.new w 25 nilF)
  have HC := Lib.hid (hc.below hb0)
  have HB := Lib.hid hb0
  clear hc hb0
  go_enter Tryd.func9, Tryd.ntmps9
  go_wp2_with fail
  refine (is_any a n cap xs _ HC.out).mono ?_
  rintro e w1 ⟨⟨f, rfl⟩, hb⟩
  have HK1 := Lib.hid (HK.out.later hb)
  have HB1 := Lib.hid (show Below w.heap.size w w1 from HB.out.trans (hb.mono (by simp)))
  clear hb
  obtain ⟨r0, r1, r2, r3, r4, z0, z1, z2, z3, z4⟩ := HK1.out.five
  go_wp2
  have hR := Lib.hid (all5 HK1.out (.int .i64 f.c) (.string f.wh) (.string f.wt) (.string f.lk) (.string f.sd))
  obtain ⟨u0, u1, u2, u3, u4, -⟩ := hR.out.five
  exact bodyPost_ret (v := .agg #[.int .i64 f.c, .string f.wh, .string f.wt, .string f.lk, .string f.sd]) (by simp [results, Tryd.results9, go_sem, u0, u1, u2, u3, u4]) rfl ⟨⟨_, rfl⟩, below5 HB1.out (Nat.le_refl _) _ _ _ _ _⟩

end Go.Proofs.YtpfjdlaaakkimaaDoor.DrF
