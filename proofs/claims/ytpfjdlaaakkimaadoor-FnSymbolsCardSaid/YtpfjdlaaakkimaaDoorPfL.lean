/- 'FnExactParseFeature' answers as its model, at every argument: the walk of the law. -/
import Derived.Test.YtpfjdlaaakkimaaDoorPfE
import Derived.Test.YtpfjdlaaakkimaaDoorFtS
namespace Go.Proofs.YtpfjdlaaakkimaaDoor.PfL
open Go.RowKit Lb Bk FtS FtO Fmt
set_option linter.unusedSimpArgs false
set_option linter.unusedVariables false

def Mx (w : World) : Prop := ∃ m, w.cell? ⟨0, 0, none⟩ = some (.int .i64 m)
theorem mx_below {w w' : World} (h : Mx w) (hb : Below w.heap.size w w') : Mx w' := by
  obtain ⟨m, hm⟩ := h
  have hlt : 0 < w.heap.size := World.block_lt_of_cell? w _ hm
  exact ⟨m, (hb.cell hlt).trans hm⟩

theorem all5 {W : World} {g : Nat} {t : TypeId} {x0 x1 x2 x3 x4 : Value} (h : Blk W g t #[x0, x1, x2, x3, x4]) (y0 y1 y2 y3 y4 : Value) :
    Blk (((((W.setCell ⟨g, 0, none⟩ y0).setCell ⟨g, 1, none⟩ y1).setCell ⟨g, 2, none⟩ y2).setCell ⟨g, 3, none⟩ y3).setCell ⟨g, 4, none⟩ y4) g t #[y0, y1, y2, y3, y4] := PfI.all5 h y0 y1 y2 y3 y4

theorem below5 {b g : Nat} {w W : World} (h : Below b w W) (hg : b ≤ g) (y0 y1 y2 y3 y4 : Value) :
    Below b w (((((W.setCell ⟨g, 0, none⟩ y0).setCell ⟨g, 1, none⟩ y1).setCell ⟨g, 2, none⟩ y2).setCell ⟨g, 3, none⟩ y3).setCell ⟨g, 4, none⟩ y4) :=
  ((((h.setCell (p := ⟨g, 0, none⟩) hg y0).setCell (p := ⟨g, 1, none⟩) hg y1).setCell (p := ⟨g, 2, none⟩) hg y2).setCell (p := ⟨g, 3, none⟩) hg y3).setCell (p := ⟨g, 4, none⟩) hg y4

set_option maxHeartbeats 4000000 in
theorem law_any (W : World) (hG : Prs.Glob W ∧ Mx W) (s : ByteArray) (hs : s.size ≤ maxLen) :
    Calls Tryd.prog 6 #[.string s] W fun e w' => e = .returned (.bool true) ∧ Below W.heap.size W w' := by
  unfold maxLen at hs
  by_cases hbig : s.size ≤ 1048576
  · obtain ⟨f, ok, hz, hi, hsp⟩ := PfE.both_v s hbig
    have HI := Lib.hid hi
    have HSP := Lib.hid hsp
    have HG := Lib.hid hG
    clear hz hi hsp hG
    go_enter Tryd.func6, Tryd.ntmps6
    go_wp2_with fail
    refine (HSP.out _).mono ?_
    rintro e w1 ⟨rfl, hb1⟩
    have HB1 := Lib.hid hb1
    have HB3 := Lib.hid (hb1.alloc hb1.size (.cells #[.int .i64 f.c, .string f.wh, .string f.wt, .string f.lk, .string f.sd] 25))
    have HK3 := Lib.hid (Blk.new w1 25 #[.int .i64 f.c, .string f.wh, .string f.wt, .string f.lk, .string f.sd])
    clear hb1
    go_wp2_with fail
    obtain ⟨m, hm⟩ := mx_below HG.out.2 HB3.out
    refine (HI.out _ (Prs.Glob.below HG.out.1 HB3.out) m hm).mono ?_
    rintro e w2 ⟨rfl, hb2⟩
    have HB4 := Lib.hid (HB3.out.trans (hb2.mono HB3.out.size))
    have HK4 := Lib.hid (HK3.out.later hb2)
    clear hb2 hm
    have HB5 := Lib.hid (HB4.out.alloc HB4.out.size (.cells #[.int .i64 f.c, .string f.wh, .string f.wt, .string f.lk, .string f.sd] 25))
    have HK5 := Lib.hid (Blk.new w2 25 #[.int .i64 f.c, .string f.wh, .string f.wt, .string f.lk, .string f.sd])
    have HL5 := Lib.hid (HK4.out.alloc (.cells #[.int .i64 f.c, .string f.wh, .string f.wt, .string f.lk, .string f.sd] 25))
    obtain ⟨p0, p1, p2, p3, p4, -⟩ := HK5.out.five
    obtain ⟨q0, q1, q2, q3, q4, -⟩ := HL5.out.five
    go_wp2_with fail
    clear p0 p1 p2 p3 p4 q0 q1 q2 q3 q4
    refine (eq_same f _).mono ?_
    rintro e w3 ⟨rfl, hb3⟩
    have HB6 := Lib.hid (HB5.out.trans (hb3.mono HB5.out.size))
    clear hb3
    have hne : (ok != ok) = false := by simp
    go_wp2
    go_ret
    exact ⟨rfl, HB6.out⟩
  · have hb : (1048576 : Int) < s.size := by omega
    go_enter Tryd.func6, Tryd.ntmps6
    go_wp2
    go_ret
    exact ⟨rfl, Below.refl _ _⟩

end Go.Proofs.YtpfjdlaaakkimaaDoor.PfL
