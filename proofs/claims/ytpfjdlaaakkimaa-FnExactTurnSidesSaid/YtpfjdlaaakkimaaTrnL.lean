/- 'FnExactTurnSides' answers as its model, at every argument: the walk of the law. -/
import Derived.Test.YtpfjdlaaakkimaaTrnS
namespace Go.Proofs.Ytpfjdlaaakkimaa.TrnL
open Go.RowKit Lb Bk FtS FtO
set_option linter.unusedSimpArgs false
set_option linter.unusedVariables false

set_option maxHeartbeats 2000000 in
theorem law_any (W : World) (f : Ft) (hf : IsFt f) (q : Int) (hq : (Lit.int IntKind.i64 q).wf = true) :
    Calls Try.prog 6 #[.agg #[.int .i64 f.c, .string f.wh, .string f.wt, .string f.lk, .string f.sd], .int .i64 q] W fun e w' => e = .returned (.bool true) ∧ Below W.heap.size W w' := by
  have HS := Lib.hid (LSt.start W f)
  by_cases hsz : szF f ≤ 1048576
  · have HZ := Lib.hid hsz
    have hneg : decide ((1048576 : Int) - szF f < 0) = false := decide_eq_false (by omega)
    obtain ⟨g, ok, hS, hI⟩ := TrnS.both f q
    have cS := Lib.hid hS
    have cI := Lib.hid hI
    clear hsz hS hI
    go_enter Try.func6, Try.ntmps6
    go_wp2_with fail
    refine (sz_yes f _ _ (by decide) HZ.out).mono ?_
    rintro e w2 ⟨rfl, hb2⟩
    have HS2 := Lib.hid (HS.out.later hb2)
    clear hb2
    obtain ⟨p0, p1, p2, p3, p4, -⟩ := HS2.out.K.five
    go_wp2_with fail
    clear p0 p1 p2 p3 p4
    refine (to_any f _).mono ?_
    rintro e w3 ⟨rfl, hb3⟩
    have HS3 := Lib.hid (HS2.out.later hb3)
    clear hb3
    go_wp2_with fail
    refine (cS.out _).mono ?_
    rintro e w4 ⟨rfl, hb4⟩
    have HS4 := Lib.hid ((HS3.out.later hb4).alloc (.cells #[.int .i64 g.c, .string g.wh, .string g.wt, .string g.lk, .string g.sd] 26))
    have HG4 := Lib.hid (Blk.new w4 26 #[.int .i64 g.c, .string g.wh, .string g.wt, .string g.lk, .string g.sd])
    clear hb4
    obtain ⟨p0, p1, p2, p3, p4, -⟩ := HS4.out.K.five
    go_wp2_with fail
    clear p0 p1 p2 p3 p4
    refine (to_any f _).mono ?_
    rintro e w5 ⟨rfl, hb5⟩
    have HS5 := Lib.hid (HS4.out.later hb5)
    have HG5 := Lib.hid (HG4.out.later hb5)
    clear hb5
    go_wp2_with fail
    refine (cI.out _).mono ?_
    rintro e w6 ⟨rfl, hb6⟩
    have HS6 := Lib.hid ((HS5.out.later hb6).alloc (.cells #[.int .i64 g.c, .string g.wh, .string g.wt, .string g.lk, .string g.sd] 26))
    have HG6 := Lib.hid ((HG5.out.later hb6).alloc (.cells #[.int .i64 g.c, .string g.wh, .string g.wt, .string g.lk, .string g.sd] 26))
    have HI6 := Lib.hid (Blk.new w6 26 #[.int .i64 g.c, .string g.wh, .string g.wt, .string g.lk, .string g.sd])
    clear hb6
    have hlt := HG6.out.lt
    obtain ⟨q0, q1, q2, q3, q4, -⟩ := HG6.out.five
    obtain ⟨p0, p1, p2, p3, p4, -⟩ := HI6.out.five
    go_wp2_with fail
    clear p0 p1 p2 p3 p4 q0 q1 q2 q3 q4
    refine (eq_same g _).mono ?_
    rintro e w7 ⟨rfl, hb7⟩
    have HS7 := Lib.hid (HS6.out.later hb7)
    clear hb7
    go_wp2
    go_ret
    exact ⟨rfl, HS7.out.B⟩
  · have HZ := Lib.hid (show (1048576 : Int) < szF f by omega)
    clear hsz
    go_enter Try.func6, Try.ntmps6
    go_wp2_with (go_at_call 9; refine (sz_no f hf _ _ (by decide) (by decide) HZ.out).mono ?_; rintro e w2 ⟨rfl, hb2⟩; have HS2 := Lib.hid (HS.out.later hb2))
    go_ret
    exact ⟨rfl, HS2.out.B⟩

end Go.Proofs.Ytpfjdlaaakkimaa.TrnL
