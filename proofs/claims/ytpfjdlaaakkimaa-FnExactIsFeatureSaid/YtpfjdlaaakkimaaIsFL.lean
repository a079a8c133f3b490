/- 'FnExactIsFeature' answers as its model, at every argument: the walk of the law. -/
import Derived.Test.YtpfjdlaaakkimaaSpO
import Derived.Test.YtpfjdlaaakkimaaFtO
namespace Go.Proofs.Ytpfjdlaaakkimaa.IsFL
open Go.RowKit Lb Bk FtS FtO
set_option linter.unusedSimpArgs false
set_option linter.unusedVariables false

theorem specIs_any (f : Ft) (w : World) : Calls Try.prog 10 #[.agg #[.int .i64 f.c, .string f.wh, .string f.wt, .string f.lk, .string f.sd]] w fun e w' => e = .returned (.bool (okF f)) ∧ Below w.heap.size w w' := by
  go_enter Try.func10, Try.ntmps10
  go_wp2_with fail
  refine (SpO.spec_any f _).mono ?_
  rintro e w1 ⟨rfl, hb1⟩
  go_wp2
  go_ret
  exact ⟨rfl, ((Below.refl _ _).alloc (Nat.le_refl _) _).trans (hb1.mono (by simp))⟩

set_option maxHeartbeats 1000000 in
theorem law_any (W : World) (f : Ft) (hf : IsFt f) :
    Calls Try.prog 3 #[.agg #[.int .i64 f.c, .string f.wh, .string f.wt, .string f.lk, .string f.sd]] W fun e w' => e = .returned (.bool true) ∧ Below W.heap.size W w' := by
  have HS := Lib.hid (LSt.start W f)
  by_cases hsz : szF f ≤ 1048576
  · have HZ := Lib.hid hsz
    have hneg : decide ((1048576 : Int) - szF f < 0) = false := decide_eq_false (by omega)
    clear hsz
    go_enter Try.func3, Try.ntmps3
    go_wp2_with (first
      | (go_at_call 9; refine (sz_yes f _ _ (by decide) HZ.out).mono ?_; rintro e w2 ⟨rfl, hb2⟩; have HS2 := Lib.hid (HS.out.later hb2); clear hb2; have HS := HS2; obtain ⟨p0, p1, p2, p3, p4, -⟩ := HS2.out.K.five)
      | (go_at_call 11; refine (to_any f _).mono ?_; rintro e w2 ⟨rfl, hb2⟩; have HS2 := Lib.hid (HS.out.later hb2); clear hb2; have HS := HS2; obtain ⟨p0, p1, p2, p3, p4, -⟩ := HS2.out.K.five)
      | (go_at_call 10; refine (specIs_any f _).mono ?_; rintro e w2 ⟨rfl, hb2⟩; have HS2 := Lib.hid (HS.out.later hb2); clear hb2; have HS := HS2; obtain ⟨p0, p1, p2, p3, p4, -⟩ := HS2.out.K.five)
      | (go_at_call 12; refine (IsF.impl_any f _).mono ?_; rintro e w2 ⟨rfl, hb2⟩; have HS2 := Lib.hid (HS.out.later hb2); clear hb2; have HS := HS2; obtain ⟨p0, p1, p2, p3, p4, -⟩ := HS2.out.K.five))
    go_ret
    exact ⟨rfl, HS.out.B⟩
  · have HZ := Lib.hid (show (1048576 : Int) < szF f by omega)
    clear hsz
    go_enter Try.func3, Try.ntmps3
    go_wp2_with (go_at_call 9; refine (sz_no f hf _ _ (by decide) (by decide) HZ.out).mono ?_; rintro e w2 ⟨rfl, hb2⟩; have HS2 := Lib.hid (HS.out.later hb2))
    go_ret
    exact ⟨rfl, HS2.out.B⟩

end Go.Proofs.Ytpfjdlaaakkimaa.IsFL
