/- 'FormatInt' answers as its model, at every int: the walk of the law. -/
import Derived.Test.YtcilgbniahaejaaDoorFmt
namespace Go.Proofs.YtcilgbniahaejaaDoor.FmtL
open Go.RowKit Lb Fmt
set_option linter.unusedSimpArgs false
set_option linter.unusedVariables false

set_option maxHeartbeats 400000 in
theorem formatInt_any (w : World) (ht : Tab w) (n : Int) (hn : (Lit.int .i64 n).wf = true) :
    Calls Tryd.prog 4 #[.int .i64 n] w fun e w' => e = .returned (.bool true) ∧ Below w.heap.size w w' := by
  by_cases h : -999999 ≤ n ∧ n ≤ 999999
  · have c1 := Lib.hid (specFmt_ok n h.1 h.2 w)
    have c2 := Lib.hid (fun m => implFmt_ok n h.1 h.2 (w.drewN m) ht)
    clear h
    go_enter Tryd.func4, Tryd.ntmps4
    go_wp2_with fail
    refine c1.out.mono ?_
    rintro e w1 ⟨rfl, m, rfl⟩
    go_wp2_with fail
    refine (c2.out m).mono ?_
    rintro e w1 ⟨rfl, hb⟩
    go_wp2
    go_ret
    exact ⟨rfl, ((Still.below ⟨m, rfl⟩ _).trans hb)⟩
  · have c1 := Lib.hid (specFmt_no n hn (by omega) w)
    have c2 := Lib.hid (implFmt_no n hn (by omega) w)
    clear h
    go_enter Tryd.func4, Tryd.ntmps4
    go_wp2_with fail
    refine c1.out.mono ?_
    rintro e w1 ⟨rfl, rfl⟩
    go_wp2_with fail
    refine c2.out.mono ?_
    rintro e w1 ⟨rfl, rfl⟩
    go_wp2
    go_ret
    exact ⟨rfl, Below.refl _ _⟩

end Go.Proofs.YtcilgbniahaejaaDoor.FmtL
