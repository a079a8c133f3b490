/- The laws' own helpers over one Control: contracts. -/
import Derived.Test.YtfpfnnindlfgfaaCtM
namespace Go.Proofs.Ytfpfnnindlfgfaa.CtK
open Go.RowKit Lb Bk
set_option linter.unusedSimpArgs false
set_option linter.unusedVariables false

/-- One that came in: its texts are not too long. -/
structure Is (f : Ct) : Prop where
  ok : True
def sz (f : Ct) : Int := 0
theorem sz_nn (f : Ct) : 0 ≤ sz f := by unfold sz; omega

set_option maxHeartbeats 2000000 in
theorem to_any (f : Ct) (w : World) :
    Calls Try.prog 118 #[.agg #[.int .i64 f.co, .int .i64 f.ce]] w fun e w' => e = .returned (.agg #[.int .i64 f.co, .int .i64 f.ce]) ∧ Below w.heap.size w w' := by
  go_enter Try.func118, Try.ntmps118
  go_wp2
  refine bodyPost_ret (v := .agg #[.int .i64 f.co, .int .i64 f.ce]) (by simp [results, Try.results118, go_sem]) rfl ?_
  exact ⟨rfl, (((Below.refl _ _).alloc (Nat.le_refl _) _).alloc (by simp) _).alloc (by simp; omega) _⟩

set_option maxHeartbeats 2000000 in
theorem eq_same (f : Ct) (w : World) :
    Calls Try.prog 120 #[.agg #[.int .i64 f.co, .int .i64 f.ce], .agg #[.int .i64 f.co, .int .i64 f.ce]] w fun e w' => e = .returned (.bool true) ∧ Below w.heap.size w w' := by
  go_enter Try.func120, Try.ntmps120
  go_wp2
  go_ret
  exact ⟨rfl, ((Below.refl _ _).alloc (Nat.le_refl _) _).alloc (by simp) _⟩

end Go.Proofs.Ytfpfnnindlfgfaa.CtK
