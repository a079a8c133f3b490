/- The laws' own helpers over one Runner: contracts. -/
import Derived.Test.YtjngnjokbnklfaaDoorRuM
namespace Go.Proofs.YtjngnjokbnklfaaDoor.RuK
open Go.RowKit Lb Bk
set_option linter.unusedSimpArgs false
set_option linter.unusedVariables false

/-- One that came in: its texts are not too long. -/
structure Is (f : Ru) : Prop where
  nm : f.nm.size ≤ maxLen
  cl : f.cl.size ≤ maxLen
def sz (f : Ru) : Int := (f.nm.size : Int) + (f.cl.size : Int)
theorem sz_nn (f : Ru) : 0 ≤ sz f := by unfold sz; omega

set_option maxHeartbeats 2000000 in
theorem eq_same (f : Ru) (w : World) :
    Calls Tryd.prog 24 #[.agg #[.int .i64 f.id, .string f.nm, .string f.cl, .int .i64 f.bo, .bool f.wo, .int .i64 f.ca], .agg #[.int .i64 f.id, .string f.nm, .string f.cl, .int .i64 f.bo, .bool f.wo, .int .i64 f.ca]] w fun e w' => e = .returned (.bool true) ∧ Below w.heap.size w w' := by
  go_enter Tryd.func24, Tryd.ntmps24
  go_wp2
  go_ret
  exact ⟨rfl, ((Below.refl _ _).alloc (Nat.le_refl _) _).alloc (by simp) _⟩

end Go.Proofs.YtjngnjokbnklfaaDoor.RuK
