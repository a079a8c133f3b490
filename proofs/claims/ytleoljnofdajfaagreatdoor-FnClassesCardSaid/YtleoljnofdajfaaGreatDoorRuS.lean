/- The laws' own helpers over one Runner: contracts. -/
import Derived.Test.YtleoljnofdajfaaGreatDoorRuM
namespace Go.Proofs.YtleoljnofdajfaaGreatDoor.RuK
open Go.RowKit Lb Bk
set_option linter.unusedSimpArgs false
set_option linter.unusedVariables false

/-- One that came in: its texts are not too long. -/
structure Is (f : Ru) : Prop where
  nm : f.nm.size ≤ maxLen
  cl : f.cl.size ≤ maxLen
def sz (f : Ru) : Int := (f.nm.size : Int) + (f.cl.size : Int)
theorem sz_nn (f : Ru) : 0 ≤ sz f := by unfold sz; omega

end Go.Proofs.YtleoljnofdajfaaGreatDoor.RuK
