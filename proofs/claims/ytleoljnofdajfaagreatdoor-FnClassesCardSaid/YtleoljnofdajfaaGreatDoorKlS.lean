/- The laws' own helpers over one Class: contracts. -/
import Derived.Test.YtleoljnofdajfaaGreatDoorKlM
namespace Go.Proofs.YtleoljnofdajfaaGreatDoor.KlK
open Go.RowKit Lb Bk
set_option linter.unusedSimpArgs false
set_option linter.unusedVariables false

/-- One that came in: its texts are not too long. -/
structure Is (f : Kl) : Prop where
  nm : f.nm.size ≤ maxLen
def sz (f : Kl) : Int := (f.nm.size : Int)
theorem sz_nn (f : Kl) : 0 ≤ sz f := by unfold sz; omega

end Go.Proofs.YtleoljnofdajfaaGreatDoor.KlK
