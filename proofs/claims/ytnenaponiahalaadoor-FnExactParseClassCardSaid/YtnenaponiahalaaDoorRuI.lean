/- Whether a Runner is valid: both texts. -/
import Derived.Test.YtnenaponiahalaaDoorWd
import Derived.Test.YtnenaponiahalaaDoorRuS
namespace Go.Proofs.YtnenaponiahalaaDoor.RuI
open Go.RowKit Lb Bk InA Wd RuK
set_option linter.unusedSimpArgs false
set_option linter.unusedVariables false

/-- Whether a Runner is valid. -/
def okR (r : Ru) : Bool := decide (1 ≤ r.id ∧ r.id ≤ 999) && (wordB r.nm && (wordB r.cl && (decide (1920 ≤ r.bo ∧ r.bo ≤ 2020) && decide (0 ≤ r.ca ∧ r.ca ≤ 9999))))

end Go.Proofs.YtnenaponiahalaaDoor.RuI
