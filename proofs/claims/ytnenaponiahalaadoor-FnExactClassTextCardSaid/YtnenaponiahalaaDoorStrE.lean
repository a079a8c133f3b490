/- The laws' own comparison of lists of strings: a contract. -/
import Derived.Test.YtnenaponiahalaaDoorProg
import Derived.Test.YtnenaponiahalaaDoorLib
namespace Go.Proofs.YtnenaponiahalaaDoor.StrS
open Go.RowKit Lb
set_option linter.unusedSimpArgs false

end Go.Proofs.YtnenaponiahalaaDoor.StrS
